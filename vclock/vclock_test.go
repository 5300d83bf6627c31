package vclock_test

import (
	"math"
	"math/big"
	"math/rand/v2"
	"slices"
	"testing"

	"postroad/api"
	"postroad/vclock"
)

// The tests hold each queue against a list of what waits, in the order in which
// it came, that is looked through for the least stamp; its stamps know no bounds.

const (
	mostFlow    = 1<<31 - 1
	mostRoom    = 1000000000
	mostID      = 1 << 62
	mostPackets = 50000
	most        = math.MaxInt64
	least       = math.MinInt64
)

type flow struct {
	id, rate, room int64
	clock          *big.Rat
}

type wait struct {
	packet api.Packet
	stamp  *big.Rat
}

// plain is the reckoning. A stamp, a clock is never changed in its place.
type plain struct {
	flows []flow // as they were added
	waits []wait // as they came
}

func (p *plain) copy() *plain { return &plain{slices.Clone(p.flows), slices.Clone(p.waits)} }

func (p *plain) find(id int64) int {
	return slices.IndexFunc(p.flows, func(f flow) bool { return f.id == id })
}

func (p *plain) bytes(id int64) int64 {
	var all int64
	for _, w := range p.waits {
		if w.packet.Flow == id {
			all += w.packet.Size
		}
	}
	return all
}

func isFlow(id, rate, room int64) bool {
	return id >= 0 && id <= mostFlow && rate >= 1 && rate <= api.MaxRate && room >= 0 && room <= mostRoom
}

func isPacket(x api.Packet) bool {
	return x.ID >= 0 && x.ID <= mostID && x.Flow >= 0 && x.Flow <= mostFlow && x.Size >= 1 && x.Size <= api.MaxPacket
}

func isTick(now int64) bool { return now >= 0 && now <= api.MaxTicks }

func (p *plain) add(id, rate, room, now int64) api.Errno {
	switch {
	case !isFlow(id, rate, room), !isTick(now):
		return api.ErrArg
	case p.find(id) >= 0:
		return api.ErrTwice
	case len(p.flows) == api.MaxFlows:
		return api.ErrLong
	}
	p.flows = append(p.flows, flow{id, rate, room, big.NewRat(now, 1)})
	return api.OK
}

func (p *plain) set(id, rate, room int64) api.Errno {
	if !isFlow(id, rate, room) {
		return api.ErrArg
	}
	n := p.find(id)
	if n < 0 {
		return api.ErrNone
	}
	p.flows[n] = flow{id, rate, room, roundedUp(p.flows[n].clock)}
	return api.OK
}

func roundedUp(x *big.Rat) *big.Rat {
	up, rest := new(big.Int).QuoRem(x.Num(), x.Denom(), new(big.Int))
	if rest.Sign() > 0 {
		up.Add(up, big.NewInt(1))
	}
	return new(big.Rat).SetInt(up)
}

func (p *plain) drop(id int64) ([]api.Packet, api.Errno) {
	n := p.find(id)
	if n < 0 {
		return nil, api.ErrNone
	}
	var gone []api.Packet
	var stay []wait
	for _, w := range p.waits {
		if w.packet.Flow == id {
			gone = append(gone, w.packet)
		} else {
			stay = append(stay, w)
		}
	}
	p.waits = stay
	p.flows = slices.Delete(slices.Clone(p.flows), n, n+1)
	return gone, api.OK
}

func (p *plain) put(x api.Packet, now int64) (*big.Rat, api.Errno) {
	n := p.find(x.Flow)
	switch {
	case !isPacket(x), !isTick(now):
		return nil, api.ErrArg
	case n < 0:
		return nil, api.ErrNone
	case slices.ContainsFunc(p.waits, func(w wait) bool { return w.packet.ID == x.ID }):
		return nil, api.ErrTwice
	case p.bytes(x.Flow)+x.Size > p.flows[n].room:
		return nil, api.ErrRoom
	case len(p.waits) == mostPackets:
		return nil, api.ErrLong
	}
	stamp := big.NewRat(now, 1)
	if p.flows[n].clock.Cmp(stamp) > 0 {
		stamp.Set(p.flows[n].clock)
	}
	stamp.Add(stamp, big.NewRat(x.Size, p.flows[n].rate))
	p.flows[n].clock = stamp
	p.waits = append(p.waits, wait{x, stamp})
	return stamp, api.OK
}

// take takes the first one of those of the least stamp.
func (p *plain) take() (wait, bool) {
	if len(p.waits) == 0 {
		return wait{}, false
	}
	at := 0
	for n, w := range p.waits {
		if w.stamp.Cmp(p.waits[at].stamp) < 0 {
			at = n
		}
	}
	w := p.waits[at]
	p.waits = slices.Delete(slices.Clone(p.waits), at, at+1)
	return w, true
}

func (p *plain) told(f flow) api.Clocked {
	return api.Clocked{Flow: f.id, Rate: f.rate, Room: f.room, Bytes: p.bytes(f.id), Clock: fraction(f.clock)}
}

// list tells all that waits, the next one first.
func (p *plain) list() []stamped {
	var out []stamped
	rest := p.copy()
	for {
		w, is := rest.take()
		if !is {
			return out
		}
		out = append(out, stamped{w.packet, fraction(w.stamp)})
	}
}

func fraction(x *big.Rat) api.Rat { return api.Rat{N: x.Num().Int64(), D: x.Denom().Int64()} }

type stamped struct {
	packet api.Packet
	stamp  api.Rat
}

func listOf(q *vclock.Queue) []stamped {
	var out []stamped
	for x, stamp := range q.All() {
		out = append(out, stamped{x, stamp})
	}
	return out
}

// both are a queue and its reckoning, to which the same is done.
type both struct {
	t *testing.T
	q *vclock.Queue
	p *plain
}

func newBoth(t *testing.T) both { return both{t, vclock.New(), &plain{}} }

func (b both) copy() both { return both{b.t, b.q.Copy(), b.p.copy()} }

func (b both) add(id, rate, room, now int64) api.Errno {
	b.t.Helper()
	want := b.p.add(id, rate, room, now)
	if e := b.q.Add(id, rate, room, now); e != want {
		b.t.Fatalf("Add(%d, %d, %d, %d): %v, want %v", id, rate, room, now, e, want)
	}
	return want
}

func (b both) set(id, rate, room int64) api.Errno {
	b.t.Helper()
	want := b.p.set(id, rate, room)
	if e := b.q.Set(id, rate, room); e != want {
		b.t.Fatalf("Set(%d, %d, %d): %v, want %v", id, rate, room, e, want)
	}
	return want
}

func (b both) drop(id int64) ([]api.Packet, api.Errno) {
	b.t.Helper()
	want, wantE := b.p.drop(id)
	out, e := b.q.Drop(id)
	if !slices.Equal(out, want) || e != wantE {
		b.t.Fatalf("Drop(%d): %v, %v, want %v, %v", id, out, e, want, wantE)
	}
	return out, e
}

func (b both) put(x api.Packet, now int64) (api.Rat, api.Errno) {
	b.t.Helper()
	stamp, want := b.p.put(x, now)
	var wantStamp api.Rat
	if want == api.OK {
		wantStamp = fraction(stamp)
	}
	out, e := b.q.Put(x, now)
	if out != wantStamp || e != want {
		b.t.Fatalf("Put(%v, %d): %v, %v, want %v, %v", x, now, out, e, wantStamp, want)
	}
	return out, e
}

func (b both) take() (api.Packet, api.Rat, bool) {
	b.t.Helper()
	var wantStamp api.Rat
	want, wantIs := b.p.take()
	if wantIs {
		wantStamp = fraction(want.stamp)
	}
	x, stamp, is := b.q.Take()
	if x != want.packet || stamp != wantStamp || is != wantIs {
		b.t.Fatalf("Take: %v, %v, %v, want %v, %v, %v", x, stamp, is, want.packet, wantStamp, wantIs)
	}
	return x, stamp, is
}

// holds holds a queue against its reckoning, by all that can be asked, and fails
// if asking changes it.
func (b both) holds() {
	b.t.Helper()
	was := b.q.Copy()
	for range 2 {
		if out, want := listOf(b.q), b.p.list(); !slices.Equal(out, want) {
			b.t.Fatalf("All: %v, want %v", out, want)
		}
		if n := b.q.Len(); n != len(b.p.waits) {
			b.t.Fatalf("Len: %d, want %d", n, len(b.p.waits))
		}
		b.flowsHold()
	}
	if !vclock.Same(was, b.q) {
		b.t.Fatal("asking has changed it")
	}
}

func (b both) flowsHold() {
	b.t.Helper()
	var want []api.Clocked
	for _, f := range b.p.flows {
		told := b.p.told(f)
		want = append(want, told)
		if out, is := b.q.Flow(f.id); out != told || !is {
			b.t.Fatalf("Flow(%d): %v, %v, want %v", f.id, out, is, told)
		}
	}
	slices.SortFunc(want, func(a, b api.Clocked) int { return int(a.Flow - b.Flow) })
	if out := b.q.Flows(); !slices.Equal(out, want) {
		b.t.Fatalf("Flows: %v, want %v", out, want)
	}
	for _, id := range []int64{-1, 99, mostFlow, mostFlow + 1, most, least} {
		if b.p.find(id) < 0 {
			if f, is := b.q.Flow(id); is || f != (api.Clocked{}) {
				b.t.Fatalf("Flow(%d): %v, %v", id, f, is)
			}
		}
	}
}

// adds fails unless flows of these IDs may be added, each of Rate 4 and much room.
func (b both) adds(now int64, ids ...int64) {
	b.t.Helper()
	for _, id := range ids {
		told(b.t, "Add", b.add(id, 4, mostRoom, now), api.OK)
	}
}

// puts fails unless a packet may come.
func (b both) puts(id, flow, size, now int64) api.Rat {
	b.t.Helper()
	stamp, e := b.put(api.Packet{ID: id, Flow: flow, Size: size}, now)
	told(b.t, "Put", e, api.OK)
	return stamp
}

// refuses fails unless a packet is refused so, and nothing changes.
func (b both) refuses(x api.Packet, now int64, want api.Errno) {
	b.t.Helper()
	was := b.q.Copy()
	if stamp, e := b.put(x, now); stamp != (api.Rat{}) || e != want || !vclock.Same(was, b.q) {
		b.t.Fatalf("Put(%v, %d): %v, %v, want %v", x, now, stamp, e, want)
	}
}

// takes fails unless just these packets, by their IDs, are taken, and nothing is left.
func (b both) takes(ids ...int64) {
	b.t.Helper()
	for _, id := range ids {
		if x, _, is := b.take(); x.ID != id || !is {
			b.t.Fatalf("Take: %v, %v, want %d", x, is, id)
		}
	}
	b.isEmpty()
}

func (b both) isEmpty() {
	b.t.Helper()
	if x, stamp, is := b.take(); is || x != (api.Packet{}) || stamp != (api.Rat{}) || b.q.Len() != 0 {
		b.t.Fatalf("Take of none: %v, %v, %v, of %d", x, stamp, is, b.q.Len())
	}
}

func idsOf(l []api.Packet) []int64 {
	var ids []int64
	for _, x := range l {
		ids = append(ids, x.ID)
	}
	return ids
}

func told(t *testing.T, what string, e, want api.Errno) {
	t.Helper()
	if e != want {
		t.Fatalf("%s: %v, want %v", what, e, want)
	}
}

func by(n, d int64) api.Rat { return fraction(big.NewRat(n, d)) }

func source(n uint64) *rand.Rand { return rand.New(rand.NewPCG(n, 14)) }

func noFlows() []int64 {
	return []int64{-1, -2, mostFlow + 1, mostFlow + 2, most, least, least + 1, -mostFlow, 1<<32 + 1}
}

func noRates() []int64 {
	return []int64{0, -1, api.MaxRate + 1, api.MaxRate + 2, most, least, -api.MaxRate, 1<<32 + 4}
}

func noRooms() []int64 { return []int64{-1, -2, mostRoom + 1, mostRoom + 2, most, least} }

func noTicks() []int64 {
	return []int64{-1, -2, api.MaxTicks + 1, api.MaxTicks + 2, most, least, least + 1}
}

func noIDs() []int64 { return []int64{-1, -2, mostID + 1, mostID + 2, most, least, least + 1, -mostID} }

func noSizes() []int64 {
	return []int64{0, -1, api.MaxPacket + 1, api.MaxPacket + 2, most, least, -api.MaxPacket, 1<<32 + 8}
}

func nones() []*vclock.Queue {
	var none *vclock.Queue
	return []*vclock.Queue{nil, {}, new(vclock.Queue), none.Copy(), new(vclock.Queue).Copy()}
}

func anyFlow(r *rand.Rand) int64 {
	if r.IntN(20) == 0 {
		return []int64{-1, mostFlow, mostFlow + 1}[r.IntN(3)]
	}
	return r.Int64N(5)
}

func anyRate(r *rand.Rand) int64 {
	switch r.IntN(10) {
	case 0:
		return []int64{0, 1, api.MaxRate, api.MaxRate + 1}[r.IntN(4)]
	case 1:
		return 1 + r.Int64N(api.MaxRate)
	}
	return 1 + r.Int64N(7)
}

func anyRoom(r *rand.Rand) int64 {
	switch r.IntN(10) {
	case 0:
		return []int64{-1, 0, mostRoom, mostRoom + 1}[r.IntN(4)]
	case 1, 2, 3:
		return r.Int64N(60)
	}
	return mostRoom
}

// anyPacket tells mostly one that may be, and some that have one stamp.
func anyPacket(r *rand.Rand) api.Packet {
	x := api.Packet{ID: r.Int64N(40), Flow: anyFlow(r), Size: 1 + r.Int64N(12)}
	switch r.IntN(20) {
	case 0:
		x.ID = []int64{-1, mostID, mostID + 1}[r.IntN(3)]
	case 1:
		x.Size = []int64{0, api.MaxPacket, api.MaxPacket + 1}[r.IntN(3)]
	}
	return x
}

// any does anything that may be done to a queue, about a tick.
func (b both) any(r *rand.Rand, now int64) {
	b.t.Helper()
	if r.IntN(40) == 0 {
		now = []int64{-1, 0, api.MaxTicks, api.MaxTicks + 1}[r.IntN(4)]
	}
	switch n := r.IntN(20); {
	case n < 3:
		b.add(anyFlow(r), anyRate(r), anyRoom(r), now)
	case n == 3:
		b.set(anyFlow(r), anyRate(r), anyRoom(r))
	case n == 4 && r.IntN(2) == 0:
		b.drop(anyFlow(r))
	case n < 9:
		b.take()
	default:
		b.put(anyPacket(r), now)
	}
}

func TestTheExamples(t *testing.T) {
	b := newBoth(t)
	told(t, "Add(1, 4, 100, 0)", b.add(1, 4, 100, 0), api.OK)
	told(t, "Add(2, 2, 100, 0)", b.add(2, 2, 100, 0), api.OK)
	isStamp(t, b.puts(7, 1, 8, 0), by(2, 1))
	isStamp(t, b.puts(8, 2, 2, 0), by(1, 1))
	isStamp(t, b.puts(9, 1, 2, 0), by(5, 2))
	b.takes(8, 7, 9)
	isStamp(t, b.puts(5, 1, 90, 0), by(25, 1))
	isStamp(t, b.puts(6, 1, 4, 9), by(26, 1))
	b.refuses(api.Packet{ID: 5, Flow: 3, Size: 1}, 0, api.ErrNone)
	if out, e := b.drop(1); !slices.Equal(idsOf(out), []int64{5, 6}) || e != api.OK {
		t.Errorf("Drop(1): %v, %v", out, e)
	}
}

func isStamp(t *testing.T, out, want api.Rat) {
	t.Helper()
	if out != want {
		t.Fatalf("a stamp: %v, want %v", out, want)
	}
}

// P14.1

func TestNewHasNoFlows(t *testing.T) {
	b, another := newBoth(t), newBoth(t)
	b.isEmpty()
	b.holds()
	b.adds(0, 1)
	b.puts(1, 1, 1, 0)
	b.holds()
	another.isEmpty() // another one is another one
	another.holds()
	another.refuses(api.Packet{ID: 1, Flow: 1, Size: 1}, 0, api.ErrNone)
}

func TestAddedFlowsAreThere(t *testing.T) {
	b := newBoth(t)
	for n, f := range []api.Clocked{
		{Flow: 5, Rate: 4, Room: 100, Clock: by(7, 1)},
		{Flow: 0, Rate: 1, Room: 0, Clock: by(0, 1)},
		{Flow: mostFlow, Rate: api.MaxRate, Room: mostRoom, Clock: by(api.MaxTicks, 1)},
		{Flow: 1, Rate: 1, Room: 1, Clock: by(1, 1)},
	} {
		told(t, "Add", b.add(f.Flow, f.Rate, f.Room, f.Clock.N), api.OK)
		if out, is := b.q.Flow(f.Flow); out != f || !is || len(b.q.Flows()) != n+1 {
			t.Errorf("Flow behind Add: %v, %v, want %v", out, is, f)
		}
		b.holds()
	}
}

func TestAddRefusals(t *testing.T) {
	for _, isFull := range []bool{false, true} {
		b := newBoth(t)
		b.adds(0, 3)
		b.puts(1, 3, 5, 0)
		if isFull {
			for n := range int64(api.MaxFlows - 1) {
				b.adds(0, 10+n)
			}
		}
		was := b.q.Copy()
		refuse := func(id, rate, room, now int64, want api.Errno) {
			t.Helper()
			told(t, "Add", b.add(id, rate, room, now), want)
			if !vclock.Same(was, b.q) {
				t.Fatal("a refusal has changed it")
			}
		}
		for _, id := range noFlows() {
			refuse(id, 4, 100, 0, api.ErrArg)
		}
		for _, id := range []int64{3, 4} {
			for _, rate := range noRates() {
				refuse(id, rate, 100, 0, api.ErrArg)
			}
			for _, room := range noRooms() {
				refuse(id, 4, room, 0, api.ErrArg)
			}
			for _, now := range noTicks() {
				refuse(id, 4, 100, now, api.ErrArg)
			}
		}
		refuse(3, 4, 100, 0, api.ErrTwice)
		refuse(3, 5, 0, api.MaxTicks, api.ErrTwice)
		if isFull {
			refuse(4, 4, 100, 0, api.ErrLong)
			b.drop(3)
			told(t, "Add behind Drop", b.add(4, 4, 100, 0), api.OK)
			told(t, "Add of one too many", b.add(3, 4, 100, 0), api.ErrLong)
		}
	}
}

func TestSetGivesAnotherRateAndRoom(t *testing.T) {
	b := newBoth(t)
	b.adds(0, 1, 2)
	b.puts(1, 1, 9, 0) // till 9/4
	b.puts(2, 2, 9, 0)
	b.puts(3, 1, 4, 0) // till 13/4
	told(t, "Set", b.set(1, 3, 20), api.OK)
	b.holds()
	if f, _ := b.q.Flow(1); f != (api.Clocked{Flow: 1, Rate: 3, Room: 20, Bytes: 13, Clock: by(4, 1)}) {
		t.Errorf("Flow behind Set: %v", f)
	}
	isStamp(t, b.puts(4, 1, 7, 0), by(19, 3))
	b.refuses(api.Packet{ID: 5, Flow: 1, Size: 1}, 0, api.ErrRoom)
	isStamp(t, b.puts(6, 2, 1, 0), by(5, 2)) // the other one's are as they were
	b.takes(1, 2, 6, 3, 4)
}

func TestSetRoundsTheClockUp(t *testing.T) {
	b := newBoth(t)
	b.adds(5, 1)
	for _, x := range []struct{ size, clock, up int64 }{{1, 21, 6}, {3, 27, 7}, {4, 32, 8}, {2, 34, 9}, {8, 44, 11}} {
		isStamp(t, b.puts(1, 1, x.size, 0), by(x.clock, 4))
		told(t, "Set", b.set(1, 4, mostRoom), api.OK) // of what it was, also
		if f, _ := b.q.Flow(1); f.Clock != by(x.up, 1) {
			t.Errorf("a clock of %d by 4 rounded up: %v, want %d", x.clock, f.Clock, x.up)
		}
		told(t, "Set", b.set(1, 4, mostRoom), api.OK)
		b.holds()
		b.takes(1)
	}
}

// What waits, waits, also where it has more bytes than there is room for now.
func TestSetTakesNothingAway(t *testing.T) {
	b := newBoth(t)
	b.adds(0, 1)
	b.puts(1, 1, 10, 0)
	b.puts(2, 1, 20, 0)
	stamps := listOf(b.q)
	for _, room := range []int64{29, 5, 0} {
		told(t, "Set", b.set(1, 1, room), api.OK)
		b.refuses(api.Packet{ID: 3, Flow: 1, Size: 1}, 0, api.ErrRoom)
		if !slices.Equal(listOf(b.q), stamps) {
			t.Errorf("All behind Set: %v, want %v", listOf(b.q), stamps)
		}
		b.holds()
	}
	b.take()
	told(t, "Set", b.set(1, 1, 21), api.OK)
	b.puts(3, 1, 1, 0)
	b.takes(2, 3)
}

func TestSetRefusals(t *testing.T) {
	b := newBoth(t)
	b.adds(0, 3)
	b.puts(1, 3, 5, 0)
	was := b.q.Copy()
	refuse := func(id, rate, room int64, want api.Errno) {
		t.Helper()
		told(t, "Set", b.set(id, rate, room), want)
		if !vclock.Same(was, b.q) {
			t.Fatal("a refusal has changed it")
		}
	}
	for _, id := range noFlows() {
		refuse(id, 4, 100, api.ErrArg)
	}
	for _, id := range []int64{3, 4} {
		for _, rate := range noRates() {
			refuse(id, rate, 100, api.ErrArg)
		}
		for _, room := range noRooms() {
			refuse(id, 4, room, api.ErrArg)
		}
	}
	for _, id := range []int64{0, 1, 2, 4, mostFlow} {
		refuse(id, 4, 100, api.ErrNone)
	}
}

func TestDropTellsWhatWaitedInTheOrderInWhichItCame(t *testing.T) {
	b := newBoth(t)
	b.adds(0, 1, 2, 3)
	for n, x := range []api.Packet{{ID: 9, Flow: 1, Size: 50}, {ID: 4, Flow: 2, Size: 7}, {ID: 8, Flow: 1, Size: 1}, {ID: 2, Flow: 2, Size: 90}, {ID: 1, Flow: 1, Size: 3}, {ID: 3, Flow: 2, Size: 1}} {
		b.puts(x.ID, x.Flow, x.Size, int64(n))
	}
	if out, e := b.drop(1); !slices.Equal(out, []api.Packet{{ID: 9, Flow: 1, Size: 50}, {ID: 8, Flow: 1, Size: 1}, {ID: 1, Flow: 1, Size: 3}}) || e != api.OK {
		t.Errorf("Drop: %v, %v", out, e)
	}
	b.holds()
	if out, e := b.drop(3); len(out) != 0 || e != api.OK {
		t.Errorf("Drop of a flow of which nothing waits: %v, %v", out, e)
	}
	b.holds()
	b.takes(4, 2, 3)
	if out, e := b.drop(2); len(out) != 0 || e != api.OK {
		t.Errorf("Drop behind Take: %v, %v", out, e)
	}
	b.isEmpty()
	b.holds()
}

func TestWhatIsDroppedIsNotThereAnyMore(t *testing.T) {
	b := newBoth(t)
	b.adds(0, 1, 2)
	b.puts(7, 1, 100, 0)
	b.puts(8, 2, 1, 0)
	b.drop(1)
	if f, is := b.q.Flow(1); is || f != (api.Clocked{}) || len(b.q.Flows()) != 1 || b.q.Len() != 1 {
		t.Errorf("Flow behind Drop: %v, %v", f, is)
	}
	b.refuses(api.Packet{ID: 7, Flow: 1, Size: 1}, 0, api.ErrNone)
	told(t, "Set", b.set(1, 4, 100), api.ErrNone)
	if _, e := b.drop(1); e != api.ErrNone {
		t.Errorf("Drop twice: %v", e)
	}
	told(t, "Add", b.add(1, 2, 10, 3), api.OK) // of its former clock nothing is left
	isStamp(t, b.puts(7, 1, 10, 0), by(8, 1))
	b.takes(8, 7)
}

func TestDropRefusals(t *testing.T) {
	b := newBoth(t)
	b.adds(0, 3)
	b.puts(1, 3, 5, 0)
	was := b.q.Copy()
	for _, id := range append(noFlows(), 0, 1, 2, 4, mostFlow) {
		if out, e := b.drop(id); out != nil || e != api.ErrNone || !vclock.Same(was, b.q) {
			t.Errorf("Drop(%d): %v, %v", id, out, e)
		}
	}
}

func TestAStampIsBehindTheTickOrTheClock(t *testing.T) {
	b := newBoth(t)
	told(t, "Add", b.add(1, 6, 1000, 10), api.OK)
	for n, x := range []struct {
		size, now int64
		stamp     api.Rat
	}{
		{3, 0, by(21, 2)},                 // behind the tick at which the flow was added
		{3, 10, by(11, 1)},                // behind the clock
		{2, 11, by(34, 3)},                // the clock is the tick
		{1, 11, by(23, 2)},                // behind the clock, by a fraction
		{4, 12, by(38, 3)},                // behind the tick, by a fraction
		{4, 100, by(302, 3)},              // behind the tick, by much
		{20, 50, by(104, 1)},              // a tick that is over: behind the clock
		{6, api.MaxTicks, by(1<<31, 1)},   // the last tick
		{1, api.MaxTicks, by(6<<31+1, 6)}, // behind the last tick
		{900, 0, by(6<<31+1+900, 6)},      // far behind it
	} {
		isStamp(t, b.puts(int64(n), 1, x.size, x.now), x.stamp)
		if f, _ := b.q.Flow(1); f.Clock != x.stamp {
			t.Errorf("the clock behind %v: %v", x, f.Clock)
		}
		b.holds()
	}
}

func TestStampsAtTheBoundsOfRatesAndSizes(t *testing.T) {
	b := newBoth(t)
	told(t, "Add", b.add(1, 1, mostRoom, 0), api.OK)
	told(t, "Add", b.add(2, api.MaxRate, mostRoom, 0), api.OK)
	told(t, "Add", b.add(3, 999983, mostRoom, api.MaxTicks), api.OK)
	isStamp(t, b.puts(0, 1, 1, 0), by(1, 1))
	isStamp(t, b.puts(1, 1, api.MaxPacket, 0), by(2001, 1))
	isStamp(t, b.puts(2, 2, 1, 0), by(1, api.MaxRate))
	isStamp(t, b.puts(3, 2, api.MaxPacket, 0), by(2001, api.MaxRate))
	isStamp(t, b.puts(mostID, 3, 1, 0), by(api.MaxTicks*999983+1, 999983))
	isStamp(t, b.puts(mostID-1, 3, api.MaxPacket, 0), by(api.MaxTicks*999983+2001, 999983))
	b.takes(2, 3, 0, 1, mostID, mostID-1)
}

// The bytes that wait may be the Room, and no more; what is taken, or dropped,
// makes room again.
func TestRoomIsOfEachFlow(t *testing.T) {
	b := newBoth(t)
	told(t, "Add", b.add(1, 4, 20, 0), api.OK)
	told(t, "Add", b.add(2, 4, 0, 0), api.OK)
	told(t, "Add", b.add(3, 4, 1, 0), api.OK)
	b.refuses(api.Packet{ID: 1, Flow: 1, Size: 21}, 0, api.ErrRoom)
	b.refuses(api.Packet{ID: 1, Flow: 2, Size: 1}, 0, api.ErrRoom)
	b.puts(1, 1, 20, 0)
	b.refuses(api.Packet{ID: 2, Flow: 1, Size: 1}, 0, api.ErrRoom)
	b.puts(2, 3, 1, 0)
	b.takes(2, 1)
	isStamp(t, b.puts(1, 1, 19, 0), by(39, 4)) // what was refused has moved no clock
	b.refuses(api.Packet{ID: 2, Flow: 1, Size: 2}, 0, api.ErrRoom)
	b.puts(2, 1, 1, 0)
	b.holds()
	b.drop(1)
	told(t, "Add", b.add(1, 4, 20, 0), api.OK)
	b.puts(2, 1, 20, 0)
	b.takes(2)
}

func TestPutRefusals(t *testing.T) {
	b := newBoth(t)
	told(t, "Add", b.add(3, 4, 5, 0), api.OK)
	told(t, "Add", b.add(4, 4, 100, 0), api.OK)
	b.puts(1, 3, 5, 0)
	for _, flow := range []int64{3, 4, 5} {
		for _, id := range []int64{1, 2} {
			for _, bad := range noIDs() {
				b.refuses(api.Packet{ID: bad, Flow: flow, Size: 1}, 0, api.ErrArg)
			}
			for _, size := range noSizes() {
				b.refuses(api.Packet{ID: id, Flow: flow, Size: size}, 0, api.ErrArg)
			}
			for _, now := range noTicks() {
				b.refuses(api.Packet{ID: id, Flow: flow, Size: 1}, now, api.ErrArg)
			}
		}
	}
	for _, flow := range noFlows() {
		b.refuses(api.Packet{ID: 2, Flow: flow, Size: 1}, 0, api.ErrArg)
	}
	for _, flow := range []int64{0, 1, 5, mostFlow} {
		b.refuses(api.Packet{ID: 1, Flow: flow, Size: 1}, 0, api.ErrNone)
	}
	for _, flow := range []int64{3, 4} { // of another flow, also
		b.refuses(api.Packet{ID: 1, Flow: flow, Size: 1}, 0, api.ErrTwice)
	}
	b.refuses(api.Packet{ID: 2, Flow: 3, Size: 1}, 0, api.ErrRoom)
	b.puts(2, 4, 1, 0)
	b.takes(2, 1)
	b.puts(1, 4, 1, 0) // what waits no more has its ID no more
	b.drop(4)
	b.puts(1, 3, 1, 0)
	b.holds()
}

// Where there is neither room nor place, it is the room that is told of.
func TestAtMostSoManyPacketsWait(t *testing.T) {
	q := vclock.New()
	told(t, "Add", q.Add(1, 4, mostRoom, 0), api.OK)
	told(t, "Add", q.Add(2, 4, 0, 0), api.OK)
	for n := range int64(mostPackets) {
		if stamp, e := q.Put(api.Packet{ID: n, Flow: 1, Size: 4}, 0); stamp != by(n+1, 1) || e != api.OK {
			t.Fatalf("Put of the packet %d: %v, %v", n, stamp, e)
		}
	}
	was := q.Copy()
	refuse := func(x api.Packet, want api.Errno) {
		t.Helper()
		if stamp, e := q.Put(x, 0); stamp != (api.Rat{}) || e != want {
			t.Errorf("Put of one more: %v, %v, want %v", stamp, e, want)
		}
	}
	refuse(api.Packet{ID: mostPackets, Flow: 1, Size: 4}, api.ErrLong)
	refuse(api.Packet{ID: 0, Flow: 1, Size: 4}, api.ErrTwice)
	refuse(api.Packet{ID: mostPackets, Flow: 2, Size: 1}, api.ErrRoom)
	if !vclock.Same(was, q) || q.Len() != mostPackets {
		t.Error("a refusal has changed it")
	}
	if x, _, is := q.Take(); x.ID != 0 || !is {
		t.Errorf("Take: %v, %v", x, is)
	}
	if stamp, e := q.Put(api.Packet{ID: 0, Flow: 1, Size: 4}, 0); stamp != by(mostPackets+1, 1) || e != api.OK {
		t.Errorf("Put behind Take: %v, %v", stamp, e)
	}
	refuse(api.Packet{ID: mostPackets, Flow: 1, Size: 4}, api.ErrLong)
	if out, e := q.Drop(1); len(out) != mostPackets || out[0].ID != 1 || out[mostPackets-1].ID != 0 || e != api.OK {
		t.Errorf("Drop: %d, %v", len(out), e)
	}
}

// P14.2

func TestTheNextOneIsThatOfTheLeastStamp(t *testing.T) {
	b := newBoth(t)
	b.adds(0, 1, 2, 3)
	b.puts(1, 1, 100, 0)
	b.puts(2, 2, 99, 0)
	b.puts(3, 3, 4, 24)
	b.puts(4, 3, 1, 24)
	b.puts(5, 1, 1, 0)
	b.puts(6, 2, 1, 0)
	b.holds()
	b.takes(2, 1, 3, 6, 4, 5) // 99/4; 25, 25, 25; 101/4, 101/4
}

func TestOfOneStampTheOneThatCameFirstIsNext(t *testing.T) {
	for seed := range uint64(200) {
		r := source(seed)
		b := newBoth(t)
		var want []int64
		for n, id := range r.Perm(20) {
			b.adds(int64(r.IntN(5)), int64(30-n))
			b.puts(int64(id), int64(30-n), 20, 5) // each till 10
			want = append(want, int64(id))
		}
		b.holds()
		b.takes(want...)
	}
}

func TestTakeTellsThePacketAndItsStamp(t *testing.T) {
	b := newBoth(t)
	b.adds(0, 1)
	isStamp(t, b.puts(7, 1, 10, 3), by(11, 2))
	x, stamp, is := b.take()
	if x != (api.Packet{ID: 7, Flow: 1, Size: 10}) || stamp != by(11, 2) || !is {
		t.Errorf("Take: %v, %v, %v", x, stamp, is)
	}
	b.isEmpty()
	if f, _ := b.q.Flow(1); f != (api.Clocked{Flow: 1, Rate: 4, Room: mostRoom, Clock: by(11, 2)}) {
		t.Errorf("Flow behind Take: %v", f)
	}
	b.isEmpty()
	b.holds()
}

func TestAFlowHasTheBytesThatWait(t *testing.T) {
	b := newBoth(t)
	b.adds(0, 1, 2)
	var all int64
	for n, size := range []int64{1, 7, api.MaxPacket, 3} {
		b.puts(int64(n), 1, size, 0)
		b.puts(100+int64(n), 2, 1, 0)
		all += size
		if f, is := b.q.Flow(1); f.Bytes != all || !is {
			t.Errorf("Flow: %v, %v, want %d bytes", f, is, all)
		}
	}
	for range 8 {
		if x, _, _ := b.take(); x.Flow == 1 {
			all -= x.Size
		}
		if f, is := b.q.Flow(1); f.Bytes != all || !is {
			t.Errorf("Flow: %v, %v, want %d bytes", f, is, all)
		}
	}
}

func TestFlowsAreInTheOrderOfTheirIDs(t *testing.T) {
	for seed := range uint64(50) {
		r := source(seed)
		b := newBoth(t)
		for n, id := range r.Perm(api.MaxFlows) {
			b.adds(int64(n), int64(id))
		}
		out := b.q.Flows()
		for n, f := range out {
			if f.Flow != int64(n) {
				t.Fatalf("Flows: %v", out)
			}
		}
		b.flowsHold()
	}
	b := newBoth(t)
	b.adds(0, mostFlow, 0, 1, mostFlow-1)
	b.flowsHold()
}

func TestAllIsAsItIsWhenItIsCalled(t *testing.T) {
	b := newBoth(t)
	b.adds(0, 1, 2)
	none := b.q.All()
	b.puts(1, 1, 8, 0)
	b.puts(2, 2, 4, 0)
	b.puts(3, 1, 8, 0)
	all, want := b.q.All(), listOf(b.q)
	b.take()
	b.drop(2)
	b.puts(4, 1, 1, 0)
	b.set(1, 1, 0)
	for range 2 { // it may be gone over again
		var out []stamped
		for x, stamp := range all {
			out = append(out, stamped{x, stamp})
		}
		if !slices.Equal(out, want) || len(out) != 3 {
			t.Errorf("All: %v, want %v", out, want)
		}
	}
	for x := range none {
		t.Errorf("All of none: %v", x)
	}
	b.holds()
}

func TestAllMayBeLeft(t *testing.T) {
	b := newBoth(t)
	b.adds(0, 1)
	for n := range int64(5) {
		b.puts(n, 1, 4, 0)
	}
	all := b.q.All()
	for leave := range 6 {
		n := 0
		for x, stamp := range all {
			if x.ID != int64(n) || stamp != by(int64(n)+1, 1) {
				t.Errorf("All at %d: %v, %v", n, x, stamp)
			}
			if n++; n >= leave {
				break
			}
		}
		if n != max(1, min(leave, 5)) {
			t.Errorf("All left behind %d: %d", leave, n)
		}
	}
	for x := range all { // what is done meanwhile changes nothing of it
		b.take()
		b.puts(10+x.ID, 1, 4, 0)
	}
	b.takes(10, 11, 12, 13, 14)
}

func TestLen(t *testing.T) {
	b := newBoth(t)
	b.adds(0, 1, 2)
	for n := range int64(20) {
		b.puts(n, 1+n%2, 3, 0)
		if b.q.Len() != int(n)+1 {
			t.Errorf("Len: %d, want %d", b.q.Len(), n+1)
		}
	}
	b.take()
	b.drop(2)
	if b.q.Len() != 9 {
		t.Errorf("Len: %d", b.q.Len())
	}
}

func TestAnswersAreNewMemory(t *testing.T) {
	b := newBoth(t)
	b.adds(0, 1, 2)
	for n := range int64(4) {
		b.puts(n, 1+n%2, 3, 0)
	}
	flows := b.q.Flows()
	clear(flows)
	_ = append(flows[:0], api.Clocked{Flow: 77})
	b.holds()
	gone, _ := b.drop(1)
	clear(gone)
	_ = append(gone[:0], api.Packet{ID: 77})
	b.holds()
}

// P14.3

func TestACopyGoesOnApart(t *testing.T) {
	for seed := range uint64(100) {
		r := source(1000 + seed)
		b := newBoth(t)
		for range 60 {
			b.any(r, r.Int64N(20))
		}
		other := b.copy()
		if !vclock.Same(b.q, other.q) || !vclock.Same(other.q, b.q) {
			t.Fatal("a copy is not the same")
		}
		other.holds()
		for range 60 {
			if r.IntN(2) == 0 {
				b.any(r, r.Int64N(40))
			} else {
				other.any(r, r.Int64N(40))
			}
		}
		b.holds()
		other.holds()
	}
}

func TestACopyHasItsOwnFlows(t *testing.T) {
	b := newBoth(t)
	b.adds(0, 1)
	b.puts(1, 1, 5, 0)
	other := b.copy()
	b.set(1, 9, 99)
	other.holds()
	b.puts(2, 1, 5, 0)
	other.holds()
	b.take()
	other.holds()
	b.drop(1)
	other.holds()
	other.puts(2, 1, 7, 0)
	b.holds()
	b.adds(0, 1)
	b.puts(1, 1, 5, 0)
	other.takes(1, 2)
	b.holds()
}

func TestSameIsOfAllThatTheyHave(t *testing.T) {
	made := func(do ...func(b both)) *vclock.Queue {
		b := newBoth(t)
		b.adds(0, 1, 2)
		b.puts(1, 1, 8, 0)
		b.puts(2, 2, 8, 0)
		for _, f := range do {
			f(b)
		}
		return b.q
	}
	for what, do := range map[string]func(b both){
		"a flow more":     func(b both) { b.adds(0, 3) },
		"a flow less":     func(b both) { b.drop(2) },
		"another flow":    func(b both) { b.drop(2); b.adds(0, 3); b.puts(2, 3, 8, 0) },
		"another rate":    func(b both) { b.set(1, 5, mostRoom) },
		"another room":    func(b both) { b.set(1, 4, mostRoom-1) },
		"a packet more":   func(b both) { b.puts(3, 1, 1, 0) },
		"a packet less":   func(b both) { b.take() },
		"a later clock":   func(b both) { b.puts(3, 1, 4, 0); b.drop(2); b.adds(0, 2); b.puts(2, 2, 8, 0) },
		"another order":   func(b both) { b.drop(1); b.adds(0, 1); b.puts(1, 1, 8, 0) },
		"another packet":  func(b both) { b.drop(2); b.adds(0, 2); b.puts(3, 2, 8, 0) },
		"another size":    func(b both) { b.drop(2); b.adds(1, 2); b.puts(2, 2, 4, 0) },
		"another stamp":   func(b both) { b.drop(2); b.adds(1, 2); b.puts(2, 2, 8, 0) },
		"nothing waits":   func(b both) { b.takes(1, 2) },
		"nothing is left": func(b both) { b.drop(1); b.drop(2) },
	} {
		if a, b := made(), made(do); vclock.Same(a, b) || vclock.Same(b, a) || !vclock.Same(b, b) || !vclock.Same(b, made(do)) {
			t.Errorf("%s: is the same, or is not the same as itself", what)
		}
	}
	if !vclock.Same(made(), made()) {
		t.Error("two of one life are not the same")
	}
}

// A clock alone tells two apart of which nothing waits.
func TestSameIsOfClocks(t *testing.T) {
	a, b := newBoth(t), newBoth(t)
	a.adds(0, 1)
	b.adds(2, 1)
	if vclock.Same(a.q, b.q) {
		t.Error("another clock is the same")
	}
	a.puts(1, 1, 8, 0)
	a.takes(1)
	if !vclock.Same(a.q, b.q) {
		t.Error("the same clock is another one")
	}
}

// By the last packet the clocks are the same again; what is taken is not.
func TestSameIsOfStamps(t *testing.T) {
	a, b := newBoth(t), newBoth(t)
	for n, x := range []both{a, b} {
		x.adds(0, 1)
		x.puts(1, 1, 8, int64(n))
		x.puts(2, 1, 8, 10)
	}
	if vclock.Same(a.q, b.q) {
		t.Error("another stamp is the same")
	}
	a.take()
	b.take()
	if !vclock.Same(a.q, b.q) {
		t.Error("the stamp of what waits no more counts")
	}
}

// Of one stamp each, they differ by which one came first.
func TestSameIsOfTheOrder(t *testing.T) {
	a, b := newBoth(t), newBoth(t)
	a.adds(0, 1, 2)
	b.adds(0, 2, 1)
	if !vclock.Same(a.q, b.q) {
		t.Error("the order in which flows were added counts")
	}
	a.puts(1, 1, 8, 0)
	a.puts(2, 2, 8, 0)
	b.puts(2, 2, 8, 0)
	b.puts(1, 1, 8, 0)
	if vclock.Same(a.q, b.q) {
		t.Error("the order of packets of one stamp does not count")
	}
	a.puts(3, 1, 4, 0)
	b.puts(3, 1, 4, 0)
	a.take()
	if vclock.Same(a.q, b.q) {
		t.Error("a packet less does not count")
	}
	b.take()
	if vclock.Same(a.q, b.q) {
		t.Error("which packet is left does not count")
	}
}

// How many packets there were before does not count: only what waits.
func TestSameIsNotOfWhatWaitsNoMore(t *testing.T) {
	a, b := newBoth(t), newBoth(t)
	for _, x := range []both{a, b} {
		x.adds(0, 1, 2)
	}
	for n := range int64(5) {
		a.puts(n, 2, 1, 0)
	}
	for range 5 {
		a.take()
	}
	a.drop(2)
	b.drop(2)
	for _, x := range []both{a, b} {
		x.puts(7, 1, 4, 0)
		x.puts(8, 1, 4, 0)
	}
	if !vclock.Same(a.q, b.q) || !vclock.Same(b.q, a.q) {
		t.Error("what waits no more counts")
	}
}

func TestQueuesThatAreNone(t *testing.T) {
	for _, q := range nones() {
		told(t, "Add", q.Add(1, 4, 100, 0), api.ErrNil)
		told(t, "Add", q.Add(-1, -1, -1, -1), api.ErrNil)
		told(t, "Set", q.Set(1, 4, 100), api.ErrNil)
		told(t, "Set", q.Set(-1, -1, -1), api.ErrNil)
		if out, e := q.Drop(1); out != nil || e != api.ErrNil {
			t.Errorf("Drop: %v, %v", out, e)
		}
		for _, x := range []api.Packet{{}, {ID: 1, Flow: 1, Size: 1}, {ID: -1, Flow: -1, Size: -1}} {
			if stamp, e := q.Put(x, 0); stamp != (api.Rat{}) || e != api.ErrNil {
				t.Errorf("Put: %v, %v", stamp, e)
			}
		}
		if x, stamp, is := q.Take(); x != (api.Packet{}) || stamp != (api.Rat{}) || is {
			t.Errorf("Take: %v, %v, %v", x, stamp, is)
		}
		if f, is := q.Flow(1); f != (api.Clocked{}) || is {
			t.Errorf("Flow: %v, %v", f, is)
		}
		if len(q.Flows()) != 0 || q.Len() != 0 || q.Copy() != nil || len(listOf(q)) != 0 || q.All() == nil {
			t.Errorf("of none: %v, %d, %v, %v", q.Flows(), q.Len(), q.Copy(), listOf(q))
		}
		for _, other := range nones() {
			if !vclock.Same(q, other) {
				t.Error("none is not as none")
			}
		}
		if vclock.Same(q, vclock.New()) || vclock.Same(vclock.New(), q) {
			t.Error("none is as an empty one")
		}
	}
}

// P14.4

func TestAnyLives(t *testing.T) {
	for seed := range uint64(300) {
		r := source(2000 + seed)
		b := newBoth(t)
		var now int64
		for n := range 200 {
			b.any(r, now)
			if n%20 == 0 {
				b.holds()
			}
			now += r.Int64N(3)
		}
		b.holds()
	}
}

// Whatever others send, what is taken of a flow is what came of it, in order.
func TestAFlowsPacketsAreTakenInTheOrderInWhichTheyCame(t *testing.T) {
	for seed := range uint64(200) {
		r := source(3000 + seed)
		b := newBoth(t)
		for id := range int64(4) {
			told(t, "Add", b.add(id, 1+r.Int64N(9), 30+r.Int64N(200), r.Int64N(4)), api.OK)
		}
		var came, taken [4][]int64
		take := func() {
			if x, _, is := b.take(); is {
				taken[x.Flow] = append(taken[x.Flow], x.ID)
			}
		}
		for range 200 {
			switch x := (api.Packet{ID: r.Int64N(1000), Flow: r.Int64N(4), Size: 1 + r.Int64N(30)}); r.IntN(8) {
			case 0:
				b.set(x.Flow, 1+r.Int64N(9), 30+r.Int64N(200))
			case 1, 2, 3:
				take()
			default:
				if _, e := b.put(x, r.Int64N(30)); e == api.OK {
					came[x.Flow] = append(came[x.Flow], x.ID)
				}
			}
		}
		for b.q.Len() > 0 {
			take()
		}
		for n := range came {
			if !slices.Equal(came[n], taken[n]) {
				t.Fatalf("of the flow %d came %v, were taken %v", n, came[n], taken[n])
			}
		}
	}
}

// The same flow has the same stamps where it is alone.
func TestAStampHangsOnItsOwnFlowAlone(t *testing.T) {
	for seed := range uint64(100) {
		r := source(4000 + seed)
		alone, among := newBoth(t), newBoth(t)
		for _, b := range []both{alone, among} {
			told(t, "Add", b.add(9, 7, mostRoom, 3), api.OK)
		}
		for n := range int64(100) {
			for range r.IntN(4) {
				among.any(r, r.Int64N(30))
			}
			now, size := r.Int64N(3*n+1), 1+r.Int64N(30)
			x := api.Packet{ID: 1000 + n, Flow: 9, Size: size}
			if a, b := alone.puts(x.ID, 9, size, now), among.puts(x.ID, 9, size, now); a != b {
				t.Fatalf("the stamp of %v at %d: %v alone, %v among others", x, now, a, b)
			}
		}
	}
}

// What is more than the Rate, within any ticks, is by the Rate how far a stamp is
// behind its tick, and one is as far behind it.
func TestNoStampIsFartherBehindItsTickThanItsBytesBringAbout(t *testing.T) {
	for seed := range uint64(200) {
		r := source(5000 + seed)
		rate := 1 + r.Int64N(20)
		b := newBoth(t)
		told(t, "Add", b.add(1, rate, mostRoom, 0), api.OK)
		var sent []api.Send
		var now int64
		for range 50 {
			now += r.Int64N(4)
			sent = append(sent, api.Send{At: now, Size: 1 + r.Int64N(3*rate)})
		}
		over := bytesOver(sent, rate)
		bound := big.NewRat(over, rate)
		isReached := false
		for n, x := range sent {
			stamp := b.puts(int64(n), 1, x.Size, x.At)
			behind := new(big.Rat).Sub(big.NewRat(stamp.N, stamp.D), big.NewRat(x.At, 1))
			if behind.Cmp(bound) > 0 {
				t.Fatalf("%v at %d is %v behind it, of %d bytes over %d a tick", stamp, x.At, behind, over, rate)
			}
			isReached = isReached || behind.Cmp(bound) == 0
		}
		if !isReached {
			t.Fatalf("no stamp of %v is %v behind its tick", sent, bound)
		}
	}
}

// bytesOver tells the least number with which sendings keep to a rate within any ticks.
func bytesOver(sent []api.Send, rate int64) int64 {
	var over int64
	for n, first := range sent {
		var sum int64
		for _, x := range sent[n:] {
			sum += x.Size
			over = max(over, sum-rate*(x.At-first.At))
		}
	}
	return over
}
