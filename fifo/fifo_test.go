package fifo_test

import (
	"math"
	"math/rand/v2"
	"slices"
	"testing"

	"postroad/api"
	"postroad/fifo"
)

// The tests hold each line against a list of what waits, whose bytes are summed
// up anew each time, and a list of what was lost.

const (
	mostRoom = 1000000000
	mostID   = 1 << 62
	mostFlow = 1<<31 - 1
	most     = math.MaxInt64
	least    = math.MinInt64
)

// plain is the reckoning.
type plain struct {
	room  int64
	waits []api.Packet
	lost  []api.Packet
}

func (p *plain) copy() *plain { return &plain{p.room, slices.Clone(p.waits), slices.Clone(p.lost)} }

func bytesOf(l []api.Packet) int64 {
	var all int64
	for _, x := range l {
		all += x.Size
	}
	return all
}

func (p *plain) put(x api.Packet) api.Errno {
	switch {
	case x.ID < 0, x.ID > mostID, x.Flow < 0, x.Flow > mostFlow, x.Size < 1, x.Size > api.MaxPacket:
		return api.ErrArg
	case bytesOf(p.waits)+x.Size > p.room:
		p.lost = append(p.lost, x)
		return api.ErrRoom
	}
	p.waits = append(p.waits, x)
	return api.OK
}

func (p *plain) first() (api.Packet, bool) {
	if len(p.waits) == 0 {
		return api.Packet{}, false
	}
	return p.waits[0], true
}

func (p *plain) take() (api.Packet, bool) {
	x, is := p.first()
	if is {
		p.waits = slices.Delete(slices.Clone(p.waits), 0, 1)
	}
	return x, is
}

func (p *plain) drop(flow int64) int {
	var stay []api.Packet
	for _, x := range p.waits {
		if x.Flow != flow {
			stay = append(stay, x)
		}
	}
	gone := len(p.waits) - len(stay)
	p.waits = stay
	return gone
}

// both are a line and its reckoning, to which the same is done.
type both struct {
	t *testing.T
	l *fifo.Line
	p *plain
}

func newBoth(t *testing.T, room int64) both {
	t.Helper()
	return both{t, lineOf(t, room), &plain{room: room}}
}

// lineOf tells the line of a room that may be.
func lineOf(t *testing.T, room int64) *fifo.Line {
	t.Helper()
	l, e := fifo.New(room)
	if l == nil || e != api.OK {
		t.Fatalf("New(%d): %v, %v", room, l, e)
	}
	return l
}

func (b both) copy() both { return both{b.t, b.l.Copy(), b.p.copy()} }

func (b both) put(x api.Packet) api.Errno {
	b.t.Helper()
	want := b.p.put(x)
	if e := b.l.Put(x); e != want {
		b.t.Fatalf("room %d, behind %v: Put(%v): %v, want %v", b.p.room, b.p.waits, x, e, want)
	}
	return want
}

func (b both) take() (api.Packet, bool) {
	b.t.Helper()
	want, wantIs := b.p.take()
	x, is := b.l.Take()
	if x != want || is != wantIs {
		b.t.Fatalf("Take: %v, %v, want %v, %v", x, is, want, wantIs)
	}
	return x, is
}

func (b both) drop(flow int64) int {
	b.t.Helper()
	want := b.p.drop(flow)
	if n := b.l.Drop(flow); n != want {
		b.t.Fatalf("Drop(%d): %d, want %d", flow, n, want)
	}
	return want
}

// holds holds a line against its reckoning, by all that can be asked, and fails
// if asking changes it.
func (b both) holds() {
	b.t.Helper()
	was := b.l.Copy()
	for range 2 {
		if out := slices.Collect(b.l.All()); !slices.Equal(out, b.p.waits) {
			b.t.Fatalf("All: %v, want %v", out, b.p.waits)
		}
		if n := b.l.Bytes(); n != bytesOf(b.p.waits) || n > b.p.room {
			b.t.Fatalf("Bytes of %v, room %d: %d", b.p.waits, b.p.room, n)
		}
		if packets, bytes := b.l.Lost(); packets != int64(len(b.p.lost)) || bytes != bytesOf(b.p.lost) {
			b.t.Fatalf("Lost of %v: %d, %d", b.p.lost, packets, bytes)
		}
		want, wantIs := b.p.first()
		if x, is := b.l.First(); x != want || is != wantIs {
			b.t.Fatalf("First of %v: %v, %v", b.p.waits, x, is)
		}
	}
	if !fifo.Same(was, b.l) {
		b.t.Fatal("asking has changed it")
	}
}

// puts fails unless packets of a flow may come; their IDs rise from one on.
func (b both) puts(first, flow int64, sizes ...int64) {
	b.t.Helper()
	for n, size := range sizes {
		told(b.t, "Put", b.put(api.Packet{ID: first + int64(n), Flow: flow, Size: size}), api.OK)
	}
}

// loses fails unless a packet is lost, and nothing else changes.
func (b both) loses(x api.Packet) {
	b.t.Helper()
	was := slices.Collect(b.l.All())
	packets, bytes := b.l.Lost()
	told(b.t, "Put", b.put(x), api.ErrRoom)
	if out := slices.Collect(b.l.All()); !slices.Equal(out, was) {
		b.t.Fatalf("behind a loss: %v, want %v", out, was)
	}
	if p, n := b.l.Lost(); p != packets+1 || n != bytes+x.Size {
		b.t.Fatalf("Lost: %d, %d, behind %d, %d and %v", p, n, packets, bytes, x)
	}
}

// refuses fails unless a packet may not be, and nothing changes.
func (b both) refuses(x api.Packet) {
	b.t.Helper()
	was := b.l.Copy()
	told(b.t, "Put", b.put(x), api.ErrArg)
	if !fifo.Same(was, b.l) {
		b.t.Fatalf("Put(%v) is refused, and has changed it", x)
	}
}

// takes fails unless just these packets, by their IDs, are taken, and nothing is left.
func (b both) takes(ids ...int64) {
	b.t.Helper()
	for _, id := range ids {
		if x, is := b.take(); x.ID != id || !is {
			b.t.Fatalf("Take: %v, %v, want %d", x, is, id)
		}
	}
	b.isEmpty()
}

func (b both) isEmpty() {
	b.t.Helper()
	for range 2 {
		if x, is := b.l.First(); is || x != (api.Packet{}) {
			b.t.Fatalf("First of none: %v, %v", x, is)
		}
		if x, is := b.take(); is || x != (api.Packet{}) || b.l.Bytes() != 0 {
			b.t.Fatalf("Take of none: %v, %v, of %d", x, is, b.l.Bytes())
		}
	}
}

// any does anything, mostly what may be done.
func (b both) any(r *rand.Rand) {
	b.t.Helper()
	switch r.IntN(12) {
	case 0:
		b.drop(anyFlow(r))
	case 1, 2, 3, 4:
		b.take()
	default:
		b.put(anyPacket(r))
	}
}

func told(t *testing.T, what string, e, want api.Errno) {
	t.Helper()
	if e != want {
		t.Fatalf("%s: %v, want %v", what, e, want)
	}
}

func source(n uint64) *rand.Rand { return rand.New(rand.NewPCG(n, 15)) }

func noRooms() []int64 {
	return []int64{-1, -2, least, least + 1, -mostRoom, mostRoom + 1, mostRoom + 2, most, 1<<32 + 10}
}

func noIDs() []int64 { return []int64{-1, -2, mostID + 1, mostID + 2, most, least, least + 1, -mostID} }

func noFlows() []int64 {
	return []int64{-1, -2, mostFlow + 1, mostFlow + 2, most, least, least + 1, -mostFlow, 1<<32 + 1}
}

func noSizes() []int64 {
	return []int64{0, -1, api.MaxPacket + 1, api.MaxPacket + 2, most, least, -api.MaxPacket, 1<<32 + 8}
}

// noPackets may not be, each but for one of its numbers, or for all.
func noPackets() []api.Packet {
	out := []api.Packet{{}, {ID: -1, Flow: -1, Size: -1}, {ID: most, Flow: most, Size: most}}
	for _, id := range noIDs() {
		out = append(out, api.Packet{ID: id, Flow: 1, Size: 1})
	}
	for _, flow := range noFlows() {
		out = append(out, api.Packet{ID: 1, Flow: flow, Size: 1})
	}
	for _, size := range noSizes() {
		out = append(out, api.Packet{ID: 1, Flow: 1, Size: size})
	}
	return out
}

// ofNone are lines that are none.
func ofNone() []*fifo.Line {
	var none *fifo.Line
	refused, _ := fifo.New(-1)
	return []*fifo.Line{nil, {}, new(fifo.Line), refused, none.Copy(), new(fifo.Line).Copy()}
}

func anyFlow(r *rand.Rand) int64 {
	if r.IntN(20) == 0 {
		return []int64{-1, mostFlow, mostFlow + 1}[r.IntN(3)]
	}
	return r.Int64N(4)
}

// anyPacket tells mostly one that may be; some have one ID.
func anyPacket(r *rand.Rand) api.Packet {
	x := api.Packet{ID: r.Int64N(50), Flow: anyFlow(r), Size: 1 + r.Int64N(12)}
	switch r.IntN(20) {
	case 0:
		x.ID = []int64{-1, mostID, mostID + 1}[r.IntN(3)]
	case 1:
		x.Size = []int64{0, api.MaxPacket, api.MaxPacket + 1}[r.IntN(3)]
	case 2:
		x.Size = 1 + r.Int64N(api.MaxPacket)
	}
	return x
}

// anyRoom tells mostly one that is short at times.
func anyRoom(r *rand.Rand) int64 {
	switch r.IntN(6) {
	case 0:
		return mostRoom
	case 1:
		return r.Int64N(3 * api.MaxPacket)
	}
	return r.Int64N(120)
}

// P15.1

func TestTheChaptersExamples(t *testing.T) {
	b := newBoth(t, 10)
	told(t, "Put", b.l.Put(api.Packet{ID: 1, Flow: 5, Size: 6}), api.OK)
	told(t, "Put", b.l.Put(api.Packet{ID: 2, Flow: 7, Size: 6}), api.ErrRoom)
	told(t, "Put", b.l.Put(api.Packet{ID: 3, Flow: 7, Size: 4}), api.OK)
	if packets, bytes := b.l.Lost(); packets != 1 || bytes != 6 {
		t.Errorf("Lost: %d, %d", packets, bytes)
	}
	if n := b.l.Drop(5); n != 1 {
		t.Errorf("Drop(5): %d", n)
	}
	if x, is := b.l.Take(); x != (api.Packet{ID: 3, Flow: 7, Size: 4}) || !is {
		t.Errorf("Take: %v, %v", x, is)
	}
	if x, is := b.l.Take(); x != (api.Packet{}) || is {
		t.Errorf("Take of none: %v, %v", x, is)
	}
}

func TestNew(t *testing.T) {
	for _, room := range []int64{0, 1, 10, mostRoom - 1, mostRoom} {
		b := newBoth(t, room)
		b.holds()
		b.isEmpty()
		if packets, bytes := b.l.Lost(); packets != 0 || bytes != 0 {
			t.Errorf("Lost of a new one: %d, %d", packets, bytes)
		}
	}
	for _, room := range noRooms() {
		if l, e := fifo.New(room); l != nil || e != api.ErrArg {
			t.Errorf("New(%d): %v, %v", room, l, e)
		}
	}
	if a, b := lineOf(t, 10), lineOf(t, 10); a == b {
		t.Error("two new ones are one")
	}
}

func TestWhatMayNotBePut(t *testing.T) {
	for _, room := range []int64{0, 5, mostRoom} {
		b := newBoth(t, room)
		for range 3 {
			for _, x := range noPackets() {
				b.refuses(x)
			}
			b.holds()
			b.put(api.Packet{ID: 1, Flow: 1, Size: 2})
		}
	}
}

func TestWhatMayBePutAtTheEdges(t *testing.T) {
	b := newBoth(t, mostRoom)
	for _, id := range []int64{0, 1, mostID - 1, mostID} {
		for _, flow := range []int64{0, 1, mostFlow - 1, mostFlow} {
			for _, size := range []int64{1, 2, api.MaxPacket - 1, api.MaxPacket} {
				told(t, "Put", b.put(api.Packet{ID: id, Flow: flow, Size: size}), api.OK)
			}
		}
	}
	b.holds()
	for range 4 * 4 * 4 {
		b.take()
		b.holds()
	}
	b.isEmpty()
}

func TestPacketsOfOneIDAreSeveral(t *testing.T) {
	b := newBoth(t, 100)
	x := api.Packet{ID: 7, Flow: 3, Size: 4}
	for range 5 {
		told(t, "Put", b.put(x), api.OK)
	}
	b.puts(7, 2, 9)
	b.holds()
	if n := b.drop(3); n != 5 {
		t.Errorf("Drop: %d", n)
	}
	b.takes(7)
}

func TestALineIsFullToTheByte(t *testing.T) {
	for _, room := range []int64{1, 2, 10, 100} {
		for size := int64(1); size <= room; size++ {
			b := newBoth(t, room)
			b.puts(1, 1, size)
			b.loses(api.Packet{ID: 2, Flow: 2, Size: room - size + 1})
			if size < room {
				b.puts(3, 3, room-size)
			}
			b.loses(api.Packet{ID: 4, Flow: 4, Size: 1})
			b.loses(api.Packet{ID: 5, Flow: 5, Size: api.MaxPacket})
			b.holds()
			b.take()
			b.puts(6, 6, size)
			b.loses(api.Packet{ID: 7, Flow: 7, Size: 1})
			b.holds()
		}
	}
}

func TestALineWithoutRoom(t *testing.T) {
	b := newBoth(t, 0)
	for n := range int64(5) {
		b.loses(api.Packet{ID: n, Flow: n, Size: 1 + n})
		b.isEmpty()
		b.holds()
	}
	if packets, bytes := b.l.Lost(); packets != 5 || bytes != 15 {
		t.Errorf("Lost: %d, %d", packets, bytes)
	}
}

// The greatest room is one, as any other is.
func TestTheGreatestRoom(t *testing.T) {
	l := lineOf(t, mostRoom)
	const full = mostRoom / api.MaxPacket
	for n := range int64(full) {
		told(t, "Put", l.Put(api.Packet{ID: n, Flow: n % 3, Size: api.MaxPacket}), api.OK)
	}
	told(t, "Put", l.Put(api.Packet{ID: full, Size: 1}), api.ErrRoom)
	if packets, bytes := l.Lost(); l.Bytes() != mostRoom || packets != 1 || bytes != 1 {
		t.Errorf("Bytes, Lost: %d, %d, %d", l.Bytes(), packets, bytes)
	}
	if n := l.Drop(1); n != (full+1)/3 {
		t.Errorf("Drop: %d", n)
	}
	told(t, "Put", l.Put(api.Packet{ID: full + 1, Size: 1}), api.OK)
	for n := range int64(full) {
		if n%3 == 1 {
			continue
		}
		if x, is := l.Take(); x.ID != n || !is {
			t.Fatalf("Take: %v, %v, want %d", x, is, n)
		}
	}
	if x, is := l.Take(); x.ID != full+1 || !is || l.Bytes() != 0 {
		t.Errorf("Take: %v, %v, then %d", x, is, l.Bytes())
	}
}

func TestTakeTellsWhatCameFirst(t *testing.T) {
	b := newBoth(t, 100)
	b.puts(9, 1, 5)
	b.puts(3, 2, 1)
	b.puts(5, 1, 8, 2)
	b.puts(0, 0, 1)
	for _, want := range []api.Packet{
		{ID: 9, Flow: 1, Size: 5}, {ID: 3, Flow: 2, Size: 1}, {ID: 5, Flow: 1, Size: 8}, {ID: 6, Flow: 1, Size: 2}, {Size: 1},
	} {
		for range 2 {
			if x, is := b.l.First(); x != want || !is {
				t.Errorf("First: %v, %v, want %v", x, is, want)
			}
		}
		if x, is := b.take(); x != want || !is {
			t.Errorf("Take: %v, %v, want %v", x, is, want)
		}
		b.holds()
	}
	b.isEmpty()
}

func TestDrop(t *testing.T) {
	drops := func(what string, flows []int64, flow int64, stay ...int64) {
		t.Helper()
		b := newBoth(t, 1000)
		for n, f := range flows {
			b.puts(int64(n), f, int64(n)+1)
		}
		b.holds()
		if n := b.drop(flow); n != len(flows)-len(stay) {
			t.Errorf("%s: %d", what, n)
		}
		b.holds()
		if n := b.drop(flow); n != 0 {
			t.Errorf("%s, again: %d", what, n)
		}
		b.puts(100, flow, 3)
		b.holds()
		b.takes(append(stay, 100)...)
	}
	drops("of none", nil, 1)
	drops("of another one", []int64{1, 2, 1}, 3, 0, 1, 2)
	drops("all", []int64{1, 1, 1, 1}, 1)
	drops("the one", []int64{1}, 1)
	drops("the first", []int64{1, 2, 3}, 1, 1, 2)
	drops("the last", []int64{2, 3, 1}, 1, 0, 1)
	drops("those between", []int64{2, 1, 1, 3}, 1, 0, 3)
	drops("each second", []int64{1, 2, 1, 2, 1, 2, 1}, 1, 1, 3, 5)
	drops("of 0", []int64{0, 2, 0}, 0, 1)
	drops("of the greatest", []int64{mostFlow, 2, mostFlow - 1, mostFlow}, mostFlow, 1, 2)
}

func TestDropGivesRoomAndLosesNothing(t *testing.T) {
	b := newBoth(t, 20)
	b.puts(1, 1, 5, 5)
	b.puts(3, 2, 5)
	b.puts(4, 1, 5)
	b.loses(api.Packet{ID: 5, Flow: 1, Size: 3})
	was, wasBytes := b.l.Lost()
	if n := b.drop(1); n != 3 {
		t.Errorf("Drop: %d", n)
	}
	if packets, bytes := b.l.Lost(); packets != was || bytes != wasBytes || b.l.Bytes() != 5 {
		t.Errorf("Lost, Bytes: %d, %d, %d", packets, bytes, b.l.Bytes())
	}
	b.puts(6, 1, 15)
	b.loses(api.Packet{ID: 7, Flow: 2, Size: 1})
	b.takes(3, 6)
}

func TestDropOfFlowsThatMayNotBe(t *testing.T) {
	b := newBoth(t, 100)
	b.puts(1, 0, 3, 4)
	b.puts(3, mostFlow, 5)
	b.puts(4, 1, 6)
	for _, flow := range noFlows() {
		if n := b.drop(flow); n != 0 {
			t.Errorf("Drop(%d): %d", flow, n)
		}
		b.holds()
	}
	b.takes(1, 2, 3, 4)
}

// Each line of few packets of two flows, wherever the first one stands among the
// slots, of which there are as many as were once filled.
func TestDropWhereverTheFirstOneStands(t *testing.T) {
	for length := range 9 {
		for first := range 17 {
			for picks := range 1 << length {
				b := newBoth(t, mostRoom)
				for range length {
					b.puts(99, 1, 1)
				}
				for range first {
					b.puts(99, 1, 1)
					b.take()
				}
				for range length {
					b.take()
				}
				for n := range length {
					b.puts(int64(n), int64(picks>>n&1), int64(n)+1)
				}
				b.drop(1)
				b.holds()
				b.puts(50, 1, 7, 8, 9)
				b.holds()
			}
		}
	}
}

func TestLinesThatAreNone(t *testing.T) {
	for _, l := range ofNone() {
		for _, x := range append(noPackets(), api.Packet{ID: 1, Flow: 1, Size: 1}, api.Packet{ID: mostID, Flow: mostFlow, Size: api.MaxPacket}) {
			told(t, "Put", l.Put(x), api.ErrNil)
		}
		for range 2 {
			if x, is := l.First(); x != (api.Packet{}) || is {
				t.Errorf("First: %v, %v", x, is)
			}
			if x, is := l.Take(); x != (api.Packet{}) || is {
				t.Errorf("Take: %v, %v", x, is)
			}
		}
		for _, flow := range append(noFlows(), 0, 1, mostFlow) {
			if n := l.Drop(flow); n != 0 {
				t.Errorf("Drop: %d", n)
			}
		}
		if packets, bytes := l.Lost(); l.Bytes() != 0 || packets != 0 || bytes != 0 || l.Copy() != nil {
			t.Errorf("Bytes, Lost, Copy: %d, %d, %d, %v", l.Bytes(), packets, bytes, l.Copy())
		}
		all := l.All()
		if all == nil {
			t.Fatal("All is not there")
		}
		for range 2 {
			for x := range all {
				t.Errorf("All: %v", x)
			}
		}
	}
}

// P15.2

func TestBytesOfWhatIsThere(t *testing.T) {
	b := newBoth(t, 30)
	bytes := func(want int64) {
		t.Helper()
		if n := b.l.Bytes(); n != want {
			t.Errorf("Bytes: %d, want %d", n, want)
		}
	}
	bytes(0)
	b.puts(1, 1, 7)
	bytes(7)
	b.puts(2, 2, 8, 9)
	bytes(24)
	b.put(api.Packet{ID: 4, Flow: 1, Size: 7})
	bytes(24)
	b.put(api.Packet{ID: 4, Flow: 1, Size: 0})
	bytes(24)
	b.puts(4, 1, 6)
	bytes(30)
	b.l.First()
	bytes(30)
	b.take()
	bytes(23)
	b.drop(2)
	bytes(6)
	b.take()
	bytes(0)
	b.take()
	bytes(0)
}

func TestLostCountsWhatWasLostAlone(t *testing.T) {
	b := newBoth(t, 10)
	lost := func(wantPackets, wantBytes int64) {
		t.Helper()
		if packets, bytes := b.l.Lost(); packets != wantPackets || bytes != wantBytes {
			t.Errorf("Lost: %d, %d, want %d, %d", packets, bytes, wantPackets, wantBytes)
		}
	}
	lost(0, 0)
	b.loses(api.Packet{ID: 1, Flow: 1, Size: 11})
	lost(1, 11)
	b.puts(2, 1, 4, 6)
	lost(1, 11)
	b.loses(api.Packet{ID: 4, Flow: 1, Size: 1})
	lost(2, 12)
	b.refuses(api.Packet{ID: 4, Flow: 1, Size: api.MaxPacket + 1})
	lost(2, 12)
	b.loses(api.Packet{ID: 4, Flow: 1, Size: api.MaxPacket})
	lost(3, 12+api.MaxPacket)
	b.take()
	b.drop(1)
	lost(3, 12+api.MaxPacket)
	b.isEmpty()
	lost(3, 12+api.MaxPacket)
	b.loses(api.Packet{ID: 5, Flow: 1, Size: 12})
	lost(4, 24+api.MaxPacket)
}

func TestAllMayBeLeftAndGoneOverAgain(t *testing.T) {
	b := newBoth(t, 100)
	b.puts(0, 1, 1, 1, 1) // so that the slots are gone round
	b.takes(0, 1, 2)
	b.puts(3, 1, 8, 1)
	b.puts(5, 2, 8, 5, 2)
	want := []api.Packet{
		{ID: 3, Flow: 1, Size: 8}, {ID: 4, Flow: 1, Size: 1},
		{ID: 5, Flow: 2, Size: 8}, {ID: 6, Flow: 2, Size: 5}, {ID: 7, Flow: 2, Size: 2},
	}
	all := b.l.All()
	for n := range len(want) + 1 {
		var got []api.Packet
		for x := range all {
			if len(got) == n {
				break
			}
			got = append(got, x)
		}
		if !slices.Equal(got, want[:n]) {
			t.Errorf("left behind %d: %v, want %v", n, got, want[:n])
		}
	}
	n := 0
	for x := range all { // two ranges at once do not meet
		if got := slices.Collect(all); !slices.Equal(got, want) || x != want[n] {
			t.Errorf("within another one: %v, at %v", got, x)
		}
		n++
	}
	if n != len(want) {
		t.Errorf("%d were gone over", n)
	}
	b.holds()
}

func TestAllIsAsItWasWhenItWasCalled(t *testing.T) {
	r := source(1)
	for range 200 {
		b := newBoth(t, anyRoom(r))
		for range 1 + r.IntN(20) {
			b.any(r)
		}
		all, want := b.l.All(), slices.Clone(b.p.waits)
		another := b.copy()
		for range 40 {
			b.any(r)
			another.any(r)
			if got := slices.Collect(all); !slices.Equal(got, want) {
				t.Fatalf("All: %v, want %v", got, want)
			}
		}
		b.holds()
		another.holds()
	}
}

func TestALineMayChangeWhileAllIsGoneOver(t *testing.T) {
	b := newBoth(t, 200)
	b.puts(1, 1, 8, 1, 3)
	b.puts(4, 2, 8, 8)
	b.puts(6, 3, 2, 2, 5)
	want := slices.Clone(b.p.waits)
	n := 0
	for x := range b.l.All() {
		if x != want[n] {
			t.Fatalf("the %dth is %v, want %v", n, x, want[n])
		}
		n++
		b.puts(100, 4, 4, 4)
		b.take()
		b.drop(int64(n % 4))
	}
	if n != len(want) {
		t.Errorf("%d were gone over, want %d", n, len(want))
	}
	b.holds()
}

func TestACopyGoesOnApart(t *testing.T) {
	r := source(2)
	for range 300 {
		b := newBoth(t, anyRoom(r))
		for range r.IntN(40) {
			b.any(r)
		}
		another := b.copy()
		if another.l == b.l || !fifo.Same(another.l, b.l) {
			t.Fatal("a copy is another one of the same")
		}
		for range 20 { // now the one, now the other
			[]both{b, another}[r.IntN(2)].any(r)
			b.holds()
			another.holds()
		}
	}
}

// Of each line of few packets, wherever the first one stands among the slots.
func TestCopiesHaveTheirOwnMemory(t *testing.T) {
	for length := range int64(20) {
		for taken := range length + 1 {
			b := newBoth(t, mostRoom)
			for n := range length {
				b.puts(n, n%2, 1+n)
			}
			for range taken {
				b.take()
			}
			another := b.copy()
			b.puts(100, 2, 1, 2, 3)
			another.puts(200, 2, 8, 7, 6)
			b.holds()
			another.holds()
			b.drop(0)
			another.drop(1)
			b.holds()
			another.holds()
			b.copy().holds()
		}
	}
}

// sameIs fails unless they are the same, or are not, whichever is named first.
func sameIs(t *testing.T, what string, a, b *fifo.Line, want bool) {
	t.Helper()
	if fifo.Same(a, b) != want || fifo.Same(b, a) != want {
		t.Errorf("%s: Same is not %v", what, want)
	}
}

// did tells a line behind a life: 0 takes, what is below 0 drops its flow, all
// else is the size of a packet of flow 1 whose ID is that, too.
func did(t *testing.T, room int64, life ...int64) *fifo.Line {
	t.Helper()
	l := lineOf(t, room)
	for _, n := range life {
		switch {
		case n == 0:
			l.Take()
		case n < 0:
			l.Drop(-n)
		default:
			if e := l.Put(api.Packet{ID: n, Flow: 1, Size: n}); e != api.OK && e != api.ErrRoom {
				t.Fatalf("Put of %d: %v", n, e)
			}
		}
	}
	return l
}

func TestSame(t *testing.T) {
	is := func(what string, want bool, a, b []int64) {
		t.Helper()
		sameIs(t, what, did(t, 20, a...), did(t, 20, b...), want)
	}
	is("new ones", true, nil, nil)
	is("of one life", true, []int64{8, 3, 0, 7, 30}, []int64{8, 3, 0, 7, 30})
	is("whatever was taken", true, []int64{3, 2, 0, 0, 5}, []int64{5})
	is("whatever was dropped", true, []int64{3, 2, -1, 5}, []int64{5})
	is("whatever was taken, or dropped", true, []int64{3, 2, -1, 4, 5, 0}, []int64{3, 0, 5})
	is("however it was lost", true, []int64{8, 21, 0}, []int64{21})
	is("whatever was lost, as many of as many bytes", true, []int64{22, 24}, []int64{23, 23})
	is("what is there", false, []int64{3}, nil)
	is("what is there, by its size", false, []int64{3}, []int64{4})
	is("what is there, by its order", false, []int64{3, 4}, []int64{4, 3})
	is("what is there, by its order behind the first", false, []int64{1, 3, 4}, []int64{1, 4, 3})
	is("what is there, by the last", false, []int64{1, 3, 4, 5, 6}, []int64{1, 3, 4, 5, 7})
	is("what is there, of as many bytes", false, []int64{3, 4}, []int64{7})
	is("what is there, of as many bytes and packets", false, []int64{3, 4}, []int64{2, 5})
	is("what is there, by how many", false, []int64{3, 4}, []int64{3})
	is("what is there, by how many of the same", false, []int64{3, 3}, []int64{3})
	is("a loss", false, []int64{21}, nil)
	is("losses, by their bytes", false, []int64{21}, []int64{22})
	is("losses, of as many bytes", false, []int64{21, 29}, []int64{50})
	is("a loss, and what is there", false, []int64{5, 21}, []int64{21})

	sameIs(t, "a room", did(t, 20, 8), did(t, 21, 8), false)
	sameIs(t, "a room, of which as much is left", did(t, 20, 8), did(t, 12), false)
	sameIs(t, "a room, of new ones", did(t, 0), did(t, mostRoom), false)
	a := did(t, 20, 8, 4)
	sameIs(t, "itself", a, a, true)
	sameIs(t, "a copy", a, a.Copy(), true)

	x := api.Packet{ID: 1, Flow: 2, Size: 3}
	for _, y := range []api.Packet{{ID: 2, Flow: 2, Size: 3}, {ID: 1, Flow: 3, Size: 3}, {ID: 1, Flow: 2, Size: 4}} {
		a, b := lineOf(t, 20), lineOf(t, 20)
		told(t, "Put", a.Put(x), api.OK)
		told(t, "Put", b.Put(y), api.OK)
		sameIs(t, "one number of a packet", a, b, false)
	}
}

// Two that are the same come there by whatever way.
func TestSameWhateverTheyHaveLeftBehind(t *testing.T) {
	a, b := lineOf(t, mostRoom), lineOf(t, mostRoom)
	for n := range int64(1000) {
		told(t, "Put", a.Put(api.Packet{ID: n, Flow: n % 7, Size: 1}), api.OK)
	}
	for range 500 {
		a.Take()
	}
	for n := range int64(7) {
		a.Drop(n)
	}
	sameIs(t, "new, and empty again", a, b, true)
	for n := range int64(30) {
		for _, l := range []*fifo.Line{a, b} {
			told(t, "Put", l.Put(api.Packet{ID: n, Flow: 2, Size: 5}), api.OK)
		}
		sameIs(t, "filled again", a, b, true)
	}
	a.Take()
	sameIs(t, "one is taken", a, b, false)
	b.Take()
	sameIs(t, "both are taken", a, b, true)
}

func TestSameOfNone(t *testing.T) {
	for _, a := range ofNone() {
		for _, b := range ofNone() {
			sameIs(t, "none", a, b, true)
		}
		for _, room := range []int64{0, 1, mostRoom} {
			sameIs(t, "none, and one", a, lineOf(t, room), false)
			sameIs(t, "none, and one in which something waits", a, did(t, room, 1), false)
		}
		sameIs(t, "a copy of none", a, a.Copy(), true)
	}
}

// P15.3: what follows is asked of the program's own answers.

// life is a line, what came to it and may be there yet, and how often it lost.
type life struct {
	t     *testing.T
	l     *fifo.Line
	room  int64
	came  []api.Packet // in order, without what was lost, dropped or taken
	puts  int64
	lost  int64
	taken int64
	gone  int64
}

func (l *life) put(x api.Packet) {
	l.t.Helper()
	was := l.l.Bytes()
	l.puts++
	switch e := l.l.Put(x); e {
	case api.OK:
		l.came = append(l.came, x)
	case api.ErrRoom:
		l.lost++
		if was+x.Size <= l.room {
			l.t.Fatalf("%v is lost, where %d of %d are there", x, was, l.room)
		}
	default:
		l.t.Fatalf("Put(%v): %v", x, e)
	}
}

func (l *life) take() {
	l.t.Helper()
	x, is := l.l.Take()
	if is != (len(l.came) > 0) || is && x != l.came[0] {
		l.t.Fatalf("Take: %v, %v, of %v", x, is, l.came)
	}
	if is {
		l.came = l.came[1:]
		l.taken++
	}
}

func (l *life) drop(flow int64) {
	l.t.Helper()
	was := len(l.came)
	l.came = slices.DeleteFunc(slices.Clone(l.came), func(x api.Packet) bool { return x.Flow == flow })
	n := l.l.Drop(flow)
	if n != was-len(l.came) {
		l.t.Fatalf("Drop(%d): %d, want %d", flow, n, was-len(l.came))
	}
	l.gone += int64(n)
}

// holds fails unless each packet that came is there, was lost, dropped or taken,
// and no more bytes are there than there is room.
func (l *life) holds() {
	l.t.Helper()
	there := slices.Collect(l.l.All())
	lost, _ := l.l.Lost()
	if lost != l.lost || lost+l.taken+l.gone+int64(len(there)) != l.puts {
		l.t.Fatalf("of %d: %d are there, %d were lost, %d dropped, %d taken", l.puts, len(there), lost, l.gone, l.taken)
	}
	if n := l.l.Bytes(); n != bytesOf(there) || n > l.room {
		l.t.Fatalf("%d bytes are there, where there is room for %d", n, l.room)
	}
}

// Each life of a few calls in a short room.
func TestEachShortLife(t *testing.T) {
	var goOn func(l life, calls int)
	goOn = func(l life, calls int) {
		l.holds()
		if calls == 0 {
			return
		}
		for call := range int64(7) {
			next := l
			next.l, next.came = l.l.Copy(), slices.Clone(l.came)
			switch {
			case call < 4: // of either flow, and of either size
				next.put(api.Packet{ID: l.puts, Flow: call % 2, Size: 1 + call})
			case call < 6:
				next.drop(call % 2)
			default:
				next.take()
			}
			goOn(next, calls-1)
		}
	}
	for _, room := range []int64{0, 3, 5, 8} {
		goOn(life{t: t, l: lineOf(t, room), room: room}, 6)
	}
}

func TestALongLifeGoesRoundAndRound(t *testing.T) {
	r := source(3)
	for _, room := range []int64{1, 10, 64, 1000} {
		l := &life{t: t, l: lineOf(t, room), room: room}
		for range 200 { // it fills, and is emptied, now more, now less
			for range r.Int64N(room/2 + 3) {
				l.put(api.Packet{ID: l.puts, Flow: r.Int64N(5), Size: 1 + r.Int64N(3)})
			}
			if r.IntN(5) == 0 {
				l.drop(r.Int64N(5))
			}
			l.holds()
			for range r.Int64N(room/2 + 3) {
				l.take()
			}
			l.holds()
		}
	}
}

// What was taken leaves its slot to what comes.
func TestALineOfFewPacketsTakesNoMoreMemory(t *testing.T) {
	l := lineOf(t, mostRoom)
	for n := range int64(100) {
		told(t, "Put", l.Put(api.Packet{ID: n, Size: 1}), api.OK)
	}
	times := testing.AllocsPerRun(10, func() {
		for n := range int64(1000) {
			l.Take()
			l.Put(api.Packet{ID: n, Size: 1})
		}
	})
	if times != 0 {
		t.Errorf("new memory: %v times", times)
	}
}

func TestLivesAtRandom(t *testing.T) {
	r := source(4)
	for range 1000 {
		b := newBoth(t, anyRoom(r))
		for range 80 {
			b.any(r)
			b.holds()
		}
	}
}
