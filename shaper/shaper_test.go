package shaper_test

import (
	"math"
	"math/rand/v2"
	"slices"
	"testing"

	"postroad/api"
	"postroad/shaper"
	"postroad/tspec"
)

// The tests hold each shaper against a list of all that went, which is gone
// through anew for each packet that may go.

const (
	mostID   = 1 << 62
	mostRoom = 1000000000
	most     = math.MaxInt64
	least    = math.MinInt64
)

// plain is the reckoning.
type plain struct {
	spec      api.Spec
	room, now int64
	waits     []api.Waiting
	gone      []api.Send
}

func (p *plain) copy() *plain {
	return &plain{p.spec, p.room, p.now, slices.Clone(p.waits), slices.Clone(p.gone)}
}

func (p *plain) bytes() int64 {
	var all int64
	for _, x := range p.waits {
		all += x.Size
	}
	return all
}

// keeps tells whether a packet of a size may go at a tick: whether neither line
// of the spec is crossed by it and what went, from any of that on.
func (p *plain) keeps(now, size int64) bool {
	if size > p.spec.Burst || size > p.spec.Most {
		return false
	}
	sum := size
	for _, x := range slices.Backward(p.gone) {
		sum += x.Size
		if sum > p.spec.Burst+p.spec.Rate*(now-x.At) || sum > p.spec.Most+p.spec.Peak*(now-x.At) {
			return false
		}
	}
	return true
}

func (p *plain) put(x api.Waiting) api.Errno {
	if x.ID < 0 || x.ID > mostID {
		return api.ErrArg
	}
	if x.Size < p.spec.Least || x.Size > p.spec.Most {
		return api.ErrNot
	}
	if p.bytes()+x.Size > p.room {
		return api.ErrRoom
	}
	p.waits = append(p.waits, x)
	return api.OK
}

func (p *plain) goes(now int64) ([]api.Waiting, api.Errno) {
	if now < 0 || now > api.MaxTicks || now < p.now {
		return nil, api.ErrArg
	}
	p.now = now
	var out []api.Waiting
	for len(p.waits) > 0 && p.keeps(now, p.waits[0].Size) {
		out = append(out, p.waits[0])
		p.gone = append(p.gone, api.Send{At: now, Size: p.waits[0].Size})
		p.waits = slices.Delete(p.waits, 0, 1)
	}
	return out, api.OK
}

// next looks at each tick, from the last one on.
func (p *plain) next() (int64, bool) {
	if len(p.waits) == 0 {
		return 0, false
	}
	now := p.now
	for !p.keeps(now, p.waits[0].Size) {
		now++
	}
	return now, true
}

// both are a shaper and its reckoning, to which the same is done.
type both struct {
	t *testing.T
	s *shaper.Shaper
	p *plain
}

func newBoth(t *testing.T, s api.Spec, room int64) both {
	t.Helper()
	return both{t, shaperOf(t, s, room), &plain{spec: s, room: room}}
}

// shaperOf tells the shaper of a spec and a room that may be.
func shaperOf(t *testing.T, s api.Spec, room int64) *shaper.Shaper {
	t.Helper()
	out, e := shaper.New(s, room)
	if out == nil || e != api.OK {
		t.Fatalf("New %v, %d: %v, %v", s, room, out, e)
	}
	return out
}

func (b both) put(x api.Waiting) api.Errno {
	b.t.Helper()
	want := b.p.put(x)
	if e := b.s.Put(x); e != want {
		b.t.Fatalf("%v behind %v: Put %v: %v, want %v", b.p.spec, b.p.waits, x, e, want)
	}
	return want
}

func (b both) goes(now int64) []api.Waiting {
	b.t.Helper()
	want, wantE := b.p.goes(now)
	out, e := b.s.Go(now)
	if !slices.Equal(out, want) || e != wantE {
		b.t.Fatalf("%v behind %v: Go(%d): %v, %v, want %v, %v", b.p.spec, b.p.gone, now, out, e, want, wantE)
	}
	return out
}

// holds holds a shaper against its reckoning, by all that can be asked, and
// fails if asking changes it.
func (b both) holds() {
	b.t.Helper()
	was := b.s.Copy()
	for range 2 {
		if out := slices.Collect(b.s.All()); !slices.Equal(out, b.p.waits) {
			b.t.Fatalf("All: %v, want %v", out, b.p.waits)
		}
		if n := b.s.Bytes(); n != b.p.bytes() {
			b.t.Fatalf("Bytes of %v: %d, want %d", b.p.waits, n, b.p.bytes())
		}
		if s := b.s.Spec(); s != b.p.spec {
			b.t.Fatalf("Spec: %v, want %v", s, b.p.spec)
		}
		want, wantIs := b.p.next()
		if at, is := b.s.Next(); at != want || is != wantIs {
			b.t.Fatalf("%v behind %v at %d: Next of %v: %d, %v, want %d, %v", b.p.spec, b.p.gone, b.p.now, b.p.waits, at, is, want, wantIs)
		}
	}
	if !shaper.Same(was, b.s) {
		b.t.Fatal("asking has changed it")
	}
}

// puts fails unless all packets of these sizes may wait; their IDs rise from one on.
func (b both) puts(first int64, sizes ...int64) {
	b.t.Helper()
	for n, size := range sizes {
		if e := b.put(api.Waiting{ID: first + int64(n), Size: size}); e != api.OK {
			b.t.Fatalf("Put of %d: %v", size, e)
		}
	}
}

// goesNow fails unless just these go, by their IDs.
func (b both) goesNow(now int64, ids ...int64) {
	b.t.Helper()
	if out := idsOf(b.goes(now)); !slices.Equal(out, ids) {
		b.t.Fatalf("Go(%d): %v, want %v", now, out, ids)
	}
}

// nextIs fails unless something goes at that tick first.
func (b both) nextIs(want int64) {
	b.t.Helper()
	if at, is := b.s.Next(); at != want || !is {
		b.t.Fatalf("Next: %d, %v, want %d", at, is, want)
	}
}

// none fails unless nothing waits.
func (b both) none() {
	b.t.Helper()
	if at, is := b.s.Next(); at != 0 || is || b.s.Bytes() != 0 || len(slices.Collect(b.s.All())) != 0 {
		b.t.Fatalf("something waits: %d, %v, %d, %v", at, is, b.s.Bytes(), slices.Collect(b.s.All()))
	}
}

func idsOf(l []api.Waiting) []int64 {
	var ids []int64
	for _, x := range l {
		ids = append(ids, x.ID)
	}
	return ids
}

func told(t *testing.T, what string, e, want api.Errno) {
	t.Helper()
	if e != want {
		t.Fatalf("%s: %v, want %v", what, e, want)
	}
}

func source(n uint64) *rand.Rand { return rand.New(rand.NewPCG(n, 13)) }

var (
	example = api.Spec{Peak: 10, Rate: 2, Burst: 20, Most: 8, Least: 1}
	widest  = api.Spec{Peak: api.MaxRate, Rate: api.MaxRate, Burst: api.MaxBurst, Most: api.MaxPacket, Least: 1}
	slowest = api.Spec{Peak: 1, Rate: 1, Burst: api.MaxPacket, Most: api.MaxPacket, Least: 1}
	nearest = api.Spec{Peak: 1, Rate: 1, Burst: 1, Most: 1, Least: 1}
)

func specs() []api.Spec {
	return []api.Spec{
		example, widest, slowest, nearest,
		{Peak: api.MaxRate, Rate: 1, Burst: api.MaxBurst, Most: api.MaxPacket, Least: api.MaxPacket},
		{Peak: api.MaxRate, Rate: api.MaxRate, Burst: api.MaxPacket, Most: api.MaxPacket, Least: 1},
		{Peak: 2, Rate: 1, Burst: api.MaxBurst, Most: 1, Least: 1},
		{Peak: 7, Rate: 3, Burst: 50, Most: 40, Least: 5},
		{Peak: 10, Rate: 2, Burst: 8, Most: 8, Least: 8},
		{Peak: 3, Rate: 3, Burst: 20, Most: 8, Least: 3},
	}
}

// noSpecs may not be, each but for one of its numbers, or for all.
func noSpecs() []api.Spec {
	out := []api.Spec{
		{},
		{Peak: 10, Rate: 11, Burst: 20, Most: 8, Least: 1},
		{Peak: api.MaxRate + 1, Rate: 2, Burst: 20, Most: 8, Least: 1},
		{Peak: 10, Rate: 2, Burst: 7, Most: 8, Least: 1},
		{Peak: 10, Rate: 2, Burst: api.MaxBurst + 1, Most: 8, Least: 1},
		{Peak: 10, Rate: 2, Burst: 20, Most: 8, Least: 9},
		{Peak: 10, Rate: 2, Burst: 3000, Most: api.MaxPacket + 1, Least: 1},
	}
	for i := range 5 {
		for _, n := range []int64{0, -1, least, most} {
			bad := example
			*[]*int64{&bad.Peak, &bad.Rate, &bad.Burst, &bad.Most, &bad.Least}[i] = n
			out = append(out, bad)
		}
	}
	return out
}

func noIDs() []int64 { return []int64{-1, -2, mostID + 1, mostID + 2, most, least, least + 1, -mostID} }

func noSizes(s api.Spec) []int64 {
	return []int64{s.Least - 1, s.Most + 1, 0, -1, -s.Least, -s.Most, math.MaxInt32 + 1, least, most}
}

func noRooms() []int64 { return []int64{-1, -2, least, mostRoom + 1, mostRoom + 2, most} }

func noTicks() []int64 {
	return []int64{-1, -2, least, least + 1, api.MaxTicks + 1, api.MaxTicks + 2, most - 1, most}
}

// ofNone are shapers that are none.
func ofNone() []*shaper.Shaper {
	noSpec, _ := shaper.New(api.Spec{}, 20)
	noRoom, _ := shaper.New(example, -1)
	return []*shaper.Shaper{nil, {}, new(shaper.Shaper), noSpec, noRoom}
}

// anySpec tells a small one, or one of any size.
func anySpec(r *rand.Rand) api.Spec {
	rates, bursts, packets := int64(6), int64(30), int64(9)
	if r.IntN(4) == 0 {
		rates, bursts, packets = api.MaxRate, api.MaxBurst, api.MaxPacket
	}
	var s api.Spec
	s.Peak = 1 + r.Int64N(rates)
	s.Rate = 1 + r.Int64N(s.Peak)
	s.Most = 1 + r.Int64N(packets)
	s.Least = 1 + r.Int64N(s.Most)
	s.Burst = s.Most + r.Int64N(bursts-s.Most+1)
	return s
}

// anyRoom tells mostly one that is short at times.
func anyRoom(r *rand.Rand, s api.Spec) int64 {
	if r.IntN(3) == 0 {
		return mostRoom
	}
	return r.Int64N(8 * s.Most)
}

// anyTick tells one from that of a shaper on, often the same or that at which
// something goes next, at times a far one.
func anyTick(r *rand.Rand, b both) int64 {
	at, is := b.p.next()
	switch n := r.IntN(20); {
	case n == 0:
		return b.p.now + r.Int64N(api.MaxTicks/40)
	case n < 4:
		return b.p.now + r.Int64N(2+b.p.spec.Burst/b.p.spec.Rate)
	case n < 8 && is:
		return at
	case n < 10 && is:
		return max(b.p.now, at-1)
	}
	return b.p.now + r.Int64N(3)
}

func sizeOf(r *rand.Rand, s api.Spec) int64 { return s.Least + r.Int64N(s.Most-s.Least+1) }

// anyPacket tells mostly one that may be.
func anyPacket(r *rand.Rand, s api.Spec) api.Waiting {
	x := api.Waiting{ID: r.Int64N(10), Size: sizeOf(r, s)}
	switch r.IntN(16) {
	case 0:
		x.Size = s.Least - 2 + r.Int64N(s.Most-s.Least+5)
	case 1:
		x.ID = mostID - 1 + r.Int64N(3)
	case 2:
		x.ID = r.Int64N(3) - 2
	}
	return x
}

// any does anything that may be done to a shaper.
func (b both) any(r *rand.Rand) {
	b.t.Helper()
	switch r.IntN(9) {
	case 0:
		b.goes(b.p.now - 1 - r.Int64N(3))
	case 1, 2, 3:
		b.goes(min(anyTick(r, b), api.MaxTicks))
	default:
		b.put(anyPacket(r, b.p.spec))
	}
}

func TestTheExamples(t *testing.T) {
	s := shaperOf(t, example, 20)
	told(t, "Put(1 8)", s.Put(api.Waiting{ID: 1, Size: 8}), api.OK)
	told(t, "Put(2 8)", s.Put(api.Waiting{ID: 2, Size: 8}), api.OK)
	told(t, "Put(3 5)", s.Put(api.Waiting{ID: 3, Size: 5}), api.ErrRoom)
	told(t, "Put(4 2)", s.Put(api.Waiting{ID: 4, Size: 2}), api.OK)
	for now, want := range []int64{1, 2} {
		if out, e := s.Go(int64(now)); len(out) != 1 || out[0] != (api.Waiting{ID: want, Size: 8}) || e != api.OK {
			t.Errorf("Go(%d): %v, %v", now, out, e)
		}
		if at, is := s.Next(); at != want || !is {
			t.Errorf("Next: %d, %v, want %d", at, is, want)
		}
	}
}

// P13.1

func TestNewIsAtTheFirstTickAndNothingWaits(t *testing.T) {
	for _, s := range specs() {
		for _, room := range []int64{0, 1, s.Most, 20, mostRoom - 1, mostRoom} {
			b, another := newBoth(t, s, room), newBoth(t, s, room)
			b.none()
			b.holds()
			b.put(api.Waiting{ID: 1, Size: s.Most})
			b.holds()
			b.goes(0)
			b.holds()
			another.none() // another one is another one
			another.holds()
		}
	}
}

func TestNewNeedsASpecAndARoom(t *testing.T) {
	for _, spec := range append(noSpecs(), specs()...) {
		for _, room := range append(noRooms(), 0, 20, mostRoom) {
			if slices.Contains(specs(), spec) && room >= 0 && room <= mostRoom {
				continue
			}
			if s, e := shaper.New(spec, room); s != nil || e != api.ErrArg {
				t.Errorf("New %v, %d: %v, %v", spec, room, s, e)
			}
		}
	}
}

func TestPutWaitsBehindAllOthers(t *testing.T) {
	b := newBoth(t, example, 100)
	for n, x := range []api.Waiting{{ID: 5, Size: 8}, {ID: 0, Size: 1}, {ID: mostID, Size: 8}, {ID: 5, Size: 8}, {ID: 5, Size: 3}, {ID: 4, Size: 1}} {
		told(t, "Put", b.put(x), api.OK)
		b.holds()
		if out := slices.Collect(b.s.All()); len(out) != n+1 || out[n] != x {
			t.Errorf("All behind the Put of %v: %v", x, out)
		}
	}
	b.goesNow(0, 5)
	told(t, "Put", b.put(api.Waiting{ID: 1, Size: 1}), api.OK)
	b.goesNow(1000, 0)
	b.goesNow(1001, mostID)
	b.goesNow(1002, 5)
	b.goesNow(1003, 5, 4, 1)
	b.none()
}

// Each refusal changes nothing, and the first of several is told.
func TestPutRefusals(t *testing.T) {
	for _, s := range specs() {
		b := newBoth(t, s, s.Most)
		for _, isFull := range []bool{false, true} {
			if isFull {
				b.puts(7, s.Most)
			}
			was := b.s.Copy()
			for _, id := range noIDs() {
				for _, size := range append(noSizes(s), s.Least, s.Most) {
					told(t, "Put of an ID that may not be", b.put(api.Waiting{ID: id, Size: size}), api.ErrArg)
				}
			}
			for _, id := range []int64{0, 7, mostID} {
				for _, size := range noSizes(s) {
					told(t, "Put of a Size that never keeps", b.put(api.Waiting{ID: id, Size: size}), api.ErrNot)
				}
				if isFull {
					told(t, "Put without room", b.put(api.Waiting{ID: id, Size: s.Least}), api.ErrRoom)
					told(t, "Put without room", b.put(api.Waiting{ID: id, Size: s.Most}), api.ErrRoom)
				}
			}
			b.holds()
			if !shaper.Same(was, b.s) {
				t.Errorf("%v: a refusal has changed it", s)
			}
		}
	}
}

func TestPutAtTheBounds(t *testing.T) {
	for _, s := range specs() {
		b := newBoth(t, s, 4*s.Most)
		for _, x := range []api.Waiting{{ID: 0, Size: s.Least}, {ID: 0, Size: s.Most}, {ID: mostID, Size: s.Least}, {ID: mostID, Size: s.Most}} {
			told(t, "Put", b.put(x), api.OK)
		}
		b.holds()
	}
}

func TestPutUpToTheRoom(t *testing.T) {
	b := newBoth(t, example, 19)
	b.puts(1, 8, 8, 2)
	told(t, "one byte too many", b.put(api.Waiting{ID: 4, Size: 2}), api.ErrRoom)
	b.puts(4, 1)
	told(t, "no byte is left", b.put(api.Waiting{ID: 5, Size: 1}), api.ErrRoom)
	b.holds()
	b.goesNow(0, 1) // what goes leaves room
	told(t, "one byte too many", b.put(api.Waiting{ID: 6, Size: 8}), api.OK)
	told(t, "no byte is left", b.put(api.Waiting{ID: 7, Size: 1}), api.ErrRoom)
	b.holds()
}

func TestWithoutRoomNothingWaits(t *testing.T) {
	for _, s := range specs() {
		for _, room := range []int64{0, s.Least - 1} {
			b := newBoth(t, s, room)
			told(t, "Put", b.put(api.Waiting{ID: 1, Size: s.Least}), api.ErrRoom)
			told(t, "Put", b.put(api.Waiting{ID: 1, Size: s.Most}), api.ErrRoom)
			b.none()
			b.goesNow(3)
		}
	}
}

func TestTheGreatestRoom(t *testing.T) {
	s := shaperOf(t, widest, mostRoom)
	for n := range int64(mostRoom / api.MaxPacket) {
		told(t, "Put", s.Put(api.Waiting{ID: n, Size: api.MaxPacket}), api.OK)
	}
	told(t, "Put", s.Put(api.Waiting{Size: 1}), api.ErrRoom)
	if s.Bytes() != mostRoom {
		t.Errorf("Bytes: %d", s.Bytes())
	}
	var all []api.Waiting
	for now := int64(0); s.Bytes() > 0; now += 10 {
		out, e := s.Go(now)
		if len(out) == 0 || e != api.OK {
			t.Fatalf("Go(%d): %v, %v", now, out, e)
		}
		all = append(all, out...)
	}
	for n, x := range all {
		if x != (api.Waiting{ID: int64(n), Size: api.MaxPacket}) {
			t.Fatalf("the %dth that went: %v", n, x)
		}
	}
	if len(all) != mostRoom/api.MaxPacket {
		t.Errorf("%d went", len(all))
	}
}

func TestGoTellsAllThatGo(t *testing.T) {
	b := newBoth(t, api.Spec{Peak: 10, Rate: 2, Burst: 20, Most: 8, Least: 1}, 100)
	b.puts(1, 3, 2, 3, 1, 8)
	b.goesNow(0, 1, 2, 3) // of the Peak's kind nothing is left
	b.goesNow(0)
	b.holds()
	b.goesNow(1, 4)
	b.holds()
	b.goesNow(2, 5)
	b.none()
}

// What keeps to the bucket does not go ahead of the first, which does not.
func TestNothingGoesPastTheFirst(t *testing.T) {
	b := newBoth(t, api.Spec{Peak: 1, Rate: 1, Burst: 8, Most: 8, Least: 1}, 100)
	b.puts(1, 8)
	b.goesNow(0, 1)
	b.puts(2, 8, 1, 1)
	for now := range int64(8) {
		b.goesNow(now)
		b.nextIs(8)
	}
	b.goesNow(8, 2)
	b.nextIs(9)
	b.goesNow(10, 3, 4)
	b.none()
}

func TestGoNeedsATick(t *testing.T) {
	for _, s := range specs() {
		b := newBoth(t, s, mostRoom)
		for _, at := range []int64{0, 1, 5, 1000, api.MaxTicks} {
			b.goes(at)
			b.puts(1, s.Most, s.Least, s.Most)
			was := b.s.Copy()
			for _, now := range append(noTicks(), at-1, at-2, at/2-1, -at-1) {
				if out, e := b.s.Go(now); len(out) != 0 || e != api.ErrArg {
					t.Fatalf("Go(%d) at %d: %v, %v", now, at, out, e)
				}
			}
			if !shaper.Same(was, b.s) {
				t.Errorf("%v: a refusal has changed it", s)
			}
			b.holds()
			b.goes(at)
		}
	}
}

// It is that tick also where nothing waits, and where nothing goes.
func TestGoIsAtThatTick(t *testing.T) {
	b := newBoth(t, example, 100)
	b.goesNow(7)
	if out, e := b.s.Go(6); len(out) != 0 || e != api.ErrArg {
		t.Errorf("Go(6): %v, %v", out, e)
	}
	b.puts(1, 8, 8)
	b.nextIs(7)
	b.goesNow(7, 1)
	b.nextIs(8)
	b.goesNow(7)
	if out, e := b.s.Go(6); len(out) != 0 || e != api.ErrArg {
		t.Errorf("Go(6): %v, %v", out, e)
	}
	b.goesNow(50, 2)
	if out, e := b.s.Go(49); len(out) != 0 || e != api.ErrArg {
		t.Errorf("Go(49): %v, %v", out, e)
	}
	b.holds()
}

func TestGoTellsNewMemory(t *testing.T) {
	b := newBoth(t, example, 100)
	b.puts(1, 4, 3, 8, 8)
	all := b.s.All()
	was := slices.Collect(all)
	out := b.goes(0)
	if len(out) != 2 {
		t.Fatalf("Go(0): %v", out)
	}
	out[0], out[1] = api.Waiting{}, api.Waiting{}
	out = append(out, api.Waiting{}, api.Waiting{}, api.Waiting{})
	clear(out)
	b.holds()
	if now := slices.Collect(all); !slices.Equal(now, was) {
		t.Errorf("All: %v, want %v", now, was)
	}
	another := b.goes(5)
	if !slices.Equal(another, []api.Waiting{{ID: 3, Size: 8}}) {
		t.Errorf("Go(5): %v", another)
	}
	b.goes(6)
	if !slices.Equal(another, []api.Waiting{{ID: 3, Size: 8}}) {
		t.Errorf("an answer has changed: %v", another)
	}
}

func TestNextIsFromTheLastGoOn(t *testing.T) {
	b := newBoth(t, example, 100)
	b.puts(1, 8)
	b.nextIs(0)
	b.goesNow(3, 1)
	b.none()
	b.puts(2, 1)
	b.nextIs(4) // of the Peak's kind
	b.goesNow(4, 2)
	b.puts(3, 1) // what comes later goes at that tick still
	b.nextIs(4)
	b.goesNow(4, 3)
	b.goesNow(100)
	b.puts(4, 8, 8, 4, 6)
	b.nextIs(100)
	b.goesNow(100, 4)
	b.nextIs(101)
	b.goesNow(101, 5)
	b.nextIs(102)
	b.goesNow(102, 6)
	b.nextIs(103)
	b.goesNow(103, 7) // of the Burst's kind nothing is left
	b.puts(8, 7)
	b.nextIs(107)
	b.goesNow(106)
	b.nextIs(107)
	b.goesNow(110, 8)
}

// That tick may be one that is none any more: at none of those that are left
// something goes.
func TestNextBehindTheLastTick(t *testing.T) {
	b := newBoth(t, slowest, mostRoom)
	b.puts(1, api.MaxPacket, api.MaxPacket)
	b.goesNow(api.MaxTicks-1, 1)
	b.nextIs(api.MaxTicks - 1 + api.MaxPacket)
	b.goesNow(api.MaxTicks)
	b.nextIs(api.MaxTicks - 1 + api.MaxPacket)
	b.holds()
	if out, e := b.s.Go(api.MaxTicks - 1 + api.MaxPacket); len(out) != 0 || e != api.ErrArg {
		t.Errorf("Go behind the last tick: %v, %v", out, e)
	}
	b = newBoth(t, slowest, mostRoom)
	b.puts(1, api.MaxPacket, 1)
	b.goesNow(api.MaxTicks-1, 1)
	b.nextIs(api.MaxTicks)
	b.goesNow(api.MaxTicks, 2)
	b.none()
}

func TestShapersThatAreNone(t *testing.T) {
	for _, s := range ofNone() {
		for _, id := range append(noIDs(), 0, 1, mostID) {
			for _, size := range append(noSizes(example), 1, 8) {
				told(t, "Put", s.Put(api.Waiting{ID: id, Size: size}), api.ErrNil)
			}
		}
		for _, now := range append(noTicks(), 0, 1, api.MaxTicks) {
			if out, e := s.Go(now); len(out) != 0 || e != api.ErrNil {
				t.Errorf("Go: %v, %v", out, e)
			}
		}
		if at, is := s.Next(); at != 0 || is {
			t.Errorf("Next: %d, %v", at, is)
		}
		if s.Bytes() != 0 || s.Spec() != (api.Spec{}) || s.Copy() != nil {
			t.Errorf("Bytes, Spec, Copy: %d, %v, %v", s.Bytes(), s.Spec(), s.Copy())
		}
		all := s.All()
		if all == nil {
			t.Fatal("All is not there")
		}
		for range 2 {
			for x := range all {
				t.Errorf("All: %v", x)
			}
		}
	}
}

// P13.2

func TestBytesOfWhatWaits(t *testing.T) {
	b := newBoth(t, example, 100)
	for n, want := range []int64{8, 9, 17, 25, 28} {
		b.puts(int64(n), []int64{8, 1, 8, 8, 3}[n])
		if b.s.Bytes() != want {
			t.Errorf("Bytes: %d, want %d", b.s.Bytes(), want)
		}
	}
	for _, c := range [][2]int64{{0, 20}, {0, 20}, {1, 19}, {2, 11}, {3, 3}, {4, 0}, {100, 0}} {
		b.goes(c[0])
		if b.s.Bytes() != c[1] {
			t.Errorf("Bytes at %d: %d, want %d", c[0], b.s.Bytes(), c[1])
		}
	}
}

func TestAllMayBeLeftAndGoneOverAgain(t *testing.T) {
	b := newBoth(t, example, 100)
	b.puts(3, 8, 1, 8, 5, 2)
	want := []api.Waiting{{ID: 3, Size: 8}, {ID: 4, Size: 1}, {ID: 5, Size: 8}, {ID: 6, Size: 5}, {ID: 7, Size: 2}}
	all := b.s.All()
	for n := range len(want) + 1 {
		var got []api.Waiting
		for x := range all {
			if len(got) == n {
				break
			}
			got = append(got, x)
		}
		if !slices.Equal(got, want[:n]) {
			t.Errorf("left behind %d: %v, want %v", n, got, want[:n])
		}
	}
	n := 0
	for x := range all { // two ranges at once do not meet
		if got := slices.Collect(all); !slices.Equal(got, want) || x != want[n] {
			t.Errorf("within another one: %v, at %v", got, x)
		}
		n++
	}
	if n != len(want) {
		t.Errorf("%d were gone over", n)
	}
	b.holds()
}

func TestAllIsAsItWasWhenItWasCalled(t *testing.T) {
	r := source(1)
	for range 50 {
		b := newBoth(t, anySpec(r), mostRoom)
		for range 1 + r.IntN(12) {
			b.put(anyPacket(r, b.p.spec))
		}
		all, want := b.s.All(), slices.Clone(b.p.waits)
		another := b.s.Copy()
		for range 40 {
			b.any(r)
			another.Put(anyPacket(r, b.p.spec))
			if got := slices.Collect(all); !slices.Equal(got, want) {
				t.Fatalf("All: %v, want %v", got, want)
			}
		}
		b.holds()
	}
}

func TestAShaperMayChangeWhileAllIsGoneOver(t *testing.T) {
	b := newBoth(t, example, mostRoom)
	b.puts(1, 8, 1, 3, 8, 8, 2, 2, 5)
	want := slices.Clone(b.p.waits)
	n := 0
	for x := range b.s.All() {
		if x != want[n] {
			t.Fatalf("the %dth is %v, want %v", n, x, want[n])
		}
		n++
		b.puts(100, 4, 4)
		b.goes(int64(2 * n))
	}
	if n != len(want) {
		t.Errorf("%d were gone over, want %d", n, len(want))
	}
	b.holds()
}

func TestSpecStays(t *testing.T) {
	for _, want := range specs() {
		b := newBoth(t, want, mostRoom)
		for now := range int64(5) {
			b.puts(1, want.Most, want.Least)
			b.goes(now)
			out := b.s.Spec()
			if out != want {
				t.Errorf("Spec: %v, want %v", out, want)
			}
			out.Burst = 1
		}
		b.holds()
	}
}

func TestACopyGoesOnApart(t *testing.T) {
	r := source(2)
	for range 300 {
		s := anySpec(r)
		b := newBoth(t, s, anyRoom(r, s))
		for range r.IntN(20) {
			b.any(r)
		}
		another := both{t, b.s.Copy(), b.p.copy()}
		if another.s == b.s || !shaper.Same(another.s, b.s) {
			t.Fatal("a copy is another one of the same")
		}
		for range 20 { // now the one, now the other
			[]both{b, another}[r.IntN(2)].any(r)
			b.holds()
			another.holds()
		}
	}
}

func TestCopiesHaveTheirOwnMemory(t *testing.T) {
	for waiting := range int64(20) {
		b := newBoth(t, example, mostRoom)
		for n := range waiting {
			b.puts(n, 1+n%8)
		}
		b.goes(0)
		another := both{t, b.s.Copy(), b.p.copy()}
		b.puts(100, 1, 2, 3)
		another.puts(200, 8, 7, 6)
		b.holds()
		another.holds()
		for now := range int64(60) {
			b.goes(now)
			another.goes(now + 3)
		}
		b.holds()
		another.holds()
	}
}

// sameIs fails unless they are the same, or are not, whichever is named first.
func sameIs(t *testing.T, what string, a, b *shaper.Shaper, want bool) {
	t.Helper()
	if shaper.Same(a, b) != want || shaper.Same(b, a) != want {
		t.Errorf("%s: Same is not %v", what, want)
	}
}

// did tells a shaper behind a life: what is below 0 is a tick of a Go, less one,
// all else is the size of a packet whose ID is that, too.
func did(t *testing.T, s api.Spec, room int64, life ...int64) *shaper.Shaper {
	t.Helper()
	out := shaperOf(t, s, room)
	for _, n := range life {
		if n < 0 {
			_, e := out.Go(-n - 1)
			told(t, "Go", e, api.OK)
			continue
		}
		told(t, "Put", out.Put(api.Waiting{ID: n, Size: n}), api.OK)
	}
	return out
}

// at tells a tick of a Go in a life.
func at(now int64) int64 { return -now - 1 }

func TestSame(t *testing.T) {
	is := func(what string, want bool, a, b []int64) {
		t.Helper()
		sameIs(t, what, did(t, example, 100, a...), did(t, example, 100, b...), want)
	}
	is("new ones", true, nil, nil)
	is("of one life", true, []int64{8, 3, at(0), 7}, []int64{8, 3, at(0), 7})
	is("a Go at which nothing goes", true, []int64{}, []int64{at(0)})
	is("whatever went", true, []int64{3, 2, at(0)}, []int64{5, at(0)})
	is("whatever went, ahead of what waits", true, []int64{3, 5, 6, at(0), 4}, []int64{8, 6, at(0), at(0), 4})
	is("what is there again", true, []int64{8, at(0), at(4)}, []int64{at(4)})
	is("what waits", false, []int64{3}, nil)
	is("what waits, by its size", false, []int64{3}, []int64{4})
	is("what waits, by its order", false, []int64{3, 4}, []int64{4, 3})
	is("what waits, by how many", false, []int64{3, 4}, []int64{3})
	is("what waits, by how many of the same", false, []int64{3, 3}, []int64{3})
	is("a tick", false, nil, []int64{at(1)})
	is("a later tick", false, []int64{8, at(7)}, []int64{8, at(8)})
	is("bytes of the bucket", false, []int64{8, at(0)}, []int64{7, at(0)})
	is("bytes of the Burst alone", false, []int64{8, at(0), at(1)}, []int64{at(1)})
	is("bytes of the Peak alone", false, []int64{2, at(0), 4, at(1)}, []int64{6, at(0), at(1)})
	is("a bucket, where as much waits", false, []int64{8, 8, at(0)}, []int64{8})

	a, b := did(t, example, 100), did(t, example, 100)
	told(t, "Put", a.Put(api.Waiting{ID: 1, Size: 8}), api.OK)
	told(t, "Put", b.Put(api.Waiting{ID: 2, Size: 8}), api.OK)
	sameIs(t, "what waits, by its ID", a, b, false)
	sameIs(t, "itself", a, a, true)

	sameIs(t, "a room", did(t, example, 100, 8), did(t, example, 101, 8), false)
	sameIs(t, "a room, of which as much is left", did(t, example, 100), did(t, example, 108, 8), false)
	for _, other := range []api.Spec{
		{Peak: 11, Rate: 2, Burst: 20, Most: 8, Least: 1},
		{Peak: 10, Rate: 3, Burst: 20, Most: 8, Least: 1},
		{Peak: 10, Rate: 2, Burst: 21, Most: 8, Least: 1},
		{Peak: 10, Rate: 2, Burst: 20, Most: 9, Least: 1},
		{Peak: 10, Rate: 2, Burst: 20, Most: 8, Least: 2},
	} {
		sameIs(t, "a spec", did(t, example, 100), did(t, other, 100), false)
	}
	// Of these two's buckets there is as much of both kinds, by another spec.
	wide := api.Spec{Peak: 10, Rate: 2, Burst: 21, Most: 9, Least: 1}
	sameIs(t, "a spec, of the same bytes", did(t, wide, 100, 1, at(0)), did(t, example, 100, at(0)), false)
}

// Two that are the same by what is kept come there by whatever way.
func TestSameWhateverRoomTheyHaveLeftBehind(t *testing.T) {
	a, b := shaperOf(t, example, mostRoom), shaperOf(t, example, mostRoom)
	for n := range int64(1000) {
		told(t, "Put", a.Put(api.Waiting{ID: n, Size: 1}), api.OK)
	}
	for a.Bytes() > 0 {
		now, _ := a.Next()
		_, e := a.Go(now)
		told(t, "Go", e, api.OK)
	}
	for _, s := range []*shaper.Shaper{a, b} {
		_, e := s.Go(5000)
		told(t, "Go", e, api.OK)
		told(t, "Put", s.Put(api.Waiting{ID: 1, Size: 1}), api.OK)
	}
	sameIs(t, "what went long ago", a, b, true)
}

func TestSameOfNone(t *testing.T) {
	for _, a := range ofNone() {
		for _, b := range ofNone() {
			sameIs(t, "none", a, b, true)
		}
		for _, s := range specs() {
			sameIs(t, "none, and one", a, shaperOf(t, s, 0), false)
			sameIs(t, "none, and one of which something waits", a, did(t, s, mostRoom, s.Most), false)
		}
		sameIs(t, "a copy of none", a, a.Copy(), true)
	}
}

// P13.3: what follows is asked of the program's own answers.

// life is a shaper, and what came to it and went.
type life struct {
	t    *testing.T
	s    *shaper.Shaper
	came []api.Waiting
	went []api.Waiting
	sent []api.Send
}

func (l *life) put(size int64) {
	l.t.Helper()
	x := api.Waiting{ID: int64(len(l.came)), Size: size}
	told(l.t, "Put", l.s.Put(x), api.OK)
	l.came = append(l.came, x)
}

func (l *life) copy() *life {
	return &life{l.t, l.s.Copy(), slices.Clone(l.came), slices.Clone(l.went), slices.Clone(l.sent)}
}

// goes fails unless what goes keeps to the spec, in the order in which it came,
// and what is the first then does not.
func (l *life) goes(now int64) {
	l.t.Helper()
	next, is := l.s.Next()
	out, e := l.s.Go(now)
	told(l.t, "Go", e, api.OK)
	if goes := is && next <= now; goes != (len(out) > 0) {
		l.t.Fatalf("Go(%d): %v, where Next was %d, %v", now, out, next, is)
	}
	for _, x := range out {
		l.went = append(l.went, x)
		l.sent = append(l.sent, api.Send{At: now, Size: x.Size})
	}
	if !l.keeps(l.sent) {
		l.t.Fatalf("%v: what goes does not keep to it: %v", l.s.Spec(), l.sent)
	}
	if !slices.Equal(append(slices.Clone(l.went), slices.Collect(l.s.All())...), l.came) {
		l.t.Fatalf("what went, and waits: %v, %v, of %v", l.went, slices.Collect(l.s.All()), l.came)
	}
	if len(l.went) < len(l.came) {
		first := api.Send{At: now, Size: l.came[len(l.went)].Size}
		if l.keeps(append(slices.Clone(l.sent), first)) {
			l.t.Fatalf("%v behind %v: %v waits, and keeps to it", l.s.Spec(), l.sent, first)
		}
	}
}

func (l *life) keeps(sent []api.Send) bool {
	l.t.Helper()
	keeps, e := tspec.Keeps(l.s.Spec(), sent...)
	told(l.t, "Keeps", e, api.OK)
	return keeps
}

// nextHolds fails unless nothing goes ahead of Next, and at Next something does.
func (l *life) nextHolds(now int64) {
	l.t.Helper()
	next, is := l.s.Next()
	if is != (len(l.went) < len(l.came)) || is && next < now {
		l.t.Fatalf("Next at %d: %d, %v", now, next, is)
	}
	if !is {
		return
	}
	for _, at := range []int64{now, (now + next) / 2, next - 1} {
		if at < now || at >= next || at > api.MaxTicks {
			continue
		}
		if out, e := l.s.Copy().Go(at); len(out) != 0 || e != api.OK {
			l.t.Fatalf("Go(%d) ahead of Next, which is %d: %v, %v", at, next, out, e)
		}
	}
	if next > api.MaxTicks {
		return
	}
	if out, e := l.s.Copy().Go(next); len(out) == 0 || e != api.OK {
		l.t.Fatalf("Go(%d) at Next: %v, %v", next, out, e)
	}
}

// Each life of a few packets of each size, with each few ticks between them.
func TestEachShortLifeKeepsToTheSpec(t *testing.T) {
	var goOn func(l *life, now int64, packets int)
	goOn = func(l *life, now int64, packets int) {
		l.nextHolds(now)
		if packets == 0 {
			return
		}
		s := l.s.Spec()
		for step := range int64(3) {
			for size := s.Least; size <= s.Most; size++ {
				next := l.copy()
				next.put(size)
				if step < 2 { // else it waits with that behind it
					next.goes(now + step)
					goOn(next, now+step, packets-1)
					continue
				}
				goOn(next, now, packets-1)
			}
		}
	}
	for _, s := range []api.Spec{
		{Peak: 2, Rate: 1, Burst: 4, Most: 3, Least: 1},
		{Peak: 3, Rate: 3, Burst: 5, Most: 4, Least: 2},
		{Peak: 3, Rate: 2, Burst: 3, Most: 3, Least: 1},
	} {
		goOn(&life{t: t, s: shaperOf(t, s, 100)}, 0, 4)
	}
}

func TestLivesAtRandomKeepToTheSpec(t *testing.T) {
	r := source(3)
	for range 600 {
		s := anySpec(r)
		l, now := &life{t: t, s: shaperOf(t, s, mostRoom)}, int64(0)
		for range 50 {
			for range r.IntN(3) {
				l.put(sizeOf(r, s))
			}
			l.nextHolds(now)
			now = min(now+[]int64{0, 1, r.Int64N(5), r.Int64N(2 + s.Burst/s.Rate)}[r.IntN(4)], api.MaxTicks)
			if next, is := l.s.Next(); is && next <= api.MaxTicks && r.IntN(4) == 0 {
				now = max(now, next)
			}
			l.goes(now)
			l.nextHolds(now)
		}
	}
}

// A life by Next alone: each packet goes as soon as it may.
func TestALifeAtTheEdge(t *testing.T) {
	for _, s := range specs() {
		l := &life{t: t, s: shaperOf(t, s, mostRoom)}
		for n := range int64(150) {
			l.put(s.Least + n*n%(s.Most-s.Least+1))
		}
		for {
			next, is := l.s.Next()
			if !is {
				break
			}
			l.goes(next)
		}
		if len(l.went) != 150 {
			t.Errorf("%v: %d went", s, len(l.went))
		}
	}
}

func TestLivesAtRandom(t *testing.T) {
	r := source(4)
	for range 500 {
		s := anySpec(r)
		b := newBoth(t, s, anyRoom(r, s))
		for range 60 {
			b.any(r)
			b.holds()
		}
	}
}
