package bucket_test

import (
	"math"
	"math/rand/v2"
	"slices"
	"testing"

	"postroad/api"
	"postroad/bucket"
	"postroad/tspec"
)

// The tests hold each bucket against a list of all packets that were taken,
// which is gone through anew for each answer.

const (
	most  = math.MaxInt64
	least = math.MinInt64
)

// plain is the reckoning.
type plain struct {
	spec  api.Spec
	now   int64
	taken []api.Send
}

// has tells what there is at a tick: of each kind what was there at first, or
// less, by what was taken since one of the packets and has not come since then.
func (p *plain) has(now int64) (burst, peak int64) {
	burst, peak = p.spec.Burst, p.spec.Most
	sum := int64(0)
	for _, x := range slices.Backward(p.taken) {
		sum += x.Size
		burst = min(burst, p.spec.Burst+p.spec.Rate*(now-x.At)-sum)
		peak = min(peak, p.spec.Most+p.spec.Peak*(now-x.At)-sum)
	}
	return burst, peak
}

func (p *plain) isSize(size int64) bool { return size >= p.spec.Least && size <= p.spec.Most }

func (p *plain) isTick(now int64) bool { return now >= p.now && now >= 0 && now <= api.MaxTicks }

func (p *plain) fits(now, size int64) bool {
	burst, peak := p.has(now)
	return p.isSize(size) && size <= burst && size <= peak
}

func (p *plain) take(now, size int64) (bool, api.Errno) {
	if !p.isTick(now) {
		return false, api.ErrArg
	}
	p.now = now
	if !p.fits(now, size) {
		return false, api.OK
	}
	p.taken = append(p.taken, api.Send{At: now, Size: size})
	return true, api.OK
}

// when looks at each tick, from that one on.
func (p *plain) when(now, size int64) (int64, api.Errno) {
	if !p.isTick(now) {
		return 0, api.ErrArg
	}
	if !p.isSize(size) {
		return 0, api.ErrNot
	}
	for !p.fits(now, size) {
		now++
	}
	return now, api.OK
}

// both are a bucket and its reckoning, of which the same is asked.
type both struct {
	t *testing.T
	b *bucket.Bucket
	p *plain
}

func newBoth(t *testing.T, s api.Spec) both {
	t.Helper()
	return both{t, bucketOf(t, s), &plain{spec: s}}
}

// bucketOf tells the bucket of a spec that may be.
func bucketOf(t *testing.T, s api.Spec) *bucket.Bucket {
	t.Helper()
	b, e := bucket.New(s)
	if b == nil || e != api.OK {
		t.Fatalf("New %v: %v, %v", s, b, e)
	}
	return b
}

func (b both) take(now, size int64) bool {
	b.t.Helper()
	want, wantE := b.p.take(now, size)
	ok, e := b.b.Take(now, size)
	if ok != want || e != wantE {
		b.t.Fatalf("%v behind %v: Take(%d, %d): %v, %v, want %v, %v", b.p.spec, b.p.taken, now, size, ok, e, want, wantE)
	}
	return ok
}

func (b both) has(now int64) {
	b.t.Helper()
	var burst, peak int64
	wantE := api.ErrArg
	if b.p.isTick(now) {
		burst, peak = b.p.has(now)
		wantE = api.OK
	}
	if m, n, e := b.b.Has(now); m != burst || n != peak || e != wantE {
		b.t.Fatalf("%v behind %v: Has(%d): %d, %d, %v, want %d, %d, %v", b.p.spec, b.p.taken, now, m, n, e, burst, peak, wantE)
	}
}

func (b both) when(now, size int64) {
	b.t.Helper()
	want, wantE := b.p.when(now, size)
	if at, e := b.b.When(now, size); at != want || e != wantE {
		b.t.Fatalf("%v behind %v: When(%d, %d): %d, %v, want %d, %v", b.p.spec, b.p.taken, now, size, at, e, want, wantE)
	}
}

// holds holds a bucket against its reckoning, by all that can be asked.
func (b both) holds() {
	b.t.Helper()
	if b.b.Spec() != b.p.spec || b.b.Now() != b.p.now {
		b.t.Fatalf("Spec, Now: %v, %d, want %v, %d", b.b.Spec(), b.b.Now(), b.p.spec, b.p.now)
	}
	s := b.p.spec
	for _, now := range append(noTicks(), b.p.now-1, b.p.now, b.p.now+1, b.p.now+3, b.p.now+1000, api.MaxTicks-1, api.MaxTicks) {
		b.has(now)
		for _, size := range []int64{least, -1, 0, s.Least - 1, s.Least, (s.Least + s.Most) / 2, s.Most, s.Most + 1, most} {
			b.when(now, size)
		}
	}
	if b.b.Spec() != b.p.spec || b.b.Now() != b.p.now {
		b.t.Fatalf("asking has changed Spec, Now: %v, %d", b.b.Spec(), b.b.Now())
	}
}

// there fails unless so much of both kinds is there at a tick.
func (b both) there(now, burst, peak int64) {
	b.t.Helper()
	if m, n, e := b.b.Has(now); m != burst || n != peak || e != api.OK {
		b.t.Fatalf("Has(%d): %d, %d, %v, want %d, %d", now, m, n, e, burst, peak)
	}
}

// takes fails unless it is taken, or is not, just as it must be.
func (b both) takes(now, size int64, want bool) {
	b.t.Helper()
	if ok := b.take(now, size); ok != want {
		b.t.Fatalf("Take(%d, %d): %v", now, size, ok)
	}
}

func source(n uint64) *rand.Rand { return rand.New(rand.NewPCG(n, 12)) }

var (
	example = api.Spec{Peak: 10, Rate: 2, Burst: 20, Most: 8, Least: 1}
	widest  = api.Spec{Peak: api.MaxRate, Rate: api.MaxRate, Burst: api.MaxBurst, Most: api.MaxPacket, Least: 1}
	slowest = api.Spec{Peak: 1, Rate: 1, Burst: api.MaxPacket, Most: api.MaxPacket, Least: 1}
	nearest = api.Spec{Peak: 1, Rate: 1, Burst: 1, Most: 1, Least: 1}
)

func specs() []api.Spec {
	return []api.Spec{
		example, widest, slowest, nearest,
		{Peak: api.MaxRate, Rate: 1, Burst: api.MaxBurst, Most: api.MaxPacket, Least: api.MaxPacket},
		{Peak: api.MaxRate, Rate: api.MaxRate, Burst: api.MaxPacket, Most: api.MaxPacket, Least: 1},
		{Peak: 2, Rate: 1, Burst: api.MaxBurst, Most: 1, Least: 1},
		{Peak: 7, Rate: 3, Burst: 50, Most: 40, Least: 5},
		{Peak: 10, Rate: 2, Burst: 8, Most: 8, Least: 8},
		{Peak: 3, Rate: 3, Burst: 20, Most: 8, Least: 3},
	}
}

// noSpecs may not be, each but for one of its numbers, or for all.
func noSpecs() []api.Spec {
	out := []api.Spec{
		{},
		{Peak: 10, Rate: 11, Burst: 20, Most: 8, Least: 1},
		{Peak: api.MaxRate + 1, Rate: 2, Burst: 20, Most: 8, Least: 1},
		{Peak: api.MaxRate + 1, Rate: api.MaxRate + 1, Burst: 20, Most: 8, Least: 1},
		{Peak: 10, Rate: 2, Burst: 7, Most: 8, Least: 1},
		{Peak: 10, Rate: 2, Burst: api.MaxBurst + 1, Most: 8, Least: 1},
		{Peak: 10, Rate: 2, Burst: 20, Most: 8, Least: 9},
		{Peak: 10, Rate: 2, Burst: 3000, Most: api.MaxPacket + 1, Least: 1},
		{Peak: 10, Rate: 2, Burst: 3000, Most: api.MaxPacket + 1, Least: api.MaxPacket + 1},
	}
	for i := range 5 {
		for _, n := range []int64{0, -1, least, most} {
			bad := example
			*[]*int64{&bad.Peak, &bad.Rate, &bad.Burst, &bad.Most, &bad.Least}[i] = n
			out = append(out, bad)
		}
	}
	return out
}

func noTicks() []int64 {
	return []int64{-1, -2, least, least + 1, api.MaxTicks + 1, api.MaxTicks + 2, most - 1, most}
}

// ofNone are buckets that are none.
func ofNone() []*bucket.Bucket {
	refused, _ := bucket.New(api.Spec{})
	return []*bucket.Bucket{nil, {}, new(bucket.Bucket), refused}
}

// anySpec tells a small one, or one of any size.
func anySpec(r *rand.Rand) api.Spec {
	rates, bursts, packets := int64(6), int64(30), int64(9)
	if r.IntN(4) == 0 {
		rates, bursts, packets = api.MaxRate, api.MaxBurst, api.MaxPacket
	}
	var s api.Spec
	s.Peak = 1 + r.Int64N(rates)
	s.Rate = 1 + r.Int64N(s.Peak)
	s.Most = 1 + r.Int64N(packets)
	s.Least = 1 + r.Int64N(s.Most)
	s.Burst = s.Most + r.Int64N(bursts-s.Most+1)
	return s
}

// anyStep tells how many ticks go by: often none, at times very many.
func anyStep(r *rand.Rand, s api.Spec) int64 {
	switch r.IntN(20) {
	case 0:
		return r.Int64N(api.MaxTicks / 40)
	case 1, 2, 3:
		return r.Int64N(2 + s.Burst/s.Rate)
	case 4, 5, 6, 7:
		return 1 + r.Int64N(2+s.Most/s.Peak)
	}
	return r.Int64N(2)
}

// anySize tells mostly one that may be.
func anySize(r *rand.Rand, s api.Spec) int64 {
	if r.IntN(8) == 0 {
		return s.Least - 2 + r.Int64N(s.Most-s.Least+5)
	}
	return s.Least + r.Int64N(s.Most-s.Least+1)
}

func TestTheExamples(t *testing.T) {
	b := newBoth(t, example)
	b.takes(0, 8, true)
	b.takes(0, 1, false)
	b.takes(1, 8, true)
	b.there(2, 8, 8)
	if at, e := b.b.When(1, 8); at != 2 || e != api.OK {
		t.Errorf("When(1, 8): %d, %v", at, e)
	}
	if at, e := b.b.When(1, 9); at != 0 || e != api.ErrNot {
		t.Errorf("When(1, 9): %d, %v", at, e)
	}
	if ok, e := b.b.Take(0, 1); ok || e != api.ErrArg {
		t.Errorf("Take(0, 1): %v, %v", ok, e)
	}
	b.holds()
}

// P12.1

func TestNewIsFullAtTheFirstTick(t *testing.T) {
	for _, s := range specs() {
		b, another := newBoth(t, s), newBoth(t, s)
		b.there(0, s.Burst, s.Most)
		b.there(1, s.Burst, s.Most)
		b.holds()
		b.takes(0, s.Most, true)
		b.holds()
		another.holds() // another one is another one
	}
}

func TestNewNeedsASpec(t *testing.T) {
	for _, s := range noSpecs() {
		if b, e := bucket.New(s); b != nil || e != api.ErrArg {
			t.Errorf("New %v: %v, %v", s, b, e)
		}
	}
}

// What else is wrong with a packet than its tick is no error: it does not keep.
func TestTakeOfASizeThatNeverKeeps(t *testing.T) {
	for _, s := range specs() {
		for _, size := range []int64{s.Least - 1, s.Most + 1, 0, -1, -s.Least, -s.Most, least, most, math.MaxInt32 + 1} {
			b := newBoth(t, s)
			b.takes(0, size, false)
			b.there(0, s.Burst, s.Most)
			b.takes(5, size, false)
			b.there(5, s.Burst, s.Most)
			if b.b.Now() != 5 {
				t.Errorf("Take(5, %d) left it at %d", size, b.b.Now())
			}
			b.holds()
		}
	}
}

func TestTakeUpToLeastAndMost(t *testing.T) {
	b := newBoth(t, api.Spec{Peak: 100, Rate: 100, Burst: 1000, Most: 40, Least: 5})
	for now, size := range []int64{4, 5, 6, 39, 40, 41} {
		b.takes(int64(now), size, size >= 5 && size <= 40)
		b.holds()
	}
}

// Each kind alone keeps a packet back that is one byte too long for it.
func TestTakeUpToWhatThereIsOfEachKind(t *testing.T) {
	fast := newBoth(t, api.Spec{Peak: 1000, Rate: 1, Burst: 20, Most: 8, Least: 1})
	fast.takes(0, 8, true)
	fast.takes(1, 8, true)
	fast.there(2, 6, 8)
	fast.takes(2, 7, false)
	fast.takes(2, 6, true)
	fast.there(2, 0, 2)
	fast.holds()

	slow := newBoth(t, api.Spec{Peak: 1, Rate: 1, Burst: 20, Most: 8, Least: 1})
	slow.takes(0, 5, true)
	slow.there(0, 15, 3)
	slow.takes(0, 4, false)
	slow.takes(0, 3, true)
	slow.there(0, 12, 0)
	slow.takes(0, 1, false)
	slow.holds()
}

func TestWhatDoesNotKeepTakesNothing(t *testing.T) {
	b := newBoth(t, example)
	b.takes(3, 6, true)
	for range 5 {
		for _, size := range []int64{3, 8, 9, 0, -1, least, most} {
			b.takes(3, size, false)
			b.there(3, 14, 2)
		}
	}
	b.takes(3, 2, true)
	b.there(3, 12, 0)
}

func TestNeverMoreThanAtFirst(t *testing.T) {
	for _, s := range specs() {
		b := newBoth(t, s)
		b.takes(0, s.Most, true)
		full := (s.Most + s.Rate - 1) / s.Rate // by then what was taken is there again
		b.there(full, s.Burst, s.Most)
		b.there(full+1, s.Burst, s.Most)
		b.there(api.MaxTicks, s.Burst, s.Most)
		b.takes(full+5, s.Most+1, false)
		b.there(full+5, s.Burst, s.Most)
		b.holds()
		b.takes(api.MaxTicks, s.Most, true)
		b.there(api.MaxTicks, s.Burst-s.Most, 0)
		b.holds()
	}
}

// Ticks in between, at which nothing is taken, make no difference.
func TestManyStepsAreAsOne(t *testing.T) {
	for _, s := range specs() {
		once, often := newBoth(t, s), newBoth(t, s)
		for _, b := range []both{once, often} {
			b.takes(0, s.Most, true)
		}
		for now := range int64(30) {
			often.takes(now, 0, false)
			often.holds()
		}
		once.takes(29, 0, false)
		if !bucket.Same(once.b, often.b) {
			t.Errorf("%v: they differ", s)
		}
	}
}

// A tick that may not be is an error, whatever the size; nothing changes then.
func TestTicksThatMayNotBe(t *testing.T) {
	for _, at := range []int64{0, 1, 9, api.MaxTicks} {
		b := newBoth(t, example)
		b.takes(at, 5, true)
		for _, now := range append(noTicks(), at-1, at-2) {
			for _, size := range []int64{least, -1, 0, 1, 3, 8, 9, most} {
				if ok, e := b.b.Take(now, size); ok || e != api.ErrArg {
					t.Errorf("Take(%d, %d) at %d: %v, %v", now, size, at, ok, e)
				}
				if when, e := b.b.When(now, size); when != 0 || e != api.ErrArg {
					t.Errorf("When(%d, %d) at %d: %d, %v", now, size, at, when, e)
				}
			}
			if burst, peak, e := b.b.Has(now); burst != 0 || peak != 0 || e != api.ErrArg {
				t.Errorf("Has(%d) at %d: %d, %d, %v", now, at, burst, peak, e)
			}
		}
		b.there(at, 15, 3)
		b.takes(at, 3, true) // its own tick may be
		b.holds()
	}
}

func TestTakeMovesIt(t *testing.T) {
	b := newBoth(t, example)
	for _, c := range []struct {
		now, size int64
		keeps     bool
	}{{0, 1, true}, {4, 8, true}, {4, 8, false}, {5, 9, false}, {5, 8, true}, {1000, 0, false}, {api.MaxTicks, 8, true}, {api.MaxTicks, 8, false}} {
		b.takes(c.now, c.size, c.keeps)
		if b.b.Now() != c.now {
			t.Errorf("Take(%d, %d) left it at %d", c.now, c.size, b.b.Now())
		}
	}
}

func TestHasAndWhenLeaveItAtItsTick(t *testing.T) {
	b := newBoth(t, example)
	b.takes(3, 8, true)
	was := b.b.Copy()
	for _, now := range []int64{api.MaxTicks, 3, 4, 1000} {
		b.has(now)
		b.when(now, 8)
		b.when(now, 9)
		if b.b.Now() != 3 || !bucket.Same(was, b.b) {
			t.Fatalf("it has changed: it is at %d", b.b.Now())
		}
	}
	b.there(3, 12, 0)
	b.takes(3, 1, false)
	b.takes(4, 8, true)
}

func TestHasEachTick(t *testing.T) {
	b := newBoth(t, api.Spec{Peak: 3, Rate: 2, Burst: 11, Most: 8, Least: 1})
	b.takes(10, 8, true)
	for n, want := range [][2]int64{{3, 0}, {5, 3}, {7, 6}, {9, 8}, {11, 8}, {11, 8}} {
		b.there(10+int64(n), want[0], want[1])
	}
}

func TestWhenIsTheFirstTick(t *testing.T) {
	b := newBoth(t, api.Spec{Peak: 1000, Rate: 3, Burst: 8, Most: 8, Least: 2}) // Burst keeps it back
	b.takes(5, 7, true)
	for size, want := range map[int64]int64{2: 6, 3: 6, 4: 6, 5: 7, 7: 7, 8: 8} {
		if at, e := b.b.When(5, size); at != want || e != api.OK {
			t.Errorf("When(5, %d): %d, %v, want %d", size, at, e, want)
		}
	}
	b = newBoth(t, api.Spec{Peak: 3, Rate: 3, Burst: 800, Most: 8, Least: 2}) // Most keeps it back
	b.takes(5, 7, true)
	for size, want := range map[int64]int64{2: 6, 4: 6, 5: 7, 7: 7, 8: 8} {
		if at, e := b.b.When(5, size); at != want || e != api.OK {
			t.Errorf("When(5, %d): %d, %v, want %d", size, at, e, want)
		}
	}
	for now, want := range map[int64]int64{5: 8, 6: 8, 7: 8, 8: 8, 9: 9, 1000: 1000, api.MaxTicks: api.MaxTicks} {
		if at, e := b.b.When(now, 8); at != want || e != api.OK {
			t.Errorf("When(%d, 8): %d, %v, want %d", now, at, e, want)
		}
	}
}

func TestWhenBeyondTheLastTick(t *testing.T) {
	b := newBoth(t, slowest)
	b.takes(api.MaxTicks-1, api.MaxPacket, true)
	for _, now := range []int64{api.MaxTicks - 1, api.MaxTicks} {
		for _, size := range []int64{1, 2, 3, 1000, api.MaxPacket} {
			if at, e := b.b.When(now, size); at != api.MaxTicks-1+size || e != api.OK {
				t.Errorf("When(%d, %d): %d, %v", now, size, at, e)
			}
		}
	}
}

func TestWhenNeedsASizeThatMayKeep(t *testing.T) {
	for _, s := range specs() {
		b := newBoth(t, s)
		b.takes(7, s.Most, true)
		for _, now := range []int64{7, 8, api.MaxTicks} {
			for _, size := range []int64{least, -1, 0, s.Least - 1, s.Most + 1, most} {
				if at, e := b.b.When(now, size); at != 0 || e != api.ErrNot {
					t.Errorf("%v: When(%d, %d): %d, %v", s, now, size, at, e)
				}
			}
		}
	}
}

// Till then no packet of that size is taken, and then it is.
func TestWhenIsTheTickAtWhichItIsTaken(t *testing.T) {
	r := source(1)
	for range 2000 {
		b := bucketOf(t, anySpec(r))
		s := b.Spec()
		for range r.IntN(8) {
			b.Take(b.Now()+r.Int64N(2), s.Least+r.Int64N(s.Most-s.Least+1))
		}
		size := s.Least + r.Int64N(s.Most-s.Least+1)
		when, e := b.When(b.Now(), size)
		if e != api.OK {
			t.Fatal(e)
		}
		if when > b.Now() {
			if ok, e := b.Copy().Take(when-1, size); ok || e != api.OK {
				t.Fatalf("%v: taken ahead of %d: %v, %v", s, when, ok, e)
			}
		}
		if ok, e := b.Copy().Take(when, size); !ok || e != api.OK {
			t.Fatalf("%v: not taken at %d: %v, %v", s, when, ok, e)
		}
	}
}

func TestBucketsThatAreNone(t *testing.T) {
	for _, b := range ofNone() {
		for _, now := range append(noTicks(), 0, 1, api.MaxTicks) {
			for _, size := range []int64{least, -1, 0, 1, 8, most} {
				if ok, e := b.Take(now, size); ok || e != api.ErrNil {
					t.Errorf("Take: %v, %v", ok, e)
				}
				if at, e := b.When(now, size); at != 0 || e != api.ErrNil {
					t.Errorf("When: %d, %v", at, e)
				}
			}
			if burst, peak, e := b.Has(now); burst != 0 || peak != 0 || e != api.ErrNil {
				t.Errorf("Has: %d, %d, %v", burst, peak, e)
			}
		}
		if b.Spec() != (api.Spec{}) || b.Now() != 0 || b.Copy() != nil {
			t.Errorf("Spec, Now, Copy: %v, %d, %v", b.Spec(), b.Now(), b.Copy())
		}
	}
}

// P12.2

func TestSpecStays(t *testing.T) {
	for _, s := range specs() {
		b := bucketOf(t, s)
		for now := range int64(5) {
			b.Take(now, s.Most)
			b.Take(now, s.Least)
			if b.Spec() != s {
				t.Errorf("Spec: %v, want %v", b.Spec(), s)
			}
		}
		out := b.Spec()
		out.Burst = 1
		if b.Spec() != s {
			t.Errorf("an answer is not apart: %v", b.Spec())
		}
	}
}

func TestACopyGoesOnApart(t *testing.T) {
	r := source(2)
	for range 300 {
		s := anySpec(r)
		b := newBoth(t, s)
		for range r.IntN(6) {
			b.take(b.p.now+anyStep(r, s), anySize(r, s))
		}
		another := both{t, b.b.Copy(), &plain{s, b.p.now, slices.Clone(b.p.taken)}}
		if another.b == b.b || !bucket.Same(another.b, b.b) {
			t.Fatal("a copy is another one of the same")
		}
		for range 12 { // now the one, now the other
			one := []both{b, another}[r.IntN(2)]
			one.take(one.p.now+anyStep(r, s), anySize(r, s))
			b.has(b.p.now)
			another.has(another.p.now)
			if b.b.Now() != b.p.now || another.b.Now() != another.p.now || another.b.Spec() != s {
				t.Fatal("they do not go on apart")
			}
		}
	}
}

// sameIs fails unless they are the same, or are not, whichever is named first.
func sameIs(t *testing.T, what string, a, b *bucket.Bucket, want bool) {
	t.Helper()
	if bucket.Same(a, b) != want || bucket.Same(b, a) != want {
		t.Errorf("%s: Same is not %v", what, want)
	}
}

// after tells a bucket that was asked to take these: a tick, a size.
func after(t *testing.T, s api.Spec, l ...int64) *bucket.Bucket {
	t.Helper()
	b := bucketOf(t, s)
	for i := 0; i < len(l); i += 2 {
		if _, e := b.Take(l[i], l[i+1]); e != api.OK {
			t.Fatal(e)
		}
	}
	return b
}

func TestSame(t *testing.T) {
	sameIs(t, "new ones", after(t, example), after(t, example), true)
	sameIs(t, "of one life", after(t, example, 0, 8, 3, 4), after(t, example, 0, 8, 3, 4), true)
	sameIs(t, "of two lives that come to the same", after(t, example, 0, 3, 0, 2), after(t, example, 0, 5), true)
	sameIs(t, "one that took nothing", after(t, example), after(t, example, 0, 0, 0, 9), true)
	sameIs(t, "what did not keep", after(t, example, 2, 5, 2, 4, 2, 9), after(t, example, 2, 5), true)
	sameIs(t, "what is there again", after(t, example, 0, 8, 4, 0), after(t, example, 4, 0), true)
	sameIs(t, "a tick", after(t, example), after(t, example, 1, 0), false)
	sameIs(t, "a later tick", after(t, example, 7, 8), after(t, example, 8, 8), false)
	sameIs(t, "bytes", after(t, example, 0, 8), after(t, example, 0, 7), false)
	sameIs(t, "bytes of the Burst alone", after(t, example, 0, 8, 1, 0), after(t, example, 1, 0), false)
	b, c := after(t, example, 0, 2, 1, 4), after(t, example, 0, 6, 1, 0)
	if m, _, _ := b.Has(1); m != 16 {
		t.Fatal("the Burst's bytes are not the same")
	} else if n, _, _ := c.Has(1); n != m {
		t.Fatal("the Burst's bytes are not the same")
	}
	sameIs(t, "bytes of the Peak alone", b, c, false)
	sameIs(t, "itself", b, b, true)
	for _, other := range []api.Spec{
		{Peak: 11, Rate: 2, Burst: 20, Most: 8, Least: 1},
		{Peak: 10, Rate: 3, Burst: 20, Most: 8, Least: 1},
		{Peak: 10, Rate: 2, Burst: 21, Most: 8, Least: 1},
		{Peak: 10, Rate: 2, Burst: 20, Most: 9, Least: 1},
		{Peak: 10, Rate: 2, Burst: 20, Most: 8, Least: 2},
	} {
		sameIs(t, "a spec", after(t, example), after(t, other), false)
	}
	// Of these two there is as much of both kinds, by another spec.
	wide := api.Spec{Peak: 10, Rate: 2, Burst: 21, Most: 9, Least: 1}
	sameIs(t, "a spec, of the same bytes", after(t, wide, 0, 1), after(t, example), false)
}

func TestSameOfNone(t *testing.T) {
	for _, a := range ofNone() {
		for _, b := range ofNone() {
			sameIs(t, "none", a, b, true)
		}
		for _, s := range specs() {
			sameIs(t, "none, and one", a, bucketOf(t, s), false)
			sameIs(t, "none, and one that is used up", a, after(t, s, 0, s.Most), false)
		}
		sameIs(t, "a copy of none", a, a.Copy(), true)
	}
}

// P12.3

// keepsTogether fails unless that packet is taken just if it keeps to the spec
// together with those that were taken; it tells these, and that one if it was.
func keepsTogether(t *testing.T, b *bucket.Bucket, taken []api.Send, now, size int64) []api.Send {
	t.Helper()
	all := append(slices.Clone(taken), api.Send{At: now, Size: size})
	want, e := tspec.Keeps(b.Spec(), all...)
	if e != api.OK {
		t.Fatal(e)
	}
	if ok, e := b.Take(now, size); ok != want || e != api.OK {
		t.Fatalf("%v behind %v: Take(%d, %d): %v, %v, want %v", b.Spec(), taken, now, size, ok, e, want)
	}
	if want {
		return all
	}
	return taken
}

// Each life of a few packets of each size, with each few ticks between them.
func TestEachShortLifeKeepsToTheSpec(t *testing.T) {
	var goOn func(b *bucket.Bucket, taken []api.Send, packets int)
	goOn = func(b *bucket.Bucket, taken []api.Send, packets int) {
		if packets == 0 {
			return
		}
		for step := range int64(3) {
			for size := range int64(5) {
				next := b.Copy()
				goOn(next, keepsTogether(t, next, taken, b.Now()+step, size), packets-1)
			}
		}
	}
	for _, s := range []api.Spec{
		{Peak: 2, Rate: 1, Burst: 4, Most: 3, Least: 1},
		{Peak: 3, Rate: 3, Burst: 5, Most: 4, Least: 2},
		{Peak: 3, Rate: 2, Burst: 3, Most: 3, Least: 1},
	} {
		goOn(bucketOf(t, s), nil, 4)
	}
}

func TestLivesAtRandomKeepToTheSpec(t *testing.T) {
	r := source(3)
	for range 2000 {
		b := bucketOf(t, anySpec(r))
		s := b.Spec()
		var taken []api.Send
		for range 40 {
			if now := b.Now() + anyStep(r, s); now <= api.MaxTicks {
				taken = keepsTogether(t, b, taken, now, anySize(r, s))
			}
		}
	}
}

func TestLivesAtRandom(t *testing.T) {
	r := source(4)
	for n := range 400 {
		b := newBoth(t, anySpec(r))
		s := b.p.spec
		for range 30 {
			now := b.p.now + anyStep(r, s)
			switch r.IntN(8) {
			case 0:
				b.take(b.p.now-1-r.Int64N(3), anySize(r, s))
			case 1:
				b.has(now)
			case 2:
				b.when(now, anySize(r, s))
			default:
				b.take(now, anySize(r, s))
			}
			if n%10 == 0 {
				b.holds()
			}
		}
		b.holds()
	}
}

// A life that goes on at the edge: each packet is sent as soon as it may be.
func TestALongLifeAtTheEdge(t *testing.T) {
	for _, s := range specs() {
		b := bucketOf(t, s)
		var taken []api.Send
		for n := range int64(300) {
			size := s.Least + n*n%(s.Most-s.Least+1)
			when, e := b.When(b.Now(), size)
			if e != api.OK {
				t.Fatal(e)
			}
			if when > b.Now() {
				keepsTogether(t, b, taken, when-1, size)
			}
			was := len(taken)
			if taken = keepsTogether(t, b, taken, when, size); len(taken) != was+1 {
				t.Fatalf("%v: %d was not taken at %d", s, size, when)
			}
		}
	}
}
