package bound_test

import (
	"math"
	"math/big"
	"math/rand/v2"
	"slices"
	"testing"

	"postroad/api"
	"postroad/bound"
	"postroad/curve"
	"postroad/minplus"
	"postroad/rat"
	"postroad/tspec"
)

// The tests hold each answer against math/big, which has no bound, and against
// a search that looks at one rate after the other.

const (
	most      = math.MaxInt64
	least     = math.MinInt64
	mostC     = 10000000
	mostD     = 1000000
	mostFar   = 100000
	mostTicks = 1000000
	mostRoom  = 1000000000
)

func whole(n int64) api.Rat { return api.Rat{N: n, D: 1} }

func by(n, d int64) api.Rat { return api.Rat{N: n, D: d} }

func spec(peak, rate, burst, most, least int64) api.Spec {
	return api.Spec{Peak: peak, Rate: rate, Burst: burst, Most: most, Least: least}
}

func terms(c, d int64) api.Terms { return api.Terms{C: c, D: d} }

// example is the chapter's.
var example = spec(10, 2, 20, 8, 1)

// specs may be; many of them stand at an edge.
func specs() []api.Spec {
	return []api.Spec{
		example,
		spec(1, 1, 1, 1, 1),
		spec(2, 1, 2, 1, 1),
		spec(10, 10, 20, 8, 1), // Peak is Rate
		spec(10, 2, 8, 8, 8),   // Burst is Most
		spec(7, 7, 8, 8, 8),    // both
		spec(11, 10, 1000, 100, 1),
		spec(api.MaxRate, 1, api.MaxBurst, 1, 1),
		spec(api.MaxRate, 1, api.MaxBurst, api.MaxPacket, api.MaxPacket),
		spec(api.MaxRate, 1, api.MaxPacket, api.MaxPacket, 1),
		spec(api.MaxRate, api.MaxRate, api.MaxBurst, api.MaxPacket, 1),
		spec(api.MaxRate, api.MaxRate-1, api.MaxBurst, api.MaxPacket, 1),
		spec(api.MaxRate-1, 1, api.MaxBurst, api.MaxPacket, 1),
		spec(999983, 999979, 9999991, 1999, 3),
		spec(999983, 7, 9999991, 1999, 3),
	}
}

// noSpecs may not be, each for another reason.
func noSpecs() []api.Spec {
	return []api.Spec{
		{},
		spec(1, 2, 20, 8, 1),
		spec(10, 0, 20, 8, 1), spec(10, -1, 20, 8, 1), spec(0, 0, 20, 8, 1), spec(10, least, 20, 8, 1),
		spec(api.MaxRate+1, 2, 20, 8, 1), spec(most, most, 20, 8, 1), spec(most, 2, 20, 8, 1),
		spec(10, 2, 7, 8, 1), spec(10, 2, 0, 0, 0), spec(10, 2, -1, 8, 1), spec(10, 2, api.MaxBurst+1, 8, 1), spec(10, 2, most, 8, 1),
		spec(10, 2, 20, 0, 0), spec(10, 2, 20, -1, -1), spec(10, 2, 20, 8, 9), spec(10, 2, 20, 8, 0), spec(10, 2, 20, 8, -1),
		spec(10, 2, 20000, api.MaxPacket+1, 1), spec(10, 2, 20, least, least),
	}
}

// allTerms may be.
func allTerms() []api.Terms {
	return []api.Terms{
		terms(0, 0), terms(8, 3), terms(1, 0), terms(0, 1), terms(2, 1), terms(mostC, 0), terms(0, mostD), terms(mostC, mostD),
		terms(mostC-1, mostD-1), terms(9999973, 999983), terms(2000, 6),
	}
}

// noTerms may not be.
func noTerms() []api.Terms {
	return []api.Terms{
		terms(-1, 0), terms(0, -1), terms(-1, -1), terms(mostC+1, 0), terms(0, mostD+1), terms(mostC+1, mostD+1),
		terms(most, 0), terms(0, most), terms(least, 0), terms(0, least), terms(most, most), terms(least, least), terms(mostC, -1), terms(-1, mostD),
	}
}

// noRates are none, or below a spec's.
func noRates(s api.Spec) []int64 {
	return []int64{s.Rate - 1, 0, -1, -s.Rate, least, api.MaxRate + 1, most}
}

// ratesFor have a sense for a spec; some are at its edges.
func ratesFor(s api.Spec) []int64 {
	var out []int64
	for _, r := range []int64{s.Rate, s.Rate + 1, (s.Rate + s.Peak) / 2, s.Peak - 1, s.Peak, s.Peak + 1, 2 * s.Peak, 999983, api.MaxRate - 1, api.MaxRate} {
		if r >= s.Rate && r <= api.MaxRate {
			out = append(out, r)
		}
	}
	return out
}

// source is the same in each run.
func source() *rand.Rand { return rand.New(rand.NewPCG(5, 6)) }

// from tells a number within bounds, as often near to the low one as anywhere.
func from(r *rand.Rand, low, high int64) int64 {
	if r.IntN(2) == 0 {
		return low + r.Int64N(high-low+1)
	}
	return low + r.Int64N((high-low)>>r.IntN(24)+1)
}

func anySpec(r *rand.Rand) api.Spec {
	rate, m := from(r, 1, api.MaxRate), from(r, 1, api.MaxPacket)
	return spec(from(r, rate, api.MaxRate), rate, from(r, m, api.MaxBurst), m, from(r, 1, m))
}

func anyTerms(r *rand.Rand) api.Terms { return terms(from(r, 0, mostC), from(r, 0, mostD)) }

// smallSpec and smallTerms are such that all rates that matter can be looked at.
func smallSpec(r *rand.Rand) api.Spec {
	rate, m := 1+r.Int64N(20), 1+r.Int64N(20)
	return spec(rate+r.Int64N(20), rate, m+r.Int64N(60), m, 1)
}

func smallTerms(r *rand.Rand) api.Terms { return terms(r.Int64N(30), r.Int64N(6)) }

func number(n int64) *big.Rat { return new(big.Rat).SetInt64(n) }

func exact(x api.Rat) *big.Rat { return big.NewRat(x.N, x.D) }

// lateOf reckons the bound as the chapter's words have it.
func lateOf(s api.Spec, r int64, t api.Terms) *big.Rat {
	out := new(big.Rat).Add(number(s.Most), number(t.C))
	out.Quo(out, number(r))
	out.Add(out, number(t.D))
	if s.Peak > r && s.Peak > s.Rate {
		part := number(s.Burst - s.Most)
		part.Mul(part, number(s.Peak-r))
		part.Quo(part, number(r))
		part.Quo(part, number(s.Peak-s.Rate))
		out.Add(out, part)
	}
	return out
}

// up tells the least whole number that is not less.
func up(x *big.Rat) *big.Int {
	n := new(big.Int).Neg(x.Num())
	n.Div(n, x.Denom()) // it rounds down, as D is above 0
	return n.Neg(n)
}

// room reckons what must have room.
func room(s api.Spec, r int64, t api.Terms) (int64, api.Errno) {
	n := up(lateOf(s, r, t))
	n.Mul(n, big.NewInt(s.Rate))
	n.Add(n, big.NewInt(s.Burst))
	if n.Cmp(big.NewInt(mostRoom)) > 0 {
		return 0, api.ErrLong
	}
	return n.Int64(), api.OK
}

// isInTime tells whether the bound is at most so many ticks.
func isInTime(s api.Spec, r int64, t api.Terms, ticks int64) bool {
	return lateOf(s, r, t).Cmp(number(ticks)) <= 0
}

// same fails unless a call answered what it must.
func same[T comparable](t *testing.T, what string, given any, got T, e api.Errno, want T, wantE api.Errno) {
	t.Helper()
	if got != want || e != wantE {
		t.Fatalf("%s %v: %v, %v; must be %v, %v", what, given, got, e, want, wantE)
	}
}

// P5.1

func TestCheck(t *testing.T) {
	for _, x := range allTerms() {
		if e := bound.Check(x); e != api.OK {
			t.Errorf("Check %v: %v", x, e)
		}
	}
	for _, x := range noTerms() {
		if e := bound.Check(x); e != api.ErrArg {
			t.Errorf("Check %v: %v", x, e)
		}
	}
}

func TestLinkExamples(t *testing.T) {
	for _, c := range []struct {
		rate, most, far int64
		want            api.Terms
	}{
		{3, 8, 2, terms(8, 6)},
		{10, 20, 0, terms(20, 3)}, // by the rate it is whole
		{10, 19, 0, terms(19, 3)},
		{10, 21, 0, terms(21, 4)},
		{1, 1, 0, terms(1, 2)},
		{1, api.MaxPacket, mostFar, terms(api.MaxPacket, api.MaxPacket+1+mostFar)},
		{api.MaxRate, 1, 0, terms(1, 2)},
		{api.MaxRate, api.MaxPacket, mostFar, terms(api.MaxPacket, 2+mostFar)},
		{api.MaxPacket, api.MaxPacket, 1, terms(api.MaxPacket, 3)},
		{api.MaxPacket - 1, api.MaxPacket, 1, terms(api.MaxPacket, 4)},
	} {
		got, e := bound.Link(c.rate, c.most, c.far)
		same(t, "Link", []int64{c.rate, c.most, c.far}, got, e, c.want, api.OK)
	}
}

func TestLink(t *testing.T) {
	check := func(rate, most, far int64) {
		var sending int64 // the least number of ticks in which they go
		for sending = most / rate; sending*rate < most; sending++ {
		}
		got, e := bound.Link(rate, most, far)
		same(t, "Link", []int64{rate, most, far}, got, e, terms(most, sending+1+far), api.OK)
		if bound.Check(got) != api.OK {
			t.Fatalf("Link %v: %v may not be", []int64{rate, most, far}, got)
		}
	}
	for rate := int64(1); rate <= 45; rate++ {
		for most := int64(1); most <= 90; most++ {
			check(rate, most, rate%5)
		}
	}
	r := source()
	for range 20000 {
		check(from(r, 1, api.MaxRate), from(r, 1, api.MaxPacket), from(r, 0, mostFar))
	}
}

func TestLinkNeedsWhatMayBe(t *testing.T) {
	fine := [3]int64{3, 8, 2}
	bad := [3][]int64{
		{0, -1, -3, api.MaxRate + 1, most, least},
		{0, -1, -8, api.MaxPacket + 1, most, least},
		{-1, mostFar + 1, most, least},
	}
	for i, l := range bad {
		for _, x := range l {
			given := fine
			given[i] = x
			got, e := bound.Link(given[0], given[1], given[2])
			same(t, "Link", given, got, e, api.Terms{}, api.ErrArg)
		}
	}
}

func TestWayExamples(t *testing.T) {
	for _, c := range []struct {
		l    []api.Terms
		want api.Terms
		e    api.Errno
	}{
		{nil, terms(0, 0), api.OK},
		{[]api.Terms{}, terms(0, 0), api.OK},
		{[]api.Terms{terms(8, 3)}, terms(8, 3), api.OK},
		{[]api.Terms{terms(8, 3), terms(0, 0), terms(20, 4)}, terms(28, 7), api.OK},
		{[]api.Terms{terms(mostC, mostD)}, terms(mostC, mostD), api.OK},
		{[]api.Terms{terms(mostC, 0), terms(0, mostD)}, terms(mostC, mostD), api.OK},
		{[]api.Terms{terms(mostC-1, 0), terms(1, 0)}, terms(mostC, 0), api.OK},
		{[]api.Terms{terms(mostC, 0), terms(1, 0)}, api.Terms{}, api.ErrLong},
		{[]api.Terms{terms(0, mostD-1), terms(0, 1)}, terms(0, mostD), api.OK},
		{[]api.Terms{terms(0, 1), terms(0, mostD)}, api.Terms{}, api.ErrLong},
		{[]api.Terms{terms(mostC, mostD), terms(mostC, mostD)}, api.Terms{}, api.ErrLong},
		{[]api.Terms{terms(mostC+1, 0)}, api.Terms{}, api.ErrArg},
	} {
		got, e := bound.Way(c.l...)
		same(t, "Way", c.l, got, e, c.want, c.e)
	}
}

// What is handed in has room behind it, filled: it stays as it was.
func TestWay(t *testing.T) {
	r := source()
	var fine, long int
	for range 20000 {
		l := make([]api.Terms, r.IntN(9), 20)
		var c, d int64
		for i := range l {
			l[i] = anyTerms(r)
			c, d = c+l[i].C, d+l[i].D
		}
		want, wantE := terms(c, d), api.OK
		if c > mostC || d > mostD {
			want, wantE = api.Terms{}, api.ErrLong
			long++
		} else {
			fine++
		}
		l[:len(l)+1][len(l)] = terms(-7, -7)
		given := slices.Clone(l[:len(l)+1])
		got, e := bound.Way(l...)
		same(t, "Way", l, got, e, want, wantE)
		if !slices.Equal(given, l[:len(l)+1]) {
			t.Fatalf("Way changed %v to %v", given, l[:len(l)+1])
		}
	}
	if fine < 1000 || long < 1000 {
		t.Errorf("seen: %d fine, %d too long", fine, long)
	}
}

// Each of them has all that there may be: no sum of many wraps round to a small one.
func TestWayOfMany(t *testing.T) {
	got, e := bound.Way(slices.Repeat([]api.Terms{terms(10, 1)}, mostD)...)
	same(t, "Way", "many", got, e, terms(mostC, mostD), api.OK)
	l := slices.Repeat([]api.Terms{terms(mostC, mostD)}, 1000000)
	got, e = bound.Way(l...)
	same(t, "Way", "many", got, e, api.Terms{}, api.ErrLong)
	l[999999] = terms(0, -1)
	got, e = bound.Way(l...)
	same(t, "Way", "many", got, e, api.Terms{}, api.ErrArg)
}

// What may not be is ErrArg at each place, also where the sum is too long, and
// where another one would bring it back.
func TestWayNeedsTerms(t *testing.T) {
	fine, long := terms(8, 3), terms(mostC, mostD)
	for _, bad := range noTerms() {
		for _, l := range [][]api.Terms{{bad}, {bad, bad}, {bad, fine}, {fine, bad}, {fine, bad, fine},
			{bad, long, long}, {long, bad, long}, {long, long, bad}} {
			got, e := bound.Way(l...)
			same(t, "Way", l, got, e, api.Terms{}, api.ErrArg)
		}
	}
}

// P5.2

func TestExamples(t *testing.T) {
	x, e := bound.Bound(example, 4, terms(8, 3))
	same(t, "Bound", 4, x, e, by(37, 4), api.OK)
	x, e = bound.Bound(example, 10, terms(8, 3))
	same(t, "Bound", 10, x, e, by(23, 5), api.OK)
	n, e := bound.Ticks(example, 4, terms(8, 3))
	same(t, "Ticks", 4, n, e, 10, api.OK)
	n, e = bound.Room(example, 4, terms(8, 3))
	same(t, "Room", 4, n, e, 40, api.OK)
	n, e = bound.Rate(example, terms(8, 3), 10)
	same(t, "Rate", 10, n, e, 4, api.OK)
	n, e = bound.Rate(example, terms(8, 3), 2)
	same(t, "Rate", 2, n, e, 0, api.ErrNever)
}

// The whole's examples 1 and 2: a link of 10 bytes a tick, whose longest packet
// has 20 bytes.
func TestExamplesOfTheWhole(t *testing.T) {
	way, e := bound.Link(10, 20, 0)
	same(t, "Link", 10, way, e, terms(20, 3), api.OK)
	n, e := bound.Ticks(example, 2, way)
	same(t, "Ticks", 2, n, e, 23, api.OK)
	n, e = bound.Rate(example, way, 40)
	same(t, "Rate", 40, n, e, 2, api.OK)
}

func TestBoundExamples(t *testing.T) {
	for _, c := range []struct {
		s     api.Spec
		r     int64
		t     api.Terms
		bound api.Rat
		ticks int64
	}{
		{example, 2, terms(0, 0), whole(10), 10}, // 8/2, and 12 8 by 2 8
		{example, 3, terms(8, 3), by(71, 6), 12}, // 16/3, 3, and 12 7 by 3 8
		{example, 9, terms(0, 0), by(19, 18), 2}, // 8/9, and 12 1 by 9 8
		{example, 10, terms(0, 0), by(4, 5), 1},  // Peak is not more than R
		{example, 11, terms(0, 0), by(8, 11), 1},
		{example, 16, terms(8, 3), whole(4), 4},
		{example, api.MaxRate, terms(0, 0), by(1, 125000), 1},
		{spec(10, 10, 20, 8, 1), 10, terms(0, 0), by(4, 5), 1}, // Peak is Rate
		{spec(10, 10, 20, 8, 1), 11, terms(0, 5), by(63, 11), 6},
		{spec(10, 2, 8, 8, 1), 4, terms(8, 3), whole(7), 7}, // Burst is Most
		{spec(1, 1, 1, 1, 1), 1, terms(0, 0), whole(1), 1},
		{spec(1, 1, 1, 1, 1), 1, terms(mostC, mostD), whole(mostC + mostD + 1), mostC + mostD + 1},
		{spec(api.MaxRate, 1, api.MaxBurst, 1, 1), 1, terms(mostC, mostD), whole(21000000), 21000000},
		{spec(api.MaxRate, 1, api.MaxBurst, api.MaxPacket, 1), api.MaxRate, terms(mostC, mostD), by(500005001, 500), 1000011},
	} {
		given := []any{c.s, c.r, c.t}
		x, e := bound.Bound(c.s, c.r, c.t)
		same(t, "Bound", given, x, e, c.bound, api.OK)
		n, e := bound.Ticks(c.s, c.r, c.t)
		same(t, "Ticks", given, n, e, c.ticks, api.OK)
	}
}

// holds holds Bound, Ticks and Room against what they must be.
func holds(t *testing.T, s api.Spec, r int64, x api.Terms) api.Errno {
	t.Helper()
	given := []any{s, r, x}
	want := lateOf(s, r, x)
	got, e := bound.Bound(s, r, x)
	same(t, "Bound", given, got, e, by(want.Num().Int64(), want.Denom().Int64()), api.OK)
	n, e := bound.Ticks(s, r, x)
	same(t, "Ticks", given, n, e, up(want).Int64(), api.OK)
	space, spaceE := room(s, r, x)
	n, e = bound.Room(s, r, x)
	same(t, "Room", given, n, e, space, spaceE)
	return e
}

func TestBoundTicksRoom(t *testing.T) {
	fine, long := 0, 0
	check := func(s api.Spec, r int64, x api.Terms) {
		if holds(t, s, r, x) == api.OK {
			fine++
		} else {
			long++
		}
	}
	for _, s := range specs() {
		for _, r := range ratesFor(s) {
			for _, x := range allTerms() {
				check(s, r, x)
			}
		}
	}
	r := source()
	for range 20000 {
		s := anySpec(r)
		check(s, from(r, s.Rate, api.MaxRate), anyTerms(r))
		s = smallSpec(r)
		check(s, s.Rate+r.Int64N(50), smallTerms(r))
	}
	if fine < 1000 || long < 1000 {
		t.Errorf("seen: %d fine, %d too long", fine, long)
	}
}

func TestRoomExamples(t *testing.T) {
	hundred := spec(100000, 100000, 9900000, 1, 1)
	for _, c := range []struct {
		s    api.Spec
		r    int64
		t    api.Terms
		want int64
		e    api.Errno
	}{
		{example, 4, terms(8, 3), 40, api.OK}, // 20 and 2 times 10, not 2 times 37/4
		{example, 10, terms(8, 3), 30, api.OK},
		{example, api.MaxRate, terms(0, 0), 22, api.OK},
		{hundred, 100000, terms(0, 9900), mostRoom, api.OK}, // it is late by 9901 ticks
		{hundred, 100000, terms(0, 9901), 0, api.ErrLong},
		{spec(100000, 100000, 9900001, 1, 1), 100000, terms(0, 9900), 0, api.ErrLong}, // one more
		{spec(api.MaxRate, api.MaxRate, api.MaxBurst, 1, 1), api.MaxRate, terms(0, 989), mostRoom, api.OK},
		{spec(api.MaxRate, api.MaxRate, api.MaxBurst, 1, 1), api.MaxRate, terms(0, 990), 0, api.ErrLong},
		{spec(api.MaxRate, api.MaxRate, api.MaxBurst, 1, 1), api.MaxRate, terms(mostC, mostD), 0, api.ErrLong},
	} {
		got, e := bound.Room(c.s, c.r, c.t)
		same(t, "Room", []any{c.s, c.r, c.t}, got, e, c.want, c.e)
	}
}

// ErrArg is ahead of ErrLong.
func TestBoundNeedsWhatMayBe(t *testing.T) {
	refused := func(s api.Spec, r int64, x api.Terms) {
		t.Helper()
		given := []any{s, r, x}
		got, e := bound.Bound(s, r, x)
		same(t, "Bound", given, got, e, api.Rat{}, api.ErrArg)
		n, e := bound.Ticks(s, r, x)
		same(t, "Ticks", given, n, e, 0, api.ErrArg)
		n, e = bound.Room(s, r, x)
		same(t, "Room", given, n, e, 0, api.ErrArg)
	}
	for _, s := range noSpecs() {
		for _, r := range []int64{s.Rate, s.Peak, 1, 10, api.MaxRate, 0} {
			refused(s, r, terms(8, 3))
			refused(s, r, terms(mostC, mostD))
		}
	}
	for _, s := range specs() {
		for _, r := range noRates(s) {
			for _, x := range append(allTerms(), noTerms()...) {
				refused(s, r, x)
			}
		}
		for _, r := range ratesFor(s) {
			for _, x := range noTerms() {
				refused(s, r, x)
			}
		}
	}
}

func TestRateExamples(t *testing.T) {
	one := spec(1, 1, 1, 1, 1)
	top := spec(api.MaxRate, 1, 1, 1, 1)
	for _, c := range []struct {
		s     api.Spec
		t     api.Terms
		ticks int64
		want  int64
		e     api.Errno
	}{
		{example, terms(8, 3), 12, 3, api.OK}, // 71/6
		{example, terms(8, 3), 11, 4, api.OK},
		{example, terms(8, 3), 4, 16, api.OK}, // just so many: 16/16 and 3
		{example, terms(8, 3), 3, 0, api.ErrNever},
		{example, terms(8, 3), 0, 0, api.ErrNever},
		{example, terms(8, 3), 17, 2, api.OK}, // 8 and 3 and 6: just so many with the spec's Rate
		{example, terms(8, 3), 16, 3, api.OK},
		{example, terms(8, 3), 18, 2, api.OK}, // less would do, but is below the spec's
		{example, terms(8, 3), mostTicks, 2, api.OK},
		{one, terms(0, 0), 0, 0, api.ErrNever}, // there is ever a packet
		{one, terms(0, 0), 1, 1, api.OK},
		{one, terms(0, 1), 1, 0, api.ErrNever},
		{one, terms(999999, 0), 1, api.MaxRate, api.OK}, // with the greatest rate alone
		{one, terms(999998, 0), 1, api.MaxRate - 1, api.OK},
		{one, terms(1000000, 0), 1, 0, api.ErrNever},
		{one, terms(999999, mostD-1), mostTicks, api.MaxRate, api.OK},
		{one, terms(0, mostD), mostTicks, 0, api.ErrNever},
		{one, terms(mostC, 0), mostTicks, 11, api.OK},
		{top, terms(0, 0), 1, 1, api.OK},
		{top, terms(999999, 0), 1, api.MaxRate, api.OK},
		{spec(api.MaxRate, api.MaxRate, 1, 1, 1), terms(0, 0), 1, api.MaxRate, api.OK},
		{spec(api.MaxRate, api.MaxRate, 1, 1, 1), terms(0, 0), 0, 0, api.ErrNever},
		{spec(api.MaxRate, 1, api.MaxBurst, api.MaxPacket, 1), terms(0, 0), mostTicks, 10, api.OK},
	} {
		got, e := bound.Rate(c.s, c.t, c.ticks)
		same(t, "Rate", []any{c.s, c.t, c.ticks}, got, e, c.want, c.e)
	}
}

// TestRateOneByOne looks at one rate after the other. Where none up to high
// will do, none will: at high, what is not D is less than a tick.
func TestRateOneByOne(t *testing.T) {
	const high = 200
	r := source()
	fine, never := 0, 0
	for range 4000 {
		s, x, ticks := smallSpec(r), smallTerms(r), r.Int64N(30)
		want, wantE := s.Rate, api.OK
		for want <= high && !isInTime(s, want, x, ticks) {
			want++
		}
		if want > high {
			want, wantE = 0, api.ErrNever
			never++
		} else {
			fine++
		}
		got, e := bound.Rate(s, x, ticks)
		same(t, "Rate", []any{s, x, ticks}, got, e, want, wantE)
	}
	if fine < 1000 || never < 100 {
		t.Errorf("seen: %d fine, %d never", fine, never)
	}
}

// isLeastRate holds Rate against what is said of it.
func isLeastRate(t *testing.T, s api.Spec, x api.Terms, ticks int64) api.Errno {
	t.Helper()
	r, e := bound.Rate(s, x, ticks)
	if !isInTime(s, api.MaxRate, x, ticks) {
		same(t, "Rate", []any{s, x, ticks}, r, e, 0, api.ErrNever)
		return e
	}
	if e != api.OK || r < s.Rate || r > api.MaxRate || !isInTime(s, r, x, ticks) {
		t.Fatalf("Rate %v %v %v: %v, %v does not do", s, x, ticks, r, e)
	}
	if r > s.Rate && isInTime(s, r-1, x, ticks) {
		t.Fatalf("Rate %v %v %v: less than %v does", s, x, ticks, r)
	}
	return e
}

func TestRate(t *testing.T) {
	fine, never := 0, 0
	check := func(s api.Spec, x api.Terms, ticks int64) {
		if isLeastRate(t, s, x, ticks) == api.OK {
			fine++
		} else {
			never++
		}
	}
	for _, s := range specs() {
		for _, x := range allTerms() {
			for _, n := range []int64{0, 1, 2, 3, 10, 100, 12345, mostTicks - 1, mostTicks} {
				check(s, x, n)
			}
			for _, r := range ratesFor(s) { // at the bound of each, and beside it
				n := up(lateOf(s, r, x)).Int64()
				for _, ticks := range []int64{n - 1, n, n + 1} {
					if ticks >= 0 && ticks <= mostTicks {
						check(s, x, ticks)
					}
				}
			}
		}
	}
	r := source()
	for range 5000 {
		check(anySpec(r), anyTerms(r), from(r, 0, mostTicks))
		x := anyTerms(r)
		check(anySpec(r), x, min(x.D+1+r.Int64N(30), mostTicks))
	}
	if fine < 1000 || never < 1000 {
		t.Errorf("seen: %d fine, %d never", fine, never)
	}
}

// ErrArg is ahead of ErrNever.
func TestRateNeedsWhatMayBe(t *testing.T) {
	noTicks := []int64{-1, mostTicks + 1, api.MaxTicks, most, least}
	refused := func(s api.Spec, x api.Terms, ticks int64) {
		t.Helper()
		got, e := bound.Rate(s, x, ticks)
		same(t, "Rate", []any{s, x, ticks}, got, e, 0, api.ErrArg)
	}
	for _, n := range append(noTicks, 0, 40, mostTicks) {
		for _, s := range noSpecs() {
			for _, x := range append(allTerms(), noTerms()...) {
				refused(s, x, n)
			}
		}
		for _, s := range specs() {
			for _, x := range noTerms() {
				refused(s, x, n)
			}
		}
	}
	for _, n := range noTicks {
		for _, s := range specs() {
			for _, x := range allTerms() {
				refused(s, x, n)
			}
		}
	}
}

// Whatever is handed in: each call ends, and beside an error there is nothing.
func TestAnyNumbersAtAll(t *testing.T) {
	r := source()
	edges := []int64{0, 1, -1, 2, 8, 10, 20, 100, mostFar, mostFar + 1, api.MaxPacket, api.MaxPacket + 1, api.MaxRate, api.MaxRate + 1,
		mostC, mostC + 1, mostRoom, api.MaxTicks, most, -most, least, least + 1}
	one := func() int64 {
		if r.IntN(9) == 0 {
			return int64(r.Uint64())
		}
		return edges[r.IntN(len(edges))]
	}
	isNothing := func(what string, e api.Errno, isZero, isRight bool, given ...any) {
		if e != api.OK && !isZero || e == api.OK && !isRight {
			t.Fatalf("%s %v: %v", what, given, e)
		}
	}
	for range 100000 {
		s, x, y, n := spec(one(), one(), one(), one(), one()), terms(one(), one()), terms(one(), one()), one()
		if r.IntN(2) == 0 {
			s = anySpec(r)
		}
		isRight := tspec.Check(s) == api.OK && bound.Check(x) == api.OK
		link, e := bound.Link(x.C, x.D, n)
		isNothing("Link", e, link == api.Terms{}, bound.Check(link) == api.OK, x, n)
		way, e := bound.Way(x, y)
		isNothing("Way", e, way == api.Terms{}, bound.Check(way) == api.OK, x, y)
		late, e := bound.Bound(s, n, x)
		isNothing("Bound", e, late == api.Rat{}, isRight && rat.Check(late) == api.OK && late.N > 0, s, n, x)
		ticks, e := bound.Ticks(s, n, x)
		isNothing("Ticks", e, ticks == 0, isRight && ticks > 0, s, n, x)
		space, e := bound.Room(s, n, x)
		isNothing("Room", e, space == 0, isRight && space > s.Burst && space <= mostRoom, s, n, x)
		rate, e := bound.Rate(s, x, n)
		isNothing("Rate", e, rate == 0, isRight && rate >= s.Rate && rate <= api.MaxRate, s, x, n)
	}
}

// P5.3: what follows is asked of the program's own answers.

// fine tells an answer that must be there.
func fine[T any](t *testing.T, x T, e api.Errno) T {
	t.Helper()
	if e != api.OK {
		t.Fatalf("there must be an answer, not %v", e)
	}
	return x
}

func boundOf(t *testing.T, s api.Spec, r int64, x api.Terms) api.Rat {
	t.Helper()
	late, e := bound.Bound(s, r, x)
	return fine(t, late, e)
}

// delayOf tells how late it is behind a service of that rate.
func delayOf(t *testing.T, s api.Spec, r int64, x api.Terms) api.Rat {
	t.Helper()
	c, e := curve.Of(s)
	fine(t, c, e)
	through, e := rat.Make(x.C, r)
	fine(t, through, e)
	late, e := rat.Add(through, whole(x.D))
	fine(t, late, e)
	delay, e := minplus.Delay(c, api.Service{Rate: whole(r), Late: late})
	return fine(t, delay, e)
}

func TestBoundIsDelay(t *testing.T) {
	check := func(s api.Spec, r int64, x api.Terms) {
		if got, want := boundOf(t, s, r, x), delayOf(t, s, r, x); got != want {
			t.Fatalf("Bound %v %v %v: %v, but Delay is %v", s, r, x, got, want)
		}
	}
	for _, s := range specs() {
		for _, r := range ratesFor(s) {
			for _, x := range allTerms() {
				check(s, r, x)
			}
		}
	}
	r := source()
	for range 10000 {
		s := anySpec(r)
		check(s, from(r, s.Rate, api.MaxRate), anyTerms(r))
		s = smallSpec(r)
		check(s, s.Rate+r.Int64N(50), smallTerms(r))
	}
}

func TestBoundFallsWhereTheRateRises(t *testing.T) {
	check := func(s api.Spec, low, high int64, x api.Terms) {
		a, b := boundOf(t, s, low, x), boundOf(t, s, high, x)
		if exact(b).Cmp(exact(a)) >= 0 {
			t.Fatalf("Bound %v %v: %v at %v, %v at %v", s, x, a, low, b, high)
		}
	}
	for _, s := range specs() {
		for _, x := range allTerms() {
			l := slices.Compact(slices.Sorted(slices.Values(ratesFor(s))))
			for i := range l[1:] {
				check(s, l[i], l[i+1], x)
			}
		}
	}
	r := source()
	for range 10000 {
		s, x := anySpec(r), anyTerms(r)
		if s.Rate < api.MaxRate {
			low := from(r, s.Rate, api.MaxRate-1)
			check(s, low, low+1, x)
			check(s, low, from(r, low+1, api.MaxRate), x)
		}
	}
}

func TestRateBringsItAbout(t *testing.T) {
	r := source()
	found, spare := 0, 0
	for range 10000 {
		s, x, ticks := anySpec(r), anyTerms(r), from(r, 0, mostTicks)
		if r.IntN(2) == 0 {
			s, x, ticks = smallSpec(r), smallTerms(r), r.Int64N(40)
		}
		rate, e := bound.Rate(s, x, ticks)
		if e == api.ErrNever {
			if n, e := bound.Ticks(s, api.MaxRate, x); fine(t, n, e) <= ticks {
				t.Fatalf("Rate %v %v %v: never, but the greatest rate does", s, x, ticks)
			}
			continue
		}
		fine(t, rate, e)
		if exact(boundOf(t, s, rate, x)).Cmp(number(ticks)) > 0 {
			t.Fatalf("Rate %v %v %v: %v does not bring it about", s, x, ticks, rate)
		}
		found++
		less, e := bound.Bound(s, rate-1, x)
		if rate == s.Rate {
			same(t, "Bound below the spec's Rate", s, less, e, api.Rat{}, api.ErrArg)
			continue
		}
		if exact(fine(t, less, e)).Cmp(number(ticks)) <= 0 {
			t.Fatalf("Rate %v %v %v: %v, but one less does", s, x, ticks, rate)
		}
		spare++
	}
	if found < 1000 || spare < 500 {
		t.Errorf("seen: %d found, %d of them above the spec's", found, spare)
	}
}
