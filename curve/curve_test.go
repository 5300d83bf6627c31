package curve_test

import (
	"math"
	"math/bits"
	"math/rand/v2"
	"slices"
	"testing"

	"postroad/api"
	"postroad/curve"
)

const (
	most     = 1000000000
	maxLines = 32
)

// lines tells a list of lines, of the Burst and the Rate of each.
func lines(n ...int64) api.Curve {
	var l api.Curve
	for i := 0; i < len(n); i += 2 {
		l = append(l, api.Line{Burst: n[i], Rate: n[i+1]})
	}
	return l
}

// bent tells a curve of n lines that bends at the ticks 1, 2, 3 and so on.
func bent(n int64) api.Curve {
	var c api.Curve
	for i := range n {
		c = append(c, api.Line{Burst: i * (i + 1) / 2, Rate: n - 1 - i})
	}
	return c
}

// curves may be; many of them stand at an edge.
func curves() []api.Curve {
	return []api.Curve{
		lines(0, 5, 4, 3, 10, 1),
		lines(0, 5, 10, 1),
		lines(0, 0),
		lines(most, most),
		lines(0, most),
		lines(most, 0),
		lines(0, 1, 1, 0),
		lines(0, most, most, 0),
		lines(most-1, 1, most, 0),
		lines(0, most, 1, most-1),
		lines(0, most, most-2, 1, most, 0),
		lines(0, most, 1, most-1, most, 1),
		lines(8, 10, 20, 2),
		lines(7, 10, 8, 9, 10, 8),
		bent(2), bent(31), bent(maxLines),
	}
}

// nones may not be.
func nones() []api.Curve {
	out := []api.Curve{
		nil,
		{},
		lines(0, 5, 0, 5),         // one of them twice
		lines(0, 5, 10, 1, 10, 1), // the last one twice
		lines(10, 1, 0, 5),        // the Bursts fall
		lines(0, 5, 10, 1, 4, 3),
		lines(0, 1, 0, 5), // the same Burst
		lines(0, 5, 0, 1),
		lines(0, 1, 10, 1), // the same Rate
		lines(0, 5, 4, 3, 10, 3),
		lines(0, 1, 10, 5), // the Rates rise
		lines(0, 5, 9, 3, 10, 1),
		lines(0, 3, 1, 2, 2, 1),            // all three meet
		lines(0, most, most-1, 1, most, 0), // likewise, as far up as may be
		lines(0, most, 1, most-1, most, 0),
		lines(0, most, most/4, most/2, most/2, 0), // likewise, at half a tick
		lines(0, 5, 4, 3, 10, 1, 17, 0, 18, 0),    // the last two
		bent(maxLines + 1),
		bent(1000),
	}
	for _, n := range []int64{-1, math.MinInt64, most + 1, math.MaxInt64} {
		out = append(out, lines(n, 1), lines(1, n), lines(n, n), lines(0, 5, n, 1), lines(0, 5, 10, n), lines(n, 5, 10, 1), lines(0, n, 10, 1))
	}
	return out
}

// ticksOut are no ticks.
func ticksOut() []int64 { return []int64{-1, math.MinInt64, api.MaxTicks + 1, math.MaxInt64} }

// spot is a number of ticks, n by d.
type spot struct{ n, d int64 }

// meet tells where two lines of different Rates meet, also ahead of 0.
func meet(x, y api.Line) spot {
	if x.Rate < y.Rate {
		x, y = y, x
	}
	return spot{y.Burst - x.Burst, x.Rate - y.Rate}
}

func (p spot) isAhead(q spot) bool {
	if (p.n < 0) != (q.n < 0) {
		return p.n < 0
	}
	pHigh, pLow := bits.Mul64(uint64(max(p.n, -p.n)), uint64(q.d))
	qHigh, qLow := bits.Mul64(uint64(max(q.n, -q.n)), uint64(p.d))
	if pHigh == qHigh && pLow == qLow {
		return false
	}
	return (pHigh < qHigh || pHigh == qHigh && pLow < qLow) != (p.n < 0)
}

// highAt tells how high the least of these lines is at a spot, times its d.
func highAt(l []api.Line, at spot) int64 {
	least := int64(math.MaxInt64)
	for _, x := range l {
		least = min(least, x.Burst*at.d+x.Rate*at.n)
	}
	return least
}

// isOnlyLeast tells whether a line is below all others somewhere, by how far
// each of them leaves room for it.
func isOnlyLeast(x api.Line, others []api.Line) bool {
	from, to := spot{-1, 1}, spot{1, 0} // from where any is, to where none is
	for _, y := range others {
		switch {
		case y.Rate > x.Rate && from.isAhead(meet(x, y)):
			from = meet(x, y)
		case y.Rate < x.Rate && meet(x, y).isAhead(to):
			to = meet(x, y)
		case y.Rate == x.Rate && y.Burst <= x.Burst:
			return false
		}
	}
	return to.n > 0 && from.isAhead(to)
}

// itsLines tells the lines of the least of these, as the chapter's words say.
func itsLines(l []api.Line) api.Curve {
	var c api.Curve
	for i, x := range l {
		if slices.Index(l, x) < i {
			continue // the same one again
		}
		others := slices.DeleteFunc(slices.Clone(l), func(y api.Line) bool { return y == x })
		if isOnlyLeast(x, others) {
			c = append(c, x)
		}
	}
	slices.SortFunc(c, func(a, b api.Line) int { return int(a.Burst - b.Burst) })
	return c
}

// told tells what must be answered of these lines.
func told(l []api.Line) (api.Curve, api.Errno) {
	c := itsLines(l)
	for _, x := range c {
		if x.Burst > most || x.Rate > most {
			return nil, api.ErrLong
		}
	}
	if len(c) > maxLines {
		return nil, api.ErrLong
	}
	return c, api.OK
}

// spots tells where these begin, and where one of them bends.
func spots(l ...api.Curve) []spot {
	all := []spot{{0, 1}}
	for _, c := range l {
		for i := range len(c) - 1 {
			all = append(all, meet(c[i], c[i+1]))
		}
	}
	return all
}

// behind tells the line that is least just behind a spot: of two that meet
// there the flatter one.
func behind(c api.Curve, at spot) api.Line {
	high := highAt(c, at)
	best := c[0]
	for _, x := range c {
		if highAt(api.Curve{x}, at) == high {
			best = x
		}
	}
	return best
}

// sumsOf tells the lines of all together, behind each spot.
func sumsOf(l []api.Curve) []api.Line {
	var all []api.Line
	for _, at := range spots(l...) {
		var sum api.Line
		for _, c := range l {
			x := behind(c, at)
			sum = api.Line{Burst: sum.Burst + x.Burst, Rate: sum.Rate + x.Rate}
		}
		all = append(all, sum)
	}
	return all
}

// laterBy tells the lines as high as these are so many ticks later.
func laterBy(c api.Curve, ticks int64) []api.Line {
	var l []api.Line
	for _, x := range c {
		l = append(l, api.Line{Burst: x.Burst + x.Rate*ticks, Rate: x.Rate})
	}
	return l
}

func source() *rand.Rand { return rand.New(rand.NewPCG(5, 6)) }

// anyLine tells a line of small numbers, or of any.
func anyLine(r *rand.Rand) api.Line {
	switch r.IntN(8) {
	case 0:
		return api.Line{Burst: r.Int64N(most + 1), Rate: r.Int64N(most + 1)}
	case 1:
		return api.Line{Burst: most - r.Int64N(4), Rate: r.Int64N(4)}
	case 2:
		return api.Line{Burst: r.Int64N(4), Rate: most - r.Int64N(4)}
	}
	return api.Line{Burst: r.Int64N(30), Rate: r.Int64N(9)}
}

func anyLines(r *rand.Rand, n int) []api.Line {
	var l []api.Line
	for range 1 + r.IntN(n) {
		l = append(l, anyLine(r))
	}
	return l
}

func anyCurve(r *rand.Rand) api.Curve {
	if r.IntN(3) == 0 {
		all := curves()
		return all[r.IntN(len(all))]
	}
	return itsLines(anyLines(r, 9))
}

func anyCurves(r *rand.Rand, n int) []api.Curve {
	var l []api.Curve
	for range 1 + r.IntN(n) {
		l = append(l, anyCurve(r))
	}
	return l
}

// isThat fails unless just that was answered.
func isThat(t *testing.T, what string, of any, c api.Curve, e api.Errno, want api.Curve, wantE api.Errno) {
	t.Helper()
	if !slices.Equal(c, want) || e != wantE || e != api.OK && c != nil {
		t.Fatalf("%s %v: %v, %v; must be %v, %v", what, of, c, e, want, wantE)
	}
}

// mustBe tells a curve that is answered without an error.
func mustBe(t *testing.T, c api.Curve, e api.Errno) api.Curve {
	t.Helper()
	if e != api.OK || curve.Check(c) != api.OK {
		t.Fatalf("no curve: %v, %v", c, e)
	}
	return c
}

// wide hands a curve in with room behind it, in which there is something.
func wide(c api.Curve) api.Curve {
	return append(slices.Clone(c), api.Line{Burst: -7, Rate: -7})[:len(c)]
}

// isUntouched fails unless what wide handed in is as it was, room behind it too.
func isUntouched(t *testing.T, given, was api.Curve) {
	t.Helper()
	if !slices.Equal(given, was) || given[:len(was)+1][len(was)] != (api.Line{Burst: -7, Rate: -7}) {
		t.Fatalf("what was handed in is changed: %v; was %v", given[:len(was)+1], was)
	}
}

// P3.1

func makes(t *testing.T, l []api.Line) {
	t.Helper()
	given := wide(l)
	c, e := curve.Make(given...)
	want, wantE := told(l)
	isThat(t, "Make", l, c, e, want, wantE)
	isUntouched(t, given, l)
	for i := range c {
		c[i] = api.Line{Burst: -9}
	}
	isUntouched(t, given, l)
}

func TestMakeExamples(t *testing.T) {
	for _, c := range []struct{ l, want api.Curve }{
		{lines(0, 5, 10, 1, 2, 5, 4, 3), lines(0, 5, 4, 3, 10, 1)},
		{lines(0, 5, 10, 1, 9, 3), lines(0, 5, 10, 1)},
		{lines(3, 4), lines(3, 4)},
		{lines(3, 4, 3, 4, 3, 4), lines(3, 4)},
		{lines(3, 4, 3, 2), lines(3, 2)},
		{lines(3, 2, 3, 4), lines(3, 2)},
		{lines(3, 4, 2, 4), lines(2, 4)},
		{lines(0, 5, 7, 5, 0, 6, 7, 1), lines(0, 5, 7, 1)},
		{lines(2, 1, 1, 2, 0, 3), lines(0, 3, 2, 1)},                                 // three meet at 1
		{lines(3, 1, 1, 2, 0, 3), lines(0, 3, 1, 2, 3, 1)},                           // the middle one, between 1 and 2
		{lines(0, 5, 5, 1, 3, 3), lines(0, 5, 5, 1)},                                 // both others meet below it
		{lines(0, 5, 6, 1, 3, 3), lines(0, 5, 6, 1)},                                 // at 3/2, just on it
		{lines(0, 5, 7, 1, 3, 3), lines(0, 5, 3, 3, 7, 1)},                           // above it
		{lines(0, 10, 8, 9, 16, 8, 17, 1), lines(0, 10, 17, 1)},                      // two go for one
		{lines(0, most, most-1, 1, most, 0), lines(0, most, most, 0)},                // three meet
		{lines(0, most, most-2, 1, most, 0), lines(0, most, most-2, 1, most, 0)},     // and not
		{lines(0, 0, most, most, 0, most, most, 0, 5, 5), lines(0, 0)},               // nought is below all
		{lines(most, most, most, most), lines(most, most)},                           // as high as may be
		{lines(0, 3, 1, 2, 2, 1, 3, 0, 4, 0, 0, 4, 1, 3), lines(0, 3, 3, 0)},         // all meet at 1
		{lines(1, most-1, 0, most, 2, most-2), lines(0, most, 2, most-2)},            // likewise, steep
		{lines(1, most-1, 0, most, 3, most-2), lines(0, most, 1, most-1, 3, most-2)}, // and not
		{lines(6, 1, 0, 4, 10, 0, 1, 3, 3, 2), lines(0, 4, 1, 3, 3, 2, 6, 1, 10, 0)}, // any order
	} {
		got, e := curve.Make(c.l...)
		isThat(t, "Make", c.l, got, e, c.want, api.OK)
		makes(t, c.l)
	}
}

func TestMakeAnyLines(t *testing.T) {
	r := source()
	for range 20000 {
		makes(t, anyLines(r, 12))
	}
	for range 200 {
		makes(t, anyLines(r, 90))
	}
	for _, c := range curves() {
		makes(t, c)
	}
}

// All small lists of lines.
func TestMakeSmallLines(t *testing.T) {
	var l []api.Line
	for i := range int64(12) {
		l = append(l, api.Line{Burst: i / 3, Rate: i % 3})
	}
	for _, a := range l {
		makes(t, []api.Line{a})
		for _, b := range l {
			makes(t, []api.Line{a, b})
			for _, c := range l {
				makes(t, []api.Line{a, b, c})
			}
		}
	}
}

func TestMakeNeedsLines(t *testing.T) {
	for _, l := range [][]api.Line{nil, {}} {
		c, e := curve.Make(l...)
		isThat(t, "Make", l, c, e, nil, api.ErrArg)
	}
	for _, n := range []int64{-1, math.MinInt64, most + 1, math.MaxInt64} {
		for _, bad := range []api.Line{{Burst: n}, {Rate: n}, {Burst: n, Rate: n}, {Burst: n, Rate: 1}, {Burst: 1, Rate: n}} {
			for _, l := range [][]api.Line{{bad}, {bad, {Rate: 1}}, {{Rate: 1}, bad}, {{}, bad}, append(bent(99), bad)} {
				c, e := curve.Make(l...)
				isThat(t, "Make", l, c, e, nil, api.ErrArg)
			}
		}
	}
}

// What counts is how many lines come of it, not how many are handed in.
func TestMakeManyLines(t *testing.T) {
	c, e := curve.Make(bent(maxLines)...)
	isThat(t, "Make", maxLines, c, e, bent(maxLines), api.OK)
	c, e = curve.Make(bent(maxLines + 1)...)
	isThat(t, "Make", maxLines+1, c, e, nil, api.ErrLong)
	c, e = curve.Make(slices.Repeat(bent(maxLines), 1000)...)
	isThat(t, "Make", "many times the same", c, e, bent(maxLines), api.OK)
	c, e = curve.Make(bent(40000)...)
	isThat(t, "Make", "many", c, e, nil, api.ErrLong)
	c, e = curve.Make(append(bent(40000), api.Line{})...)
	isThat(t, "Make", "many, all above the last one", c, e, lines(0, 0), api.OK)
	back := bent(40000)
	slices.Reverse(back)
	c, e = curve.Make(append(back, lines(9, 0, 0, 5, 1, 3)...)...)
	isThat(t, "Make", "many, from behind", c, e, lines(0, 5, 1, 3, 9, 0), api.OK)
}

func TestCheck(t *testing.T) {
	for _, c := range curves() {
		given := wide(c)
		if e := curve.Check(given); e != api.OK {
			t.Errorf("Check %v: %v", c, e)
		}
		isUntouched(t, given, c)
	}
	for _, c := range nones() {
		if e := curve.Check(c); e != api.ErrArg {
			t.Errorf("Check %v: %v", c, e)
		}
	}
	r := source()
	for range 20000 {
		c := anyCurve(r)
		if r.IntN(2) == 0 {
			c = anyLines(r, 4)
			slices.SortFunc(c, func(a, b api.Line) int { return int(a.Burst - b.Burst) })
		}
		want := api.OK
		if !slices.Equal(itsLines(c), c) {
			want = api.ErrArg
		}
		if e := curve.Check(c); e != want {
			t.Fatalf("Check %v: %v; must be %v", c, e, want)
		}
	}
}

func TestOf(t *testing.T) {
	for _, c := range []struct {
		s    api.Spec
		want api.Curve
	}{
		{api.Spec{Peak: 10, Rate: 2, Burst: 20, Most: 8, Least: 1}, lines(8, 10, 20, 2)},
		{api.Spec{Peak: 10, Rate: 2, Burst: 8, Most: 8, Least: 1}, lines(8, 2)},
		{api.Spec{Peak: 2, Rate: 2, Burst: 20, Most: 8, Least: 8}, lines(8, 2)},
		{api.Spec{Peak: 2, Rate: 2, Burst: 8, Most: 8, Least: 1}, lines(8, 2)},
		{api.Spec{Peak: 3, Rate: 2, Burst: 9, Most: 8, Least: 1}, lines(8, 3, 9, 2)},
		{api.Spec{Peak: 1, Rate: 1, Burst: 1, Most: 1, Least: 1}, lines(1, 1)},
		{api.Spec{Peak: api.MaxRate, Rate: 1, Burst: api.MaxBurst, Most: api.MaxPacket, Least: 1}, lines(api.MaxPacket, api.MaxRate, api.MaxBurst, 1)},
		{api.Spec{Peak: api.MaxRate, Rate: api.MaxRate, Burst: api.MaxBurst, Most: 1, Least: 1}, lines(1, api.MaxRate)},
	} {
		got, e := curve.Of(c.s)
		isThat(t, "Of", c.s, got, e, c.want, api.OK)
	}
	good := api.Spec{Peak: 10, Rate: 2, Burst: 20, Most: 8, Least: 1}
	for _, n := range []int64{math.MinInt64, -1, 0, math.MaxInt64} {
		for _, s := range []api.Spec{
			{}, {Peak: n, Rate: 2, Burst: 20, Most: 8, Least: 1}, {Peak: 10, Rate: n, Burst: 20, Most: 8, Least: 1},
			{Peak: 10, Rate: 2, Burst: n, Most: 8, Least: 1}, {Peak: 10, Rate: 2, Burst: 20, Most: n, Least: 1}, {Peak: 10, Rate: 2, Burst: 20, Most: 8, Least: n},
			{Peak: 10, Rate: 11, Burst: 20, Most: 8, Least: 1}, {Peak: 10, Rate: 2, Burst: 7, Most: 8, Least: 1}, {Peak: 10, Rate: 2, Burst: 20, Most: 8, Least: 9},
			{Peak: api.MaxRate + 1, Rate: 2, Burst: 20, Most: 8, Least: 1}, {Peak: 10, Rate: 2, Burst: api.MaxBurst + 1, Most: 8, Least: 1},
			{Peak: 10, Rate: 2, Burst: 9000, Most: api.MaxPacket + 1, Least: 1},
		} {
			got, e := curve.Of(s)
			isThat(t, "Of", s, got, e, nil, api.ErrArg)
		}
	}
	a, _ := curve.Of(good)
	a[0] = api.Line{}
	b, e := curve.Of(good)
	isThat(t, "Of", good, b, e, lines(8, 10, 20, 2), api.OK)
}

// isHigh fails unless a curve is as high as its lines say.
func isHigh(t *testing.T, c api.Curve, ticks int64) {
	t.Helper()
	given := wide(c)
	if n, e := curve.At(given, ticks); n != highAt(c, spot{ticks, 1}) || e != api.OK {
		t.Fatalf("At %v %d: %d, %v; must be %d", c, ticks, n, e, highAt(c, spot{ticks, 1}))
	}
	isUntouched(t, given, c)
}

func TestAt(t *testing.T) {
	for ticks, want := range map[int64]int64{0: 0, 1: 5, 2: 10, 3: 13, 4: 14, 5: 15} {
		if n, e := curve.At(lines(0, 5, 4, 3, 10, 1), ticks); n != want || e != api.OK {
			t.Errorf("At %d: %d, %v", ticks, n, e)
		}
	}
	if n, e := curve.At(lines(most, most), api.MaxTicks); n != most+most*api.MaxTicks || e != api.OK {
		t.Errorf("as high as may be: %d, %v", n, e)
	}
	for _, c := range curves() {
		for _, ticks := range []int64{0, 1, 2, 3, 30, 31, 32, most - 1, most, most + 1, api.MaxTicks - 1, api.MaxTicks} {
			isHigh(t, c, ticks)
		}
		for _, ticks := range ticksOut() {
			if n, e := curve.At(c, ticks); n != 0 || e != api.ErrArg {
				t.Errorf("At %v %d: %d, %v", c, ticks, n, e)
			}
		}
	}
	for _, c := range nones() {
		for _, ticks := range []int64{-1, 0, 1, api.MaxTicks} {
			if n, e := curve.At(c, ticks); n != 0 || e != api.ErrArg {
				t.Errorf("At %v %d: %d, %v", c, ticks, n, e)
			}
		}
	}
}

// P3.2

// puts fails unless Min and Sum put these together as they must.
func puts(t *testing.T, l ...api.Curve) {
	t.Helper()
	var given []api.Curve
	for _, c := range l {
		given = append(given, wide(c))
	}
	lists := append(slices.Clone(given), lines(-7, -7))[:len(given)]
	leastWant, leastE := told(slices.Concat(l...))
	least, e := curve.Min(lists...)
	isThat(t, "Min", l, least, e, leastWant, leastE)
	sumWant, sumE := told(sumsOf(l))
	sum, e := curve.Sum(lists...)
	isThat(t, "Sum", l, sum, e, sumWant, sumE)
	for _, c := range []api.Curve{least, sum} {
		for i := range c {
			c[i] = api.Line{Burst: -9}
		}
	}
	for i, c := range l {
		isUntouched(t, given[i], c)
		isUntouched(t, lists[i], c)
	}
	if !slices.Equal(lists[:len(l)+1][len(l)], lines(-7, -7)) {
		t.Fatal("the list that was handed in is changed")
	}
}

func TestMinAndSumExamples(t *testing.T) {
	for _, c := range []struct {
		l          []api.Curve
		least, sum api.Curve
	}{
		{[]api.Curve{lines(0, 5, 10, 1)}, lines(0, 5, 10, 1), lines(0, 5, 10, 1)},
		{[]api.Curve{lines(0, 5, 10, 1), lines(4, 3)}, lines(0, 5, 4, 3, 10, 1), lines(4, 8, 14, 4)},
		{[]api.Curve{lines(0, 5, 10, 1), lines(9, 3)}, lines(0, 5, 10, 1), lines(9, 8, 19, 4)},
		{[]api.Curve{lines(0, 5, 10, 1), lines(0, 5, 10, 1)}, lines(0, 5, 10, 1), lines(0, 10, 20, 2)},
		{[]api.Curve{lines(0, 5, 5, 0), lines(0, 2, 2, 0), lines(0, 1, 1, 0)}, lines(0, 1, 1, 0), lines(0, 8, 8, 0)}, // all bend at 1
		{[]api.Curve{lines(0, 5, 5, 0), lines(0, 1, 3, 0)}, lines(0, 1, 3, 0), lines(0, 6, 5, 1, 8, 0)},              // one bends at 1, one at 3
		{[]api.Curve{lines(0, 1, 3, 0), lines(0, 5, 5, 0)}, lines(0, 1, 3, 0), lines(0, 6, 5, 1, 8, 0)},
		{[]api.Curve{lines(0, 5, 4, 3, 10, 1), lines(0, 2, 3, 0)}, lines(0, 2, 3, 0), lines(0, 7, 3, 5, 7, 3, 13, 1)}, // at 3/2, 2 and 3
		{[]api.Curve{lines(0, 0), lines(8, 10, 20, 2)}, lines(0, 0), lines(8, 10, 20, 2)},
	} {
		least, e := curve.Min(c.l...)
		isThat(t, "Min", c.l, least, e, c.least, api.OK)
		sum, e := curve.Sum(c.l...)
		isThat(t, "Sum", c.l, sum, e, c.sum, api.OK)
		puts(t, c.l...)
	}
}

func TestMinAndSumOfAny(t *testing.T) {
	for _, a := range curves() {
		puts(t, a)
		for _, b := range curves() {
			puts(t, a, b)
		}
	}
	r := source()
	for range 3000 {
		puts(t, anyCurves(r, 5)...)
	}
}

// apart tells every other line of a curve, and those between.
func apart(c api.Curve) (api.Curve, api.Curve) {
	var odd, even api.Curve
	for i, x := range c {
		if i%2 == 0 {
			even = append(even, x)
		} else {
			odd = append(odd, x)
		}
	}
	return even, odd
}

func TestMinAtItsBound(t *testing.T) {
	a, b := apart(bent(maxLines))
	c, e := curve.Min(a, b)
	isThat(t, "Min", "both halves", c, e, bent(maxLines), api.OK)
	a, b = apart(bent(maxLines + 1))
	c, e = curve.Min(a, b)
	isThat(t, "Min", "both halves", c, e, nil, api.ErrLong)
	c, e = curve.Min(a, b, lines(0, 4))
	isThat(t, "Min", "both halves, and one that is below most", c, e, lines(0, 4, 528, 0), api.OK)
}

func TestSumAtItsBounds(t *testing.T) {
	for _, c := range []struct {
		l    []api.Curve
		want api.Curve // nil: ErrLong
	}{
		{[]api.Curve{lines(most-1, 3), lines(1, 3)}, lines(most, 6)},
		{[]api.Curve{lines(most-1, 3), lines(2, 3)}, nil},
		{[]api.Curve{lines(3, most-1), lines(3, 1)}, lines(6, most)},
		{[]api.Curve{lines(3, most-1), lines(3, 2)}, nil},
		{[]api.Curve{lines(most, most), lines(most, most)}, nil},
		{[]api.Curve{lines(0, 1, most, 0), lines(0, 1)}, lines(0, 2, most, 1)},
		{[]api.Curve{lines(0, 1, most, 0), lines(0, 1, 1, 0)}, nil}, // just its last line's Burst
		{[]api.Curve{lines(0, most, 5, 0), lines(9, 0)}, lines(9, most, 14, 0)},
		{[]api.Curve{lines(0, most, 5, 0), lines(0, 1, 5, 0)}, nil}, // just its first line's Rate
		{[]api.Curve{lines(most, most), lines(0, 0), lines(1, 0)}, nil},
		{[]api.Curve{lines(1, 0), lines(0, 0), lines(most, most)}, nil},
	} {
		wantE := api.OK
		if c.want == nil {
			wantE = api.ErrLong
		}
		got, e := curve.Sum(c.l...)
		isThat(t, "Sum", c.l, got, e, c.want, wantE)
	}
}

// A curve that bends where the other one does adds no line, else one.
func TestSumOfAsManyLinesAsMayBe(t *testing.T) {
	for _, c := range []struct {
		a, b api.Curve
		want int // 0: ErrLong
	}{
		{bent(maxLines), lines(5, 6), maxLines},
		{bent(maxLines), bent(maxLines), maxLines},
		{bent(maxLines), lines(0, 1, maxLines-1, 0), maxLines},
		{bent(maxLines), lines(0, 1, maxLines, 0), 0},
		{bent(maxLines), lines(0, 2, 1, 0), 0},
		{bent(maxLines - 1), lines(0, 1, maxLines-1, 0), maxLines},
		{bent(maxLines - 1), lines(0, 2, 5, 0), maxLines},
		{bent(maxLines - 1), lines(0, 4, 1, 2, 6, 0), 0},
	} {
		for _, l := range [][]api.Curve{{c.a, c.b}, {c.b, c.a}} {
			got, e := curve.Sum(l...)
			if len(got) != c.want || (e == api.ErrLong) != (c.want == 0) {
				t.Errorf("Sum %v: %v, %v; must be of %d", l, got, e, c.want)
			}
			puts(t, l...)
		}
	}
}

func TestMinAndSumOfMany(t *testing.T) {
	c, e := curve.Sum(slices.Repeat([]api.Curve{bent(maxLines)}, 100000)...)
	var want api.Curve
	for _, x := range bent(maxLines) {
		want = append(want, api.Line{Burst: 100000 * x.Burst, Rate: 100000 * x.Rate})
	}
	isThat(t, "Sum", "many", c, e, want, api.OK)
	c, e = curve.Sum(slices.Repeat([]api.Curve{lines(most, most)}, 100000)...)
	isThat(t, "Sum", "many", c, e, nil, api.ErrLong)
	c, e = curve.Min(slices.Repeat([]api.Curve{bent(maxLines)}, 10000)...)
	isThat(t, "Min", "many", c, e, bent(maxLines), api.OK)
}

func TestMinAndSumNeedCurves(t *testing.T) {
	long := []api.Curve{lines(most, most), lines(most, most), bent(maxLines), lines(0, 2, 1, 0)}
	even, odd := apart(bent(maxLines + 1))
	lists := [][]api.Curve{nil, {}}
	for _, bad := range nones() {
		lists = append(lists, []api.Curve{bad}, []api.Curve{bad, lines(0, 5)}, []api.Curve{lines(0, 5), bad}, []api.Curve{lines(0, 0), bad, lines(0, 5)},
			append(slices.Clone(long), bad), append([]api.Curve{bad}, long...), []api.Curve{even, odd, bad}) // ahead of ErrLong
	}
	for _, l := range lists {
		c, e := curve.Min(l...)
		isThat(t, "Min", l, c, e, nil, api.ErrArg)
		c, e = curve.Sum(l...)
		isThat(t, "Sum", l, c, e, nil, api.ErrArg)
	}
}

// goesLater fails unless Later tells what it must.
func goesLater(t *testing.T, c api.Curve, ticks int64) {
	t.Helper()
	given := wide(c)
	got, e := curve.Later(given, ticks)
	want, wantE := told(laterBy(c, ticks))
	isThat(t, "Later", []any{c, ticks}, got, e, want, wantE)
	for i := range got {
		got[i] = api.Line{Burst: -9}
	}
	isUntouched(t, given, c)
}

func TestLater(t *testing.T) {
	three := lines(0, 5, 4, 3, 10, 1)
	for _, c := range []struct {
		c     api.Curve
		ticks int64
		want  api.Curve // nil: ErrLong
	}{
		{three, 0, three},
		{three, 1, lines(5, 5, 7, 3, 11, 1)},
		{three, 2, lines(10, 3, 12, 1)}, // the first one ends just there
		{three, 3, lines(13, 1)},        // the second one, too
		{three, 4, lines(14, 1)},
		{three, most - 10, lines(most, 1)},
		{three, most - 9, nil},
		{three, api.MaxTicks, nil},
		{lines(0, 0), api.MaxTicks, lines(0, 0)},
		{lines(most, 0), api.MaxTicks, lines(most, 0)},
		{lines(most, 1), 0, lines(most, 1)},
		{lines(most, 1), 1, nil},
		{lines(0, most), 1, lines(most, most)},
		{lines(0, most), 2, nil},
		{lines(most, most), api.MaxTicks, nil},
		{lines(0, most, 9, 0), 1, lines(9, 0)}, // it is over, as high as it may be
		{lines(0, most, 9, 0), api.MaxTicks, lines(9, 0)},
		{lines(0, most, 9, 1), 9, lines(18, 1)},
		{lines(0, most, most, 0), 1, lines(most, 0)},
		{lines(0, most, most, 1), 0, lines(0, most, most, 1)},
		{lines(0, most, most, 1), 1, nil}, // just the last one is above it
	} {
		wantE := api.OK
		if c.want == nil {
			wantE = api.ErrLong
		}
		got, e := curve.Later(c.c, c.ticks)
		isThat(t, "Later", c, got, e, c.want, wantE)
		goesLater(t, c.c, c.ticks)
	}
}

func TestLaterOfAny(t *testing.T) {
	for _, c := range curves() {
		for _, ticks := range []int64{0, 1, 2, 3, 15, 30, 31, 32, most - 1, most, most + 1, api.MaxTicks - 1, api.MaxTicks} {
			goesLater(t, c, ticks)
		}
	}
	r := source()
	for range 5000 {
		goesLater(t, anyCurve(r), r.Int64N(12))
	}
}

func TestLaterNeedsACurveAndTicks(t *testing.T) {
	for _, c := range curves() {
		for _, ticks := range ticksOut() {
			got, e := curve.Later(c, ticks)
			isThat(t, "Later", c, got, e, nil, api.ErrArg)
		}
	}
	for _, c := range nones() {
		for _, ticks := range []int64{-1, 0, 1, api.MaxTicks} {
			got, e := curve.Later(c, ticks)
			isThat(t, "Later", c, got, e, nil, api.ErrArg)
		}
	}
}

// isBelow tells whether one is nowhere above another: they are straight between
// the bends of both, and behind the last of these the Rates tell.
func isBelow(a, b api.Curve) bool {
	for _, at := range spots(a, b) {
		if highAt(a, at) > highAt(b, at) {
			return false
		}
	}
	return a[len(a)-1].Rate <= b[len(b)-1].Rate
}

// lies fails unless Below tells what it must.
func lies(t *testing.T, a, b api.Curve) {
	t.Helper()
	givenA, givenB := wide(a), wide(b)
	if is, e := curve.Below(givenA, givenB); is != isBelow(a, b) || e != api.OK {
		t.Fatalf("Below %v %v: %v, %v", a, b, is, e)
	}
	isUntouched(t, givenA, a)
	isUntouched(t, givenB, b)
}

func TestBelow(t *testing.T) {
	three := lines(0, 5, 4, 3, 10, 1)
	for _, c := range []struct {
		a, b api.Curve
		want bool
	}{
		{three, three, true},
		{three, lines(0, 5, 10, 1), true},
		{lines(0, 5, 10, 1), three, false},
		{three, lines(7, 2), true}, // it is touched at 3
		{three, lines(6, 2), false},
		{three, lines(10, 1), true},
		{three, lines(10, 0), false}, // from 2 on
		{three, lines(1, 5), true},
		{three, lines(0, 4, 99, 1), false}, // just at the beginning
		{lines(0, 4, 99, 1), three, false},
		{lines(0, 0), three, true},
		{three, lines(0, 0), false},
		{lines(0, 0), lines(0, 0), true},
		{three, lines(most, most), true},
		{bent(maxLines), bent(maxLines - 1), false},
		{lines(0, 2, 1, 0), lines(0, 3, 1, 0), true}, // the one bends at 1/2, the other at 1/3
		{lines(0, 3, 1, 0), lines(0, 2, 1, 0), false},
	} {
		if is, e := curve.Below(c.a, c.b); is != c.want || e != api.OK {
			t.Errorf("Below %v %v: %v, %v", c.a, c.b, is, e)
		}
		lies(t, c.a, c.b)
	}
	for _, a := range curves() {
		for _, b := range curves() {
			lies(t, a, b)
		}
	}
	r := source()
	for range 5000 {
		a := anyCurve(r)
		b := anyCurve(r)
		lies(t, a, b)
		lies(t, itsLines(slices.Concat(a, b)), b)
	}
}

// The least of both has more lines than a curve may have: that is no error here.
func TestBelowOfLongOnes(t *testing.T) {
	even, odd := apart(bent(2 * maxLines))
	lies(t, even, odd)
	lies(t, odd, even)
	if is, e := curve.Below(even, odd); is || e != api.OK {
		t.Errorf("Below: %v, %v", is, e)
	}
}

func TestSlowest(t *testing.T) {
	for _, c := range curves() {
		given := wide(c)
		if n, e := curve.Slowest(given); n != c[len(c)-1].Rate || e != api.OK {
			t.Errorf("Slowest %v: %d, %v", c, n, e)
		}
		isUntouched(t, given, c)
	}
}

func TestBelowAndSlowestNeedCurves(t *testing.T) {
	for _, bad := range nones() {
		for _, pair := range [][2]api.Curve{{bad, lines(0, 5)}, {lines(0, 5), bad}, {bad, bad}, {bad, lines(most, most)}, {lines(0, 0), bad}} {
			if is, e := curve.Below(pair[0], pair[1]); is || e != api.ErrArg {
				t.Errorf("Below %v: %v, %v", pair, is, e)
			}
		}
		if n, e := curve.Slowest(bad); n != 0 || e != api.ErrArg {
			t.Errorf("Slowest %v: %d, %v", bad, n, e)
		}
	}
}

// P3.3

// high tells how high a curve is, as the program says.
func high(t *testing.T, c api.Curve, ticks int64) int64 {
	t.Helper()
	n, e := curve.At(c, ticks)
	if e != api.OK {
		t.Fatalf("At %v %d: %v", c, ticks, e)
	}
	return n
}

func TestTheLeastIsLeastAndTheSumIsSum(t *testing.T) {
	r := source()
	for range 3000 {
		l := anyCurves(r, 5)
		least, leastE := curve.Min(l...)
		sum, sumE := curve.Sum(l...)
		for _, ticks := range []int64{0, 1, 2, 3, 4, 5, 8, 13, 30, most - 1, most, api.MaxTicks} {
			low, all := int64(math.MaxInt64), int64(0)
			for _, c := range l {
				low, all = min(low, high(t, c, ticks)), all+high(t, c, ticks)
			}
			if leastE == api.OK && high(t, least, ticks) != low {
				t.Fatalf("Min %v at %d: %v", l, ticks, least)
			}
			if sumE == api.OK && high(t, sum, ticks) != all {
				t.Fatalf("Sum %v at %d: %v", l, ticks, sum)
			}
		}
	}
}

func TestWhatIsLaterIsLater(t *testing.T) {
	r := source()
	for range 3000 {
		c, by, more := anyCurve(r), r.Int64N(20), r.Int64N(20)
		later, e := curve.Later(c, by)
		if e != api.OK {
			continue
		}
		for _, ticks := range []int64{0, 1, 2, 3, 5, 8, 30, most, api.MaxTicks - by} {
			if high(t, later, ticks) != high(t, c, by+ticks) {
				t.Fatalf("Later %v by %d at %d: %v", c, by, ticks, later)
			}
		}
		twice, e := curve.Later(later, more)
		once, onceE := curve.Later(c, by+more)
		isThat(t, "Later twice", []any{c, by, more}, twice, e, once, onceE)
	}
}

func TestBelowIsTheLeastOfBoth(t *testing.T) {
	r := source()
	found := 0
	for range 5000 {
		a, b := anyCurve(r), anyCurve(r)
		least, e := curve.Min(a, b)
		if e != api.OK {
			continue
		}
		for _, c := range []api.Curve{a, least} {
			is, e := curve.Below(c, b)
			both, bothE := curve.Min(c, b)
			if e != api.OK || bothE != api.OK || is != slices.Equal(both, c) {
				t.Fatalf("Below %v %v: %v, %v; the least %v", c, b, is, e, both)
			}
			if is {
				found++
			}
		}
	}
	if found == 0 {
		t.Error("none was below another")
	}
}

func TestNothingHangsOnTheOrder(t *testing.T) {
	r := source()
	for range 2000 {
		l := anyCurves(r, 5)
		least, leastE := curve.Min(l...)
		sum, sumE := curve.Sum(l...)
		all := slices.Concat(l...)
		made, madeE := curve.Make(all...)
		r.Shuffle(len(l), func(i, j int) { l[i], l[j] = l[j], l[i] })
		r.Shuffle(len(all), func(i, j int) { all[i], all[j] = all[j], all[i] })
		c, e := curve.Min(l...)
		isThat(t, "Min", l, c, e, least, leastE)
		c, e = curve.Sum(l...)
		isThat(t, "Sum", l, c, e, sum, sumE)
		c, e = curve.Make(all...)
		isThat(t, "Make", all, c, e, made, madeE)
	}
}

// Two curves that are the same everywhere have the same lines: what a curve is
// made of again is it.
func TestTheSameHasTheSameLines(t *testing.T) {
	r := source()
	for range 3000 {
		l := anyLines(r, 9)
		c, e := curve.Make(l...)
		mustBe(t, c, e)
		again, e := curve.Make(append(slices.Clone(c), l...)...)
		isThat(t, "Make", l, again, e, c, api.OK)
		again, e = curve.Min(c, c)
		isThat(t, "Min", c, again, e, c, api.OK)
		again, e = curve.Sum(c, lines(0, 0))
		isThat(t, "Sum", c, again, e, c, api.OK)
		again, e = curve.Later(c, 0)
		isThat(t, "Later", c, again, e, c, api.OK)
	}
}
