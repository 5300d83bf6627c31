package tspec_test

import (
	"fmt"
	"math"
	"math/rand/v2"
	"slices"
	"testing"

	"postroad/api"
	"postroad/tspec"
)

// plain is the one of the chapter's examples, widest the one that allows most.
var (
	plain  = api.Spec{Peak: 10, Rate: 2, Burst: 20, Most: 8, Least: 1}
	widest = api.Spec{Peak: api.MaxRate, Rate: api.MaxRate, Burst: api.MaxBurst, Most: api.MaxPacket, Least: 1}
	least  = api.Spec{Peak: 1, Rate: 1, Burst: 1, Most: 1, Least: 1}
)

// specs may be; many of them stand at an edge.
func specs() []api.Spec {
	return []api.Spec{
		plain, widest, least,
		{Peak: api.MaxRate, Rate: 1, Burst: 1, Most: 1, Least: 1},
		{Peak: 5, Rate: 5, Burst: 9, Most: 9, Least: 9},
		{Peak: 5, Rate: 4, Burst: 9, Most: 9, Least: 1},
		{Peak: api.MaxRate, Rate: api.MaxRate, Burst: api.MaxPacket, Most: api.MaxPacket, Least: api.MaxPacket},
		{Peak: 2, Rate: 1, Burst: api.MaxBurst, Most: 1, Least: 1},
		{Peak: 10, Rate: 2, Burst: 8, Most: 8, Least: 8},
		{Peak: 10, Rate: 10, Burst: 20, Most: 8, Least: 3},
	}
}

// nones may not be, each but for one of its numbers.
func nones() []api.Spec {
	out := []api.Spec{
		{},
		{Peak: 10, Rate: 11, Burst: 20, Most: 8, Least: 1},
		{Peak: api.MaxRate + 1, Rate: 2, Burst: 20, Most: 8, Least: 1},
		{Peak: api.MaxRate + 1, Rate: api.MaxRate + 1, Burst: 20, Most: 8, Least: 1},
		{Peak: 10, Rate: 2, Burst: 7, Most: 8, Least: 1},
		{Peak: 10, Rate: 2, Burst: api.MaxBurst + 1, Most: 8, Least: 1},
		{Peak: 10, Rate: 2, Burst: 20, Most: 8, Least: 9},
		{Peak: 10, Rate: 2, Burst: 3000, Most: api.MaxPacket + 1, Least: 1},
		{Peak: 10, Rate: 2, Burst: 3000, Most: api.MaxPacket + 1, Least: api.MaxPacket + 1},
	}
	for i := range 5 {
		for _, n := range []int64{0, -1, math.MinInt64, math.MaxInt64} {
			bad := plain
			*field(&bad, i) = n
			out = append(out, bad)
		}
	}
	return out
}

func field(s *api.Spec, i int) *int64 {
	return []*int64{&s.Peak, &s.Rate, &s.Burst, &s.Most, &s.Least}[i]
}

// may tells what the chapter's words say, number by number.
func may(s api.Spec) bool {
	rate := func(n int64) bool { return 1 <= n && n <= api.MaxRate }
	packet := func(n int64) bool { return 1 <= n && n <= api.MaxPacket }
	return rate(s.Peak) && rate(s.Rate) && s.Rate <= s.Peak && 1 <= s.Burst && s.Burst <= api.MaxBurst &&
		packet(s.Most) && packet(s.Least) && s.Least <= s.Most && s.Most <= s.Burst
}

func allows(s api.Spec, ticks int64) int64 {
	a, b := s.Most+s.Peak*ticks, s.Burst+s.Rate*ticks
	if a < b {
		return a
	}
	return b
}

// sends tells sendings, of the tick and the size of each.
func sends(n ...int64) []api.Send {
	var l []api.Send
	for i := 0; i < len(n); i += 2 {
		l = append(l, api.Send{At: n[i], Size: n[i+1]})
	}
	return l
}

// breaks holds each sending against each ahead of it.
func breaks(s api.Spec, l []api.Send) int {
	for j, x := range l {
		if x.At < 0 || x.At > api.MaxTicks || x.Size < s.Least || x.Size > s.Most || j > 0 && x.At < l[j-1].At {
			return j
		}
		sum := int64(0)
		for i := j; i >= 0; i-- {
			sum += l[i].Size
			if sum > allows(s, x.At-l[i].At) {
				return j
			}
		}
	}
	return len(l)
}

func source() *rand.Rand { return rand.New(rand.NewPCG(3, 4)) }

// anySpec tells a small one, or one of any size.
func anySpec(r *rand.Rand) api.Spec {
	rates, bursts, packets := int64(6), int64(30), int64(9)
	if r.IntN(4) == 0 {
		rates, bursts, packets = api.MaxRate, api.MaxBurst, api.MaxPacket
	}
	var s api.Spec
	s.Peak = 1 + r.Int64N(rates)
	s.Rate = 1 + r.Int64N(s.Peak)
	s.Most = 1 + r.Int64N(packets)
	s.Least = 1 + r.Int64N(s.Most)
	s.Burst = s.Most + r.Int64N(bursts-s.Most+1)
	return s
}

// kept tells sendings that keep to a spec, as close to it as may be now and then.
func kept(r *rand.Rand, s api.Spec, n int) []api.Send {
	var l []api.Send
	for at := int64(0); len(l) < n; {
		x := api.Send{At: at, Size: s.Least + r.Int64N(s.Most-s.Least+1)}
		if breaks(s, append(l, x)) > len(l) {
			l = append(l, x)
		} else {
			at += 1 + r.Int64N(3)*r.Int64N(1+s.Most/s.Rate)
		}
	}
	return l
}

// P2.1

func TestCheck(t *testing.T) {
	for _, s := range specs() {
		if e := tspec.Check(s); e != api.OK {
			t.Errorf("Check %v: %v", s, e)
		}
	}
	for _, s := range nones() {
		if e := tspec.Check(s); e != api.ErrArg {
			t.Errorf("Check %v: %v", s, e)
		}
	}
}

func TestCheckEdges(t *testing.T) {
	rates := []int64{math.MinInt64, -1, 0, 1, 2, api.MaxRate - 1, api.MaxRate, api.MaxRate + 1, math.MaxInt64}
	bursts := []int64{math.MinInt64, -1, 0, 1, 2, api.MaxPacket, api.MaxBurst - 1, api.MaxBurst, api.MaxBurst + 1, math.MaxInt64}
	packets := []int64{math.MinInt64, -1, 0, 1, 2, api.MaxPacket - 1, api.MaxPacket, api.MaxPacket + 1, math.MaxInt64}
	for _, peak := range rates {
		for _, rate := range rates {
			for _, burst := range bursts {
				for _, most := range packets {
					for _, low := range packets {
						s := api.Spec{Peak: peak, Rate: rate, Burst: burst, Most: most, Least: low}
						if e := tspec.Check(s); (e == api.OK) != may(s) || e != api.OK && e != api.ErrArg {
							t.Fatalf("Check %v: %v", s, e)
						}
					}
				}
			}
		}
	}
}

func TestAllows(t *testing.T) {
	for ticks, want := range map[int64]int64{0: 8, 1: 18, 2: 24, 5: 30} {
		if n, e := tspec.Allows(plain, ticks); n != want || e != api.OK {
			t.Errorf("Allows %d: %d, %v", ticks, n, e)
		}
	}
	for _, s := range specs() {
		for _, ticks := range []int64{0, 1, 2, 3, 10, 1000, 1 << 20, api.MaxTicks - 1, api.MaxTicks} {
			if n, e := tspec.Allows(s, ticks); n != allows(s, ticks) || e != api.OK {
				t.Errorf("Allows %v %d: %d, %v", s, ticks, n, e)
			}
		}
		for _, ticks := range []int64{-1, math.MinInt64, api.MaxTicks + 1, math.MaxInt64} {
			if n, e := tspec.Allows(s, ticks); n != 0 || e != api.ErrArg {
				t.Errorf("Allows %v %d: %d, %v", s, ticks, n, e)
			}
		}
	}
	for _, s := range nones() {
		if n, e := tspec.Allows(s, 1); n != 0 || e != api.ErrArg {
			t.Errorf("Allows %v: %d, %v", s, n, e)
		}
	}
}

// holdsAt fails unless both calls tell that the first one with which these do
// not keep to the spec is that one.
func holdsAt(t *testing.T, s api.Spec, l []api.Send, want int) {
	t.Helper()
	wide := append(slices.Clone(l), api.Send{At: -7, Size: -7})
	given := wide[:len(l)]
	if n, e := tspec.Breaks(s, given...); n != want || e != api.OK {
		t.Fatalf("Breaks %v %v: %d, %v; must be %d", s, l, n, e, want)
	}
	if ok, e := tspec.Keeps(s, given...); ok != (want == len(l)) || e != api.OK {
		t.Fatalf("Keeps %v %v: %v, %v", s, l, ok, e)
	}
	if !slices.Equal(given, l) || wide[len(l)] != (api.Send{At: -7, Size: -7}) {
		t.Fatalf("what was handed in is changed: %v", wide)
	}
}

func TestKeepsAndBreaks(t *testing.T) {
	for _, c := range []struct {
		l    []api.Send
		want int
	}{
		{nil, 0},
		{[]api.Send{}, 0},
		{sends(0, 8, 1, 8), 2},
		{sends(0, 8, 0, 1), 1},
		{sends(0, 4, 0, 4), 2},
		{sends(0, 4, 0, 4, 0, 1, 5, 1), 2},
		{sends(0, 8, 1, 8, 2, 8), 3}, // just 24 within 2
		{sends(0, 8, 1, 8, 2, 8, 3, 3), 3},
		{sends(0, 8, 1, 8, 2, 8, 3, 2), 4},
		{sends(0, 8, 1, 8, 2, 8, 3, 2, 4, 1, 4, 2, 9, 1), 5},
		{sends(3, 8, 4, 8, 5, 8, 6, 2, 1006, 8, 1007, 8, 1008, 8, 1009, 2), 8}, // what was not sent is not saved up
		{sends(3, 8, 4, 8, 5, 8, 6, 2, 1006, 8, 1007, 8, 1008, 8, 1009, 3), 7},
		{sends(0, 1, 1, 8, 1, 1), 2},       // begun anew at 1, more than Most at once
		{sends(5, 1, 4, 1), 1},             // a tick falls
		{sends(5, 1, 5, 1, 4, 1, 6, 1), 2}, // and then another error
		{sends(api.MaxTicks, 8), 1},
		{sends(0, 8, api.MaxTicks, 8), 2},
		{sends(api.MaxTicks, 1, api.MaxTicks+1, 1), 1},
		{sends(math.MaxInt64, 1), 0},
		{sends(-1, 1), 0},
		{sends(0, 1, -1, 1), 1},
		{sends(math.MinInt64, 1), 0},
		{sends(0, 9), 0},
		{sends(0, 0), 0},
		{sends(0, -1), 0},
		{sends(0, 1, 1, math.MaxInt64), 1},
		{sends(0, 1, 1, math.MinInt64), 1},
	} {
		holdsAt(t, plain, c.l, c.want)
	}
	high := plain
	high.Least = 4
	holdsAt(t, high, sends(0, 4, 1, 3), 1)
	holdsAt(t, high, sends(0, 4, 1, 4), 2)
}

func TestKeepsNeedsASpec(t *testing.T) {
	for _, s := range nones() {
		for _, l := range [][]api.Send{nil, sends(0, 1), sends(-1, -1), sends(0, 1, 0, 1)} {
			if ok, e := tspec.Keeps(s, l...); ok || e != api.ErrArg {
				t.Errorf("Keeps %v: %v, %v", s, ok, e)
			}
			if n, e := tspec.Breaks(s, l...); n != 0 || e != api.ErrArg {
				t.Errorf("Breaks %v: %d, %v", s, n, e)
			}
		}
	}
}

func TestKeepsAnySendings(t *testing.T) {
	r := source()
	for range 20000 {
		s := anySpec(r)
		l := kept(r, s, r.IntN(12))
		holdsAt(t, s, l, len(l))
		if len(l) == 0 {
			continue
		}
		i := r.IntN(len(l))
		switch r.IntN(4) {
		case 0:
			l[i].Size += r.Int64N(5) - 2
		case 1:
			l[i].At += r.Int64N(5) - 2
		case 2:
			l = slices.Insert(l, i, l[i])
		case 3:
			for k := range l {
				l[k].At = r.Int64N(4) + int64(k)
			}
		}
		holdsAt(t, s, l, breaks(s, l))
	}
}

// Each size and each time up to the edge: a sending goes just if it fits.
func TestKeepsUpToTheEdge(t *testing.T) {
	for _, s := range specs() {
		for gap := range int64(12) {
			for _, at := range []int64{0, 7, api.MaxTicks - gap} {
				for size := s.Least; size <= min(s.Most, s.Least+12); size++ {
					l := sends(at, s.Most, at+gap, size)
					holdsAt(t, s, l, breaks(s, l))
				}
			}
		}
	}
}

func TestKeepsManySendings(t *testing.T) {
	l := make([]api.Send, 200000)
	for i := range l {
		l[i] = api.Send{At: int64(4 * i), Size: 8}
	}
	holdsAt(t, plain, l, len(l))
	l[len(l)-1].At -= 7
	holdsAt(t, plain, l, len(l)-1)
	l[len(l)-1].At += 1
	for i := range l {
		l[i].At = int64(4*i) / 2
	}
	holdsAt(t, plain, l, breaks(plain, l[:100]))
}

// P2.2

func within(a, b api.Spec) bool {
	return a.Peak <= b.Peak && a.Rate <= b.Rate && a.Burst <= b.Burst && a.Most <= b.Most && a.Least >= b.Least
}

func TestWithin(t *testing.T) {
	near := []api.Spec{}
	middle := api.Spec{Peak: 10, Rate: 5, Burst: 20, Most: 8, Least: 4}
	for n := range 243 {
		s := middle
		for i := range 5 {
			*field(&s, i) += int64(n%3 - 1)
			n /= 3
		}
		near = append(near, s)
	}
	for _, s := range near {
		for _, pair := range [][2]api.Spec{{s, middle}, {middle, s}, {s, s}} {
			if ok, e := tspec.Within(pair[0], pair[1]); ok != within(pair[0], pair[1]) || e != api.OK {
				t.Fatalf("Within %v: %v, %v", pair, ok, e)
			}
		}
	}
	for _, a := range specs() {
		for _, b := range specs() {
			if ok, e := tspec.Within(a, b); ok != within(a, b) || e != api.OK {
				t.Errorf("Within %v %v: %v, %v", a, b, ok, e)
			}
		}
	}
	for _, bad := range nones() {
		for _, pair := range [][2]api.Spec{{bad, plain}, {plain, bad}, {bad, bad}, {bad, widest}, {bad, least}, {least, bad}} {
			if ok, e := tspec.Within(pair[0], pair[1]); ok || e != api.ErrArg {
				t.Errorf("Within %v: %v, %v", pair, ok, e)
			}
		}
	}
}

// joined and summed tell what the chapter's words say.
func joined(l []api.Spec) api.Spec {
	s := l[0]
	for _, x := range l {
		s = api.Spec{
			Peak: max(s.Peak, x.Peak), Rate: max(s.Rate, x.Rate), Burst: max(s.Burst, x.Burst),
			Most: max(s.Most, x.Most), Least: min(s.Least, x.Least),
		}
	}
	return s
}

func summed(l []api.Spec) (api.Spec, api.Errno) {
	s := joined(l)
	s.Peak, s.Rate, s.Burst = 0, 0, 0
	for _, x := range l {
		s.Peak, s.Rate, s.Burst = s.Peak+x.Peak, s.Rate+x.Rate, s.Burst+x.Burst
	}
	if s.Peak > api.MaxRate || s.Rate > api.MaxRate || s.Burst > api.MaxBurst {
		return api.Spec{}, api.ErrLong
	}
	return s, api.OK
}

// brings fails unless both calls bring these to what they must.
func brings(t *testing.T, l ...api.Spec) {
	t.Helper()
	wide := append(slices.Clone(l), api.Spec{Peak: -7})
	given := wide[:len(l)]
	if s, e := tspec.Joint(given...); s != joined(l) || e != api.OK {
		t.Fatalf("Joint %v: %v, %v", l, s, e)
	}
	want, wantE := summed(l)
	if s, e := tspec.Sum(given...); s != want || e != wantE {
		t.Fatalf("Sum %v: %v, %v; must be %v, %v", l, s, e, want, wantE)
	}
	if !slices.Equal(given, l) || wide[len(l)] != (api.Spec{Peak: -7}) {
		t.Fatalf("what was handed in is changed: %v", wide)
	}
}

func TestJointAndSum(t *testing.T) {
	for _, a := range specs() {
		brings(t, a)
		for _, b := range specs() {
			brings(t, a, b)
			for _, c := range specs() {
				brings(t, a, b, c)
			}
		}
	}
	r := source()
	for range 20000 {
		l := []api.Spec{anySpec(r)}
		for range r.IntN(6) {
			l = append(l, anySpec(r))
		}
		brings(t, l...)
	}
}

func TestSumAtItsBounds(t *testing.T) {
	half := api.Spec{Peak: api.MaxRate / 2, Rate: api.MaxRate / 2, Burst: api.MaxBurst / 2, Most: 5, Least: 2}
	both := api.Spec{Peak: api.MaxRate, Rate: api.MaxRate, Burst: api.MaxBurst, Most: 5, Least: 2}
	if s, e := tspec.Sum(half, half); s != both || e != api.OK {
		t.Errorf("at the bound: %v, %v", s, e)
	}
	for i := range 3 {
		more := half
		*field(&more, i)++
		if i == 1 {
			more.Peak++
		}
		if s, e := tspec.Sum(half, more); s != (api.Spec{}) || e != api.ErrLong {
			t.Errorf("%s: %v, %v", []string{"Peak", "Rate", "Burst"}[i], s, e)
		}
	}
	if s, e := tspec.Sum(widest); s != widest || e != api.OK {
		t.Errorf("of one: %v, %v", s, e)
	}
	if s, e := tspec.Sum(slices.Repeat([]api.Spec{widest}, 100000)...); s != (api.Spec{}) || e != api.ErrLong {
		t.Errorf("of many: %v, %v", s, e)
	}
	if s, e := tspec.Joint(slices.Repeat([]api.Spec{widest}, 100000)...); s != widest || e != api.OK {
		t.Errorf("joint of many: %v, %v", s, e)
	}
}

func TestJointAndSumNeedSpecs(t *testing.T) {
	lists := [][]api.Spec{nil, {}}
	for _, bad := range nones() {
		lists = append(lists, []api.Spec{bad}, []api.Spec{bad, plain}, []api.Spec{plain, bad}, []api.Spec{plain, bad, plain},
			[]api.Spec{widest, widest, bad}, []api.Spec{bad, widest, widest}) // ahead of ErrLong
	}
	for _, l := range lists {
		if s, e := tspec.Joint(l...); s != (api.Spec{}) || e != api.ErrArg {
			t.Errorf("Joint %v: %v, %v", l, s, e)
		}
		if s, e := tspec.Sum(l...); s != (api.Spec{}) || e != api.ErrArg {
			t.Errorf("Sum %v: %v, %v", l, s, e)
		}
	}
}

// P2.3

// mustKeep fails unless they keep.
func mustKeep(t *testing.T, why string, s api.Spec, l []api.Send) {
	t.Helper()
	if ok, e := tspec.Keeps(s, l...); !ok || e != api.OK {
		t.Fatalf("%s: %v %v: %v, %v", why, s, l, ok, e)
	}
}

func TestKeepsToAllWithinWhichItIs(t *testing.T) {
	r := source()
	found := 0
	for range 5000 {
		a, b := anySpec(r), anySpec(r)
		l := kept(r, a, 8)
		both, e := tspec.Joint(a, b)
		if e != api.OK {
			t.Fatalf("Joint %v %v: %v", a, b, e)
		}
		for _, s := range []api.Spec{a, b} {
			if ok, e := tspec.Within(s, both); !ok || e != api.OK {
				t.Fatalf("%v is not within the joint one %v: %v", s, both, e)
			}
		}
		mustKeep(t, "the joint one", both, l)
		if ok, _ := tspec.Within(a, b); ok {
			found++
			mustKeep(t, "within", b, l)
		}
	}
	if found == 0 {
		t.Error("none was within another")
	}
}

func TestTwoKeepToTheirSum(t *testing.T) {
	r := source()
	for range 3000 {
		a, b := anySpec(r), anySpec(r)
		sum, e := tspec.Sum(a, b)
		if e != api.OK {
			continue
		}
		l := append(kept(r, a, 8), kept(r, b, 8)...)
		slices.SortStableFunc(l, func(x, y api.Send) int { return int(x.At - y.At) })
		for i := range l {
			bytes := int64(0)
			for _, x := range l[i:] {
				bytes += x.Size
				if n, e := tspec.Allows(sum, x.At-l[i].At); e != api.OK || bytes > n+sum.Most {
					t.Fatalf("%v %v: %d within %d, allowed %d, %v", a, b, bytes, x.At-l[i].At, n, e)
				}
			}
		}
	}
}

func TestAllowsNoMoreThanParts(t *testing.T) {
	r := source()
	ask := func(s api.Spec, ticks int64) int64 {
		n, e := tspec.Allows(s, ticks)
		if e != api.OK {
			t.Fatal(fmt.Sprint(s, ticks), e)
		}
		return n
	}
	for range 20000 {
		s := anySpec(r)
		x, y := r.Int64N(20), r.Int64N(20)
		if r.IntN(3) == 0 {
			x, y = r.Int64N(api.MaxTicks/2), r.Int64N(api.MaxTicks/2)
		}
		if ask(s, x+y) > ask(s, x)+ask(s, y) {
			t.Fatalf("%v: more within %d and %d together", s, x, y)
		}
	}
}
