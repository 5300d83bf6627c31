package minplus_test

import (
	"math"
	"math/big"
	"math/rand/v2"
	"slices"
	"testing"

	"postroad/api"
	"postroad/curve"
	"postroad/minplus"
	"postroad/rat"
)

// The tests hold each answer against math/big, which has no bound: the steps
// are the chapter's, but where a curve bends is looked for among all places.

const (
	most     = math.MaxInt64
	least    = math.MinInt64
	mostLine = 1000000000
)

func whole(n int64) api.Rat { return api.Rat{N: n, D: 1} }

// by tells n by d, also what is no fraction.
func by(n, d int64) api.Rat { return api.Rat{N: n, D: d} }

func service(rate, late api.Rat) api.Service { return api.Service{Rate: rate, Late: late} }

// lines tells a list of lines, of the Burst and the Rate of each.
func lines(n ...int64) api.Curve {
	var l api.Curve
	for i := 0; i < len(n); i += 2 {
		l = append(l, api.Line{Burst: n[i], Rate: n[i+1]})
	}
	return l
}

// bent tells a curve of n lines that bends at the ticks 1, 2, 3 and so on.
func bent(n int64) api.Curve {
	var c api.Curve
	for i := range n {
		c = append(c, api.Line{Burst: i * (i + 1) / 2, Rate: n - 1 - i})
	}
	return c
}

// curves may be; many of them stand at an edge.
func curves() []api.Curve {
	return []api.Curve{
		lines(8, 10, 20, 2),
		lines(0, 5, 4, 3, 10, 1),
		lines(0, 0),
		lines(1, 0),
		lines(0, 1),
		lines(mostLine, 0),
		lines(0, mostLine),
		lines(mostLine, mostLine),
		lines(0, mostLine, mostLine, 0),
		lines(0, mostLine, mostLine-7, 1, mostLine, 0),
		lines(0, mostLine, 1, mostLine-1),
		lines(mostLine-1, 1, mostLine, 0),
		lines(0, 999999937, 999999929, 1),
		lines(1999, 999983, 9999991, 10007),
		lines(2000, 1000000, 10000000, 1),
		bent(2), bent(31), bent(32),
	}
}

// noCurves may not be.
func noCurves() []api.Curve {
	return []api.Curve{
		nil, {},
		lines(0, 5, 0, 5), lines(10, 1, 0, 5), lines(0, 5, 10, 5), lines(0, 5, 0, 4), lines(0, 5, 4, 6),
		lines(0, 3, 1, 2, 2, 1), // all three meet
		lines(-1, 1), lines(1, -1), lines(mostLine+1, 1), lines(1, mostLine+1), lines(least, least), lines(most, most),
		bent(33), bent(1000),
	}
}

// noFractions are none, each for another reason.
func noFractions() []api.Rat {
	return []api.Rat{
		{}, {N: 1}, {N: -1}, {N: most}, {N: least}, // by nought
		{N: 1, D: -1}, {N: -1, D: -1}, {N: -3, D: -2}, {N: 0, D: -1}, {N: 1, D: least}, {N: least, D: least}, // D below nought
		{N: 0, D: 2}, {N: 0, D: 1000}, {N: 2, D: 4}, {N: 2, D: 2}, {N: 1000, D: 1000}, {N: most, D: most}, // a common divisor
		{N: least, D: 1}, {N: least, D: 3},
	}
}

// noRates are no service's Rate.
func noRates() []api.Rat {
	return append(noFractions(),
		whole(0), whole(-1), by(-1, 1000), whole(-most),
		whole(api.MaxRate+1), by(api.MaxRate*1000+1, 1000), by(2*api.MaxRate+1, 2), whole(most), by(most, 2),
		by(1, 1001), by(1001, 1002), by(1, 1000000), by(999999999, 1001), by(1, most), by(most-1, most))
}

// noLates are no service's Late.
func noLates() []api.Rat {
	return append(noTicks(), by(1, 1000001), by(1000000, 1000001), by(most, 1<<62), by(1, most), by(1, 1<<40))
}

// noTicks are no fractions from 0 to MaxTicks.
func noTicks() []api.Rat {
	return append(noFractions(),
		whole(-1), by(-1, 2), by(-1, 1000000), by(-1, most), whole(-most),
		whole(api.MaxTicks+1), by(api.MaxTicks*1000000+1, 1000000), by(2*api.MaxTicks+1, 2), by(api.MaxTicks<<32+1, 1<<32), whole(most))
}

// rates may be a service's.
func rates() []api.Rat {
	return []api.Rat{
		whole(1), whole(2), whole(4), by(1, 1000), by(1, 999), by(999, 1000), by(3, 2), by(7, 3),
		whole(api.MaxRate), whole(api.MaxRate - 1), by(api.MaxRate*1000-1, 1000), by(api.MaxRate*997-1, 997),
	}
}

// lates may be a service's.
func lates() []api.Rat {
	return []api.Rat{
		whole(0), whole(3), by(1, 2), by(1, 1000000), by(1, 999983), by(999982, 999983), by(7, 3),
		whole(api.MaxTicks), whole(api.MaxTicks - 1), by(api.MaxTicks*1000000-1, 1000000), by(api.MaxTicks*999979-1, 999979),
	}
}

// services may be; of each Rate with each Late.
func services() []api.Service {
	var out []api.Service
	for _, rate := range rates() {
		for _, late := range lates() {
			out = append(out, service(rate, late))
		}
	}
	return out
}

// noServices may not be.
func noServices() []api.Service {
	out := []api.Service{{}}
	for _, rate := range noRates() {
		out = append(out, service(rate, whole(0)), service(rate, by(1, 2)), service(rate, whole(-1)))
	}
	for _, late := range noLates() {
		out = append(out, service(whole(1), late), service(by(1, 1000), late), service(whole(0), late))
	}
	return out
}

// ticks are some, from 0 to MaxTicks.
func ticks() []api.Rat {
	return append(lates(), by(3, 2), by(1, most), by(most-1, most), by(most, 1<<62), by(most, 1<<32+5), by(api.MaxTicks<<32-1, 1<<32),
		whole(1), whole(4), by(1, 3), by(1000001, 1000000), by(10, 999983))
}

// source is the same in each run.
func source() *rand.Rand { return rand.New(rand.NewPCG(3, 4)) }

// upTo tells a number from 0 to that, as often short as long.
func upTo(r *rand.Rand, bound int64) int64 {
	return r.Int64N(r.Int64N(bound)/(1<<r.IntN(40))+1) + r.Int64N(2)
}

// made tells n by d, which is not 0, as a fraction.
func made(n, d int64) api.Rat {
	x, e := rat.Make(n, d)
	if e != api.OK {
		panic(e)
	}
	return x
}

func anyRate(r *rand.Rand) api.Rat {
	d := 1 + r.Int64N(1+r.Int64N(1000))
	return made(min(1+upTo(r, api.MaxRate*d), api.MaxRate*d), d)
}

func anyTicks(r *rand.Rand, mostD int64) api.Rat {
	d := 1 + min(upTo(r, mostD), mostD-1)
	return made(min(upTo(r, api.MaxTicks), api.MaxTicks-1)*d+r.Int64N(d+1), d)
}

func anyService(r *rand.Rand) api.Service {
	return service(anyRate(r), anyTicks(r, 1000000))
}

// anyCurve tells one whose numbers are up to a bound.
func anyCurve(r *rand.Rand, bound int64) api.Curve {
	l := make([]api.Line, 1+r.IntN(8))
	for i := range l {
		l[i] = api.Line{Burst: min(upTo(r, bound), bound), Rate: min(upTo(r, bound), bound)}
	}
	c, e := curve.Make(l...)
	if e != api.OK {
		panic(e)
	}
	return c
}

// smallCurve and smallService are such that no step on the way is ErrOver.
func smallCurve(r *rand.Rand) api.Curve { return anyCurve(r, 60) }

func smallService(r *rand.Rand) api.Service {
	return service(made(1+r.Int64N(300), 1+r.Int64N(6)), made(r.Int64N(60), 1+r.Int64N(6)))
}

// reckoned goes as the chapter's steps do, without a bound, and remembers
// whether there was no fraction of what came of one.
type reckoned struct{ over bool }

func (k *reckoned) step(x *big.Rat) *big.Rat {
	bound := big.NewInt(most)
	k.over = k.over || x.Num().CmpAbs(bound) > 0 || x.Denom().Cmp(bound) > 0
	return x
}

func (k *reckoned) and(a, b *big.Rat) *big.Rat   { return k.step(new(big.Rat).Add(a, b)) }
func (k *reckoned) less(a, b *big.Rat) *big.Rat  { return k.step(new(big.Rat).Sub(a, b)) }
func (k *reckoned) times(a, b *big.Rat) *big.Rat { return k.step(new(big.Rat).Mul(a, b)) }
func (k *reckoned) by(a, b *big.Rat) *big.Rat    { return k.step(new(big.Rat).Quo(a, b)) }

// answer tells what must be answered where that was worked out.
func (k *reckoned) answer(x *big.Rat) (api.Rat, api.Errno) {
	if k.over {
		return api.Rat{}, api.ErrOver
	}
	return by(x.Num().Int64(), x.Denom().Int64()), api.OK
}

func exact(x api.Rat) *big.Rat { return big.NewRat(x.N, x.D) }

func number(n int64) *big.Rat { return big.NewRat(n, 1) }

// height tells how high a line is.
func (k *reckoned) height(x api.Line, at *big.Rat) *big.Rat {
	return k.and(number(x.Burst), k.times(number(x.Rate), at))
}

func (k *reckoned) high(c api.Curve, at *big.Rat) *big.Rat {
	low := k.height(c[0], at)
	for _, x := range c {
		if h := k.height(x, at); h.Cmp(low) < 0 {
			low = h
		}
	}
	return low
}

func (k *reckoned) served(s api.Service, at *big.Rat) *big.Rat {
	if at.Cmp(exact(s.Late)) <= 0 {
		return number(0)
	}
	return k.times(exact(s.Rate), k.less(at, exact(s.Late)))
}

// bends tells 0 and all places at which one of its lines meets another one,
// the last one ahead: just there it is no straight line.
func bends(c api.Curve) []*big.Rat {
	out := []*big.Rat{number(0)}
	for i := len(c) - 1; i > 0; i-- {
		out = append(out, big.NewRat(c[i].Burst-c[i-1].Burst, c[i-1].Rate-c[i].Rate))
	}
	return out
}

// ahead tells how far a curve is ahead of a rate from 0 on.
func ahead(c api.Curve, rate api.Rat, at *big.Rat) *big.Rat {
	var free reckoned
	return free.less(free.high(c, at), free.times(exact(rate), at))
}

// bendOf tells the first place where a curve is most ahead of a rate; nil: it
// is ever farther ahead.
func bendOf(c api.Curve, rate api.Rat) *big.Rat {
	if number(c[len(c)-1].Rate).Cmp(exact(rate)) > 0 {
		return nil
	}
	best := number(0)
	for _, at := range bends(c) {
		if d := ahead(c, rate, at).Cmp(ahead(c, rate, best)); d > 0 || d == 0 && at.Cmp(best) < 0 {
			best = at
		}
	}
	return best
}

// after tells the line that a curve keeps to behind a place.
func after(c api.Curve, at *big.Rat) api.Line {
	var free reckoned
	for _, x := range slices.Backward(c) {
		if free.height(x, at).Cmp(free.high(c, at)) == 0 {
			return x
		}
	}
	panic("no line is the least one")
}

// delay tells what Delay must answer.
func delay(c api.Curve, s api.Service) (api.Rat, api.Errno) {
	bend := bendOf(c, s.Rate)
	if bend == nil {
		return api.Rat{}, api.ErrEver
	}
	var k reckoned
	k.step(bend)
	return k.answer(k.and(k.less(k.by(k.height(after(c, bend), bend), exact(s.Rate)), bend), exact(s.Late)))
}

// backlog tells what Backlog must answer.
func backlog(c api.Curve, s api.Service) (api.Rat, api.Errno) {
	at := bendOf(c, s.Rate)
	if at == nil {
		return api.Rat{}, api.ErrEver
	}
	if late := exact(s.Late); late.Cmp(at) > 0 {
		at = late
	}
	var k reckoned
	return k.answer(k.less(k.high(c, at), k.times(exact(s.Rate), k.less(at, exact(s.Late)))))
}

// same fails unless a call answered what it must.
func same[T comparable](t *testing.T, what string, given any, got T, e api.Errno, want T, wantE api.Errno) {
	t.Helper()
	if got != want || e != wantE {
		t.Fatalf("%s %v: %v, %v; must be %v, %v", what, given, got, e, want, wantE)
	}
}

// tally counts what was answered, so that a test can tell that it saw both.
type tally struct{ fine, over, ever, long int }

func (n *tally) add(e api.Errno) {
	switch e {
	case api.OK:
		n.fine++
	case api.ErrOver:
		n.over++
	case api.ErrEver:
		n.ever++
	case api.ErrLong:
		n.long++
	}
}

// P4.1

func TestCheck(t *testing.T) {
	for _, s := range services() {
		if e := minplus.Check(s); e != api.OK {
			t.Errorf("Check %v: %v", s, e)
		}
	}
	for _, s := range noServices() {
		if e := minplus.Check(s); e != api.ErrArg {
			t.Errorf("Check %v: %v", s, e)
		}
	}
	r := source()
	for range 5000 {
		if s := anyService(r); minplus.Check(s) != api.OK {
			t.Errorf("Check %v: %v", s, minplus.Check(s))
		}
	}
}

func TestCheckEachD(t *testing.T) {
	for d := int64(-2); d <= 2000; d++ {
		want := api.ErrArg
		if d >= 1 && d <= 1000 {
			want = api.OK
		}
		if e := minplus.Check(service(by(1, d), whole(0))); e != want {
			t.Errorf("Check of the Rate 1 by %d: %v", d, e)
		}
	}
	for _, d := range []int64{-1, 0, 1, 2, 999999, 1000000, 1000001, 1000002} {
		want := api.ErrArg
		if d >= 1 && d <= 1000000 {
			want = api.OK
		}
		if e := minplus.Check(service(whole(1), by(1, d))); e != want {
			t.Errorf("Check of the Late 1 by %d: %v", d, e)
		}
	}
}

func TestAtExamples(t *testing.T) {
	s := service(by(5, 2), by(7, 3))
	tiny := by(1, most)
	for _, c := range []struct {
		s     api.Service
		ticks api.Rat
		want  api.Rat
		e     api.Errno
	}{
		{s, whole(0), whole(0), api.OK},
		{s, whole(2), whole(0), api.OK},
		{s, by(7, 3), whole(0), api.OK},
		{s, by(8, 3), by(5, 6), api.OK},
		{s, whole(5), by(20, 3), api.OK},
		{s, whole(api.MaxTicks), by(32212254670, 6), api.OK}, // 5/2 times 6442450934/3
		{service(whole(4), whole(0)), by(3, 2), whole(6), api.OK},
		{service(whole(4), whole(0)), whole(0), whole(0), api.OK},
		{service(whole(api.MaxRate), whole(0)), whole(api.MaxTicks), whole(api.MaxRate * api.MaxTicks), api.OK},
		{service(whole(1), whole(api.MaxTicks)), whole(api.MaxTicks), whole(0), api.OK},
		{service(whole(2), whole(0)), tiny, by(2, most), api.OK},
		{service(by(1, 2), whole(0)), tiny, api.Rat{}, api.ErrOver},                 // the product
		{service(whole(1), by(1, 999983)), by(most, 1<<62), api.Rat{}, api.ErrOver}, // the difference
		{service(whole(1), by(1, 999983)), tiny, whole(0), api.OK},                  // there is nothing to work out
		{service(by(1, 2), by(1, 1000000)), tiny, whole(0), api.OK},
	} {
		want := c.want
		if c.e == api.OK {
			want = made(c.want.N, c.want.D)
		}
		got, e := minplus.At(c.s, c.ticks)
		same(t, "At", []any{c.s, c.ticks}, got, e, want, c.e)
	}
}

func TestAt(t *testing.T) {
	var seen tally
	check := func(s api.Service, ticks api.Rat) {
		var k reckoned
		want, wantE := k.answer(k.served(s, exact(ticks)))
		got, e := minplus.At(s, ticks)
		same(t, "At", []any{s, ticks}, got, e, want, wantE)
		seen.add(e)
	}
	for _, s := range services() {
		for _, x := range ticks() {
			check(s, x)
		}
		check(s, s.Late)
	}
	r := source()
	for range 20000 {
		check(anyService(r), anyTicks(r, 1000000))
		check(anyService(r), anyTicks(r, 1<<31))
		check(smallService(r), anyTicks(r, 1<<31))
	}
	if seen.fine < 10000 || seen.over < 100 {
		t.Errorf("seen: %+v", seen)
	}
}

func TestAtNeedsAServiceAndTicks(t *testing.T) {
	over := service(by(1, 2), whole(0)) // at 1 by most it is ErrOver
	for _, s := range noServices() {
		for _, x := range append(ticks(), noTicks()...) {
			got, e := minplus.At(s, x)
			same(t, "At", []any{s, x}, got, e, api.Rat{}, api.ErrArg)
		}
	}
	for _, x := range noTicks() {
		for _, s := range append(services(), over) {
			got, e := minplus.At(s, x)
			same(t, "At", []any{s, x}, got, e, api.Rat{}, api.ErrArg)
		}
	}
}

func TestJoinExamples(t *testing.T) {
	one, zero := whole(1), whole(0)
	lateOf := func(l ...api.Rat) []api.Service {
		var out []api.Service
		for i, x := range l {
			out = append(out, service(whole(int64(i+1)), x))
		}
		return out
	}
	for _, c := range []struct {
		l    []api.Service
		want api.Service
		e    api.Errno
	}{
		{[]api.Service{service(whole(4), whole(3)), service(whole(5), by(1, 2))}, service(whole(4), by(7, 2)), api.OK},
		{[]api.Service{service(whole(5), by(1, 2)), service(whole(4), whole(3))}, service(whole(4), by(7, 2)), api.OK},
		{[]api.Service{service(by(1, 1000), by(1, 1000000))}, service(by(1, 1000), by(1, 1000000)), api.OK},
		{[]api.Service{service(by(7, 3), zero), service(by(5, 2), zero), service(by(9, 4), zero)}, service(by(9, 4), zero), api.OK},
		{lateOf(whole(api.MaxTicks)), service(one, whole(api.MaxTicks)), api.OK},
		{lateOf(whole(api.MaxTicks), zero), service(one, whole(api.MaxTicks)), api.OK},
		{lateOf(whole(api.MaxTicks-1), by(1, 2), by(1, 2)), service(one, whole(api.MaxTicks)), api.OK},
		{lateOf(whole(api.MaxTicks), by(1, 1000000)), api.Service{}, api.ErrLong},
		{lateOf(whole(api.MaxTicks), whole(api.MaxTicks)), api.Service{}, api.ErrLong},
		{lateOf(by(1, 1000), by(1, 999)), service(one, by(1999, 999000)), api.OK},
		{lateOf(by(1, 1001), by(1, 1000)), api.Service{}, api.ErrLong}, // 1001000 is its D
		{lateOf(by(1, 999983), by(1, 999979)), api.Service{}, api.ErrLong},
		{lateOf(by(1, 999983), by(1, 999979), by(1, 999961)), api.Service{}, api.ErrLong},
		{lateOf(by(1, 999983), by(1, 999979), by(1, 999961), by(1, 999959)), api.Service{}, api.ErrOver},
		{lateOf(by(1, 999983), by(1, 999979), by(999982, 999983), by(999978, 999979)), service(one, whole(2)), api.OK}, // it may be at the end
		{lateOf(by(1, 999983), by(1, 999979), by(1, 999961), by(1, 999959),
			by(999982, 999983), by(999978, 999979), by(999960, 999961), by(999958, 999959)), api.Service{}, api.ErrOver}, // over on the way
		{lateOf(by(1, 999983), by(999982, 999983), by(1, 999979), by(999978, 999979),
			by(1, 999961), by(999960, 999961), by(1, 999959), by(999958, 999959)), service(one, whole(4)), api.OK}, // the same, in another order
		{nil, api.Service{}, api.ErrArg},
		{[]api.Service{}, api.Service{}, api.ErrArg},
	} {
		got, e := minplus.Join(c.l...)
		same(t, "Join", c.l, got, e, c.want, c.e)
	}
}

// joined tells what Join must answer.
func joined(l []api.Service) (api.Service, api.Errno) {
	var k reckoned
	rate, late := exact(l[0].Rate), number(0)
	for _, s := range l {
		if x := exact(s.Rate); x.Cmp(rate) < 0 {
			rate = x
		}
		late = k.and(late, exact(s.Late))
	}
	x, e := k.answer(late)
	if e != api.OK {
		return api.Service{}, e
	}
	if x.D > 1000000 || late.Cmp(number(api.MaxTicks)) > 0 {
		return api.Service{}, api.ErrLong
	}
	return service(by(rate.Num().Int64(), rate.Denom().Int64()), x), api.OK
}

func TestJoin(t *testing.T) {
	var seen tally
	check := func(l ...api.Service) {
		given := slices.Clone(l)
		room := append(slices.Clone(l), api.Service{Rate: whole(-7)})
		got, e := minplus.Join(room[:len(l)]...)
		want, wantE := joined(l)
		same(t, "Join", l, got, e, want, wantE)
		if !slices.Equal(room[:len(l)], given) || room[len(l)] != (api.Service{Rate: whole(-7)}) {
			t.Fatalf("Join changed what it was handed: %v", room)
		}
		seen.add(e)
	}
	for _, a := range services() {
		check(a)
		for _, b := range services() {
			check(a, b)
		}
	}
	r := source()
	all := services()
	for range 20000 {
		l := make([]api.Service, 1+r.IntN(6))
		for i := range l {
			switch r.IntN(3) {
			case 0:
				l[i] = all[r.IntN(len(all))]
			case 1:
				l[i] = anyService(r)
			default:
				l[i] = smallService(r)
			}
		}
		check(l...)
	}
	if seen.fine < 1000 || seen.over < 100 || seen.long < 1000 {
		t.Errorf("seen: %+v", seen)
	}
}

func TestJoinOfMany(t *testing.T) {
	l := slices.Repeat([]api.Service{service(by(3, 7), by(1, 4))}, 100000)
	l[77777].Rate = by(2, 7)
	got, e := minplus.Join(l...)
	same(t, "Join", "many", got, e, service(by(2, 7), whole(25000)), api.OK)
	l[99999].Rate = by(2, 4)
	got, e = minplus.Join(l...)
	same(t, "Join", "many", got, e, api.Service{}, api.ErrArg)
}

// What is no service is ErrArg at each place, also where ErrLong or ErrOver
// applies.
func TestJoinNeedsServices(t *testing.T) {
	fine := service(whole(4), whole(3))
	long := service(whole(4), whole(api.MaxTicks))
	over := []api.Service{service(whole(1), by(1, 999983)), service(whole(1), by(1, 999979)), service(whole(1), by(1, 999961)), service(whole(1), by(1, 999959))}
	for _, bad := range noServices() {
		for _, l := range [][]api.Service{{bad}, {bad, bad}, {bad, fine}, {fine, bad}, {fine, bad, fine}, {long, long, bad}, {bad, long, long},
			append(slices.Clone(over), bad), append([]api.Service{bad}, over...)} {
			got, e := minplus.Join(l...)
			same(t, "Join", l, got, e, api.Service{}, api.ErrArg)
		}
	}
}

// P4.2

func TestExamples(t *testing.T) {
	c, s := lines(8, 10, 20, 2), service(whole(4), whole(3))
	got, e := minplus.Bend(c, s.Rate)
	same(t, "Bend", c, got, e, by(3, 2), api.OK)
	got, e = minplus.High(c, by(3, 2))
	same(t, "High", c, got, e, whole(23), api.OK)
	got, e = minplus.Delay(c, s)
	same(t, "Delay", c, got, e, by(29, 4), api.OK)
	got, e = minplus.Backlog(c, s)
	same(t, "Backlog", c, got, e, whole(26), api.OK)
	for _, call := range []func(api.Curve, api.Service) (api.Rat, api.Errno){minplus.Delay, minplus.Backlog} {
		got, e = call(c, service(whole(1), whole(3)))
		same(t, "of the Rate 1", c, got, e, api.Rat{}, api.ErrEver)
	}
	got, e = minplus.Bend(c, whole(1))
	same(t, "Bend", c, got, e, api.Rat{}, api.ErrEver)
}

func TestBendExamples(t *testing.T) {
	three := lines(0, 5, 4, 3, 10, 1) // it bends at 2 and at 3
	for _, c := range []struct {
		c    api.Curve
		rate api.Rat
		want api.Rat
		e    api.Errno
	}{
		{three, whole(6), whole(0), api.OK},
		{three, whole(5), whole(0), api.OK}, // the same Rate is not more
		{three, by(4999, 1000), whole(2), api.OK},
		{three, whole(4), whole(2), api.OK},
		{three, whole(3), whole(2), api.OK},
		{three, by(2999, 1000), whole(3), api.OK},
		{three, whole(1), whole(3), api.OK},
		{three, by(999, 1000), api.Rat{}, api.ErrEver},
		{three, by(1, 1000), api.Rat{}, api.ErrEver},
		{lines(0, 0), by(1, 1000), whole(0), api.OK},
		{lines(7, 1), whole(1), whole(0), api.OK},
		{lines(7, 2), whole(1), api.Rat{}, api.ErrEver},
		{lines(0, 1, 7, 0), by(1, 1000), whole(7), api.OK},
		{lines(0, mostLine, mostLine, 0), whole(api.MaxRate), whole(1), api.OK},
		{lines(0, mostLine, 1, mostLine-1), whole(api.MaxRate), api.Rat{}, api.ErrEver},
		{lines(0, 1, mostLine, 0), by(1, 2), whole(mostLine), api.OK},
		{lines(0, mostLine, 1, 0), by(1, 2), by(1, mostLine), api.OK},
		{lines(0, 999999937, 999999929, 1), whole(1), by(999999929, 999999936), api.OK},
		{bent(32), by(1, 2), whole(31), api.OK},
		{bent(32), by(61, 2), whole(1), api.OK},
	} {
		got, e := minplus.Bend(c.c, c.rate)
		same(t, "Bend", []any{c.c, c.rate}, got, e, c.want, c.e)
	}
}

// wide tells a curve with room behind it, filled.
func wide(c api.Curve) api.Curve {
	return append(slices.Clone(c), lines(-7, -7)...)[:len(c)]
}

// isUntouched fails if what was handed in is not what it was.
func isUntouched(t *testing.T, given, c api.Curve) {
	t.Helper()
	if !slices.Equal(given, c) || given[:len(c)+1][len(c)] != (api.Line{Burst: -7, Rate: -7}) {
		t.Fatalf("%v was changed to %v", c, given[:len(c)+1])
	}
}

// holds holds Bend, Delay and Backlog against what they must be.
func holds(t *testing.T, c api.Curve, s api.Service) (seen [3]api.Errno) {
	t.Helper()
	given, what := wide(c), []any{c, s}
	want, wantE := api.Rat{}, api.ErrEver
	if bend := bendOf(c, s.Rate); bend != nil {
		want, wantE = by(bend.Num().Int64(), bend.Denom().Int64()), api.OK
	}
	got, e := minplus.Bend(given, s.Rate)
	same(t, "Bend", what, got, e, want, wantE)
	seen[0] = e
	want, wantE = delay(c, s)
	got, e = minplus.Delay(given, s)
	same(t, "Delay", what, got, e, want, wantE)
	seen[1] = e
	want, wantE = backlog(c, s)
	got, e = minplus.Backlog(given, s)
	same(t, "Backlog", what, got, e, want, wantE)
	seen[2] = e
	isUntouched(t, given, c)
	return seen
}

func TestBendDelayBacklog(t *testing.T) {
	var seen [3]tally
	check := func(c api.Curve, s api.Service) {
		for i, e := range holds(t, c, s) {
			seen[i].add(e)
		}
	}
	for _, c := range curves() {
		for _, s := range services() {
			check(c, s)
		}
		for _, x := range c {
			if x.Rate >= 1 && x.Rate < api.MaxRate {
				check(c, service(whole(x.Rate), by(1, 3)))
				check(c, service(by(1000*x.Rate-1, 1000), by(1, 3)))
				check(c, service(by(1000*x.Rate+1, 1000), by(1, 3)))
			}
		}
	}
	r := source()
	for range 5000 {
		check(smallCurve(r), smallService(r))
		check(smallCurve(r), anyService(r))
		check(anyCurve(r, api.MaxRate), anyService(r))
		check(anyCurve(r, mostLine), anyService(r))
	}
	for i, n := range seen {
		if n.fine < 1000 || n.ever < 1000 || i > 0 && n.over < 100 {
			t.Errorf("seen: %+v", seen)
		}
	}
}

// Each of Delay's and Backlog's steps may be the one that can't be told.
func TestDelayAndBacklogOver(t *testing.T) {
	steep := lines(0, 999999937, 999999929, 1) // it bends at 999999929/999999936
	late := by(api.MaxTicks*999983-1, 999983)
	for _, c := range []struct {
		c              api.Curve
		s              api.Service
		delay, backlog api.Errno
	}{
		{steep, service(whole(1), whole(0)), api.OK, api.OK},
		{steep, service(by(999999, 1000), whole(0)), api.ErrOver, api.ErrOver},          // by the Rate; less the Rate times what it is more
		{steep, service(whole(2), by(1, 999983)), api.ErrOver, api.ErrOver},             // and Late; likewise
		{steep, service(whole(2), whole(1)), api.OK, api.OK},                            // Late is greater, and whole
		{steep, service(whole(2), by(1000000, 999983)), api.ErrOver, api.OK},            // it is greater, and the bend is no part of it
		{lines(0, mostLine, mostLine, 0), service(whole(1), late), api.OK, api.ErrOver}, // a line that is not the least
		{lines(mostLine, 0), service(whole(1), late), api.OK, api.OK},                   // no Rate, no product
		{lines(0, 5, 4, 3, 10, 1), service(by(999, 500), by(999982, 999983)), api.OK, api.OK},
	} {
		_, e := minplus.Delay(c.c, c.s)
		if e != c.delay {
			t.Errorf("Delay %v %v: %v, must be %v", c.c, c.s, e, c.delay)
		}
		_, e = minplus.Backlog(c.c, c.s)
		if e != c.backlog {
			t.Errorf("Backlog %v %v: %v, must be %v", c.c, c.s, e, c.backlog)
		}
		holds(t, c.c, c.s)
	}
}

func TestHighExamples(t *testing.T) {
	three := lines(0, 5, 4, 3, 10, 1)
	tiny := by(1, most)
	for _, c := range []struct {
		c     api.Curve
		ticks api.Rat
		want  api.Rat
		e     api.Errno
	}{
		{three, whole(0), whole(0), api.OK},
		{three, by(1, 3), by(5, 3), api.OK},
		{three, whole(2), whole(10), api.OK},
		{three, by(5, 2), by(23, 2), api.OK},
		{three, whole(3), whole(13), api.OK},
		{three, whole(4), whole(14), api.OK},
		{three, whole(api.MaxTicks), whole(api.MaxTicks + 10), api.OK},
		{lines(0, 0), tiny, whole(0), api.OK},
		{lines(7, 0), tiny, whole(7), api.OK},
		{lines(0, 1), tiny, tiny, api.OK},
		{lines(0, 7), tiny, by(1, most/7), api.OK},  // most is 7 times that
		{lines(1, 1), tiny, api.Rat{}, api.ErrOver}, // the sum
		{lines(0, 1, 1, 0), tiny, tiny, api.OK},
		{lines(0, mostLine, 1, 0), by(api.MaxTicks<<32-1, 1<<32), api.Rat{}, api.ErrOver}, // of a line that is not the least
		{lines(0, mostLine), whole(api.MaxTicks), whole(mostLine * api.MaxTicks), api.OK},
		{lines(mostLine, mostLine), whole(api.MaxTicks), whole(mostLine*api.MaxTicks + mostLine), api.OK},
		{lines(0, mostLine), by(api.MaxTicks<<32-1, 1<<32), api.Rat{}, api.ErrOver}, // the product
	} {
		got, e := minplus.High(c.c, c.ticks)
		same(t, "High", []any{c.c, c.ticks}, got, e, c.want, c.e)
	}
}

func TestHigh(t *testing.T) {
	var seen tally
	check := func(c api.Curve, ticks api.Rat) {
		var k reckoned
		want, wantE := k.answer(k.high(c, exact(ticks)))
		given := wide(c)
		got, e := minplus.High(given, ticks)
		same(t, "High", []any{c, ticks}, got, e, want, wantE)
		isUntouched(t, given, c)
		seen.add(e)
	}
	for _, c := range curves() {
		for _, x := range ticks() {
			check(c, x)
		}
	}
	r := source()
	for range 5000 {
		check(smallCurve(r), anyTicks(r, 1<<31))
		check(anyCurve(r, api.MaxRate), anyTicks(r, 1<<31))
		check(anyCurve(r, mostLine), anyTicks(r, 1<<31))
	}
	if seen.fine < 1000 || seen.over < 100 {
		t.Errorf("seen: %+v", seen)
	}
}

// At whole ticks it is as high as layer 3 says.
func TestHighAtWholeTicks(t *testing.T) {
	for _, c := range curves() {
		for _, n := range []int64{0, 1, 2, 3, 15, 31, mostLine, api.MaxTicks} {
			want, _ := curve.At(c, n)
			got, e := minplus.High(c, whole(n))
			same(t, "High", []any{c, n}, got, e, whole(want), api.OK)
		}
	}
}

// ErrArg is ahead of ErrEver and of ErrOver.
func TestCurveCallsNeedWhatMayBe(t *testing.T) {
	zero := api.Rat{}
	refused := func(c api.Curve, s api.Service) {
		got, e := minplus.Delay(c, s)
		same(t, "Delay", []any{c, s}, got, e, zero, api.ErrArg)
		got, e = minplus.Backlog(c, s)
		same(t, "Backlog", []any{c, s}, got, e, zero, api.ErrArg)
	}
	for _, c := range noCurves() {
		for _, s := range append(services(), api.Service{}, service(whole(1), whole(-1))) {
			refused(c, s)
			got, e := minplus.Bend(c, s.Rate)
			same(t, "Bend", []any{c, s}, got, e, zero, api.ErrArg)
		}
		for _, x := range append(ticks(), noTicks()...) {
			got, e := minplus.High(c, x)
			same(t, "High", []any{c, x}, got, e, zero, api.ErrArg)
		}
	}
	for _, c := range curves() {
		for _, s := range noServices() {
			refused(c, s)
		}
		for _, rate := range noRates() {
			got, e := minplus.Bend(c, rate)
			same(t, "Bend", []any{c, rate}, got, e, zero, api.ErrArg)
		}
		for _, x := range noTicks() {
			got, e := minplus.High(c, x)
			same(t, "High", []any{c, x}, got, e, zero, api.ErrArg)
		}
	}
}

// Where a curve has no end, that is told ahead of what can't be worked out.
func TestEverIsAheadOfOver(t *testing.T) {
	c := lines(0, mostLine, 999999929, 999999937)
	for _, s := range services() {
		got, e := minplus.Delay(c, s)
		same(t, "Delay", s, got, e, api.Rat{}, api.ErrEver)
		got, e = minplus.Backlog(c, s)
		same(t, "Backlog", s, got, e, api.Rat{}, api.ErrEver)
	}
}

// Whatever is handed in: each call ends, and beside an error there is nothing.
func TestAnyNumbersAtAll(t *testing.T) {
	r := source()
	edges := []int64{0, 1, -1, 2, 1000, 1001, 1000000, 1000001, api.MaxTicks, api.MaxTicks + 1, mostLine, mostLine + 1, most, -most, least, least + 1}
	one := func() int64 {
		if r.IntN(3) == 0 {
			return int64(r.Uint64())
		}
		return edges[r.IntN(len(edges))]
	}
	fraction := func() api.Rat { return by(one(), one()) }
	for range 100000 {
		c := lines(one(), one(), one(), one(), one(), one())[:r.IntN(4)]
		s, u := service(fraction(), fraction()), service(fraction(), fraction())
		x := fraction()
		for _, call := range []func() (api.Rat, api.Errno){
			func() (api.Rat, api.Errno) { return minplus.At(s, x) },
			func() (api.Rat, api.Errno) { return minplus.Bend(c, x) },
			func() (api.Rat, api.Errno) { return minplus.High(c, x) },
			func() (api.Rat, api.Errno) { return minplus.Delay(c, s) },
			func() (api.Rat, api.Errno) { return minplus.Backlog(c, s) },
		} {
			got, e := call()
			if (e == api.OK) != (rat.Check(got) == api.OK) || e != api.OK && got != (api.Rat{}) {
				t.Fatalf("%v %v %v: %v, %v", c, s, x, got, e)
			}
		}
		got, e := minplus.Join(s, u)
		if (e == api.OK) != (minplus.Check(got) == api.OK) || e != api.OK && got != (api.Service{}) {
			t.Fatalf("Join %v %v: %v, %v", s, u, got, e)
		}
	}
}

// P4.3: what follows is asked of the program's own answers.

// fine tells an answer that must be there.
func fine[T any](t *testing.T, x T, e api.Errno) T {
	t.Helper()
	if e != api.OK {
		t.Fatalf("there must be an answer, not %v", e)
	}
	return x
}

// isMore tells whether one is more than another.
func isMore(t *testing.T, a, b api.Rat) bool {
	t.Helper()
	n, e := rat.Cmp(a, b)
	return fine(t, n, e) > 0
}

func plus(t *testing.T, a, b api.Rat) api.Rat {
	t.Helper()
	x, e := rat.Add(a, b)
	return fine(t, x, e)
}

func minus(t *testing.T, a, b api.Rat) api.Rat {
	t.Helper()
	x, e := rat.Sub(a, b)
	return fine(t, x, e)
}

func highOf(t *testing.T, c api.Curve, at api.Rat) api.Rat {
	t.Helper()
	x, e := minplus.High(c, at)
	return fine(t, x, e)
}

func servedOf(t *testing.T, s api.Service, at api.Rat) api.Rat {
	t.Helper()
	x, e := minplus.At(s, at)
	return fine(t, x, e)
}

// times tells some at which what came is held against what is served.
func times(r *rand.Rand, c api.Curve, s api.Service) []api.Rat {
	out := []api.Rat{whole(0), by(1, 1000), s.Late, whole(1), whole(1000)}
	for _, x := range bends(c) {
		out = append(out, by(x.Num().Int64(), x.Denom().Int64()))
	}
	for range 5 {
		out = append(out, made(r.Int64N(400), 1+r.Int64N(6)))
	}
	return out
}

// ended tells a curve and a service that it does not run away from.
func ended(r *rand.Rand) (api.Curve, api.Service) {
	for {
		c, s := smallCurve(r), smallService(r)
		if _, e := minplus.Bend(c, s.Rate); e == api.OK {
			return c, s
		}
	}
}

func TestNothingIsLaterAndNoMoreWaits(t *testing.T) {
	r := source()
	for range 5000 {
		c, s := ended(r)
		d, e := minplus.Delay(c, s)
		fine(t, d, e)
		waits, e := minplus.Backlog(c, s)
		fine(t, waits, e)
		for _, at := range times(r, c, s) {
			came := highOf(t, c, at)
			if isMore(t, came, servedOf(t, s, plus(t, at, d))) {
				t.Fatalf("%v %v: at %v more came than is served %v later", c, s, at, d)
			}
			if isMore(t, minus(t, came, servedOf(t, s, at)), waits) {
				t.Fatalf("%v %v: at %v more waits than %v", c, s, at, waits)
			}
		}
	}
}

func TestNeitherWouldDoWithLess(t *testing.T) {
	r := source()
	less := by(1, 1000)
	for range 5000 {
		c, s := ended(r)
		if slices.Equal(c, lines(0, 0)) {
			continue // nothing ever comes: whatever is said does
		}
		d, e := minplus.Delay(c, s)
		fine(t, d, e)
		waits, e := minplus.Backlog(c, s)
		fine(t, waits, e)
		isLater, isAsMuch := !isMore(t, d, less), false
		for _, at := range append(times(r, c, s), by(1, 2000)) {
			came := highOf(t, c, at)
			isLater = isLater || isMore(t, came, servedOf(t, s, minus(t, plus(t, at, d), less)))
			isAsMuch = isAsMuch || minus(t, came, servedOf(t, s, at)) == waits
		}
		if !isLater || !isAsMuch {
			t.Fatalf("%v %v: less than %v, %v would do", c, s, d, waits)
		}
	}
}

// The chapter's words tell a Delay also of what never comes: Late.
func TestWhatNeverComesIsAsLateAsTheService(t *testing.T) {
	for _, s := range services() {
		got, e := minplus.Delay(lines(0, 0), s)
		same(t, "Delay", s, got, e, s.Late, api.OK)
		got, e = minplus.Backlog(lines(0, 0), s)
		same(t, "Backlog", s, got, e, whole(0), api.OK)
	}
}

func TestTwoServicesAreNoLaterThanEachTogether(t *testing.T) {
	r := source()
	found := 0
	for range 5000 {
		c, a := ended(r)
		b := smallService(r)
		second, e := minplus.Delay(c, b)
		if e == api.ErrEver {
			continue
		}
		fine(t, second, e)
		first, e := minplus.Delay(c, a)
		fine(t, first, e)
		one, e := minplus.Join(a, b)
		fine(t, one, e)
		both, e := minplus.Delay(c, one)
		if isMore(t, fine(t, both, e), plus(t, first, second)) {
			t.Fatalf("%v %v %v: %v is more than %v and %v", c, a, b, both, first, second)
		}
		found++
	}
	if found < 1000 {
		t.Errorf("only %d were there", found)
	}
}

// What one service has served goes to the other one: of all ways to part the
// ticks between both, the one by which least is served tells what both serve.
func TestTwoServicesAreAsOne(t *testing.T) {
	r := source()
	for range 5000 {
		a, b := smallService(r), smallService(r)
		one, e := minplus.Join(a, b)
		fine(t, one, e)
		at := made(r.Int64N(400), 1+r.Int64N(6))
		low := servedOf(t, b, at)
		for _, part := range []api.Rat{at, a.Late, minus(t, at, b.Late), made(at.N, 2*at.D), made(at.N, 3*at.D)} {
			if part.N < 0 || isMore(t, part, at) {
				continue
			}
			if n := plus(t, servedOf(t, a, part), servedOf(t, b, minus(t, at, part))); isMore(t, low, n) {
				low = n
			}
		}
		if got := servedOf(t, one, at); got != low {
			t.Fatalf("%v %v at %v: %v, must be %v", a, b, at, got, low)
		}
	}
}
