package rat_test

import (
	"math"
	"math/big"
	"math/rand/v2"
	"regexp"
	"slices"
	"strconv"
	"strings"
	"testing"

	"postroad/api"
	"postroad/rat"
)

// The tests hold each answer against math/big, which has no bound.

const (
	most  = math.MaxInt64
	least = math.MinInt64
)

var nought = api.Rat{D: 1}

func whole(n int64) api.Rat { return api.Rat{N: n, D: 1} }

// nones are no fractions, each for another reason.
func nones() []api.Rat {
	return []api.Rat{
		{}, {N: 1}, {N: -1}, {N: least}, {N: most}, // by nought
		{N: 1, D: -1}, {N: 0, D: -1}, {N: 3, D: -2}, {N: 1, D: least}, {N: least, D: least}, {N: 1, D: -most}, // D below nought
		{N: 0, D: 2}, {N: 0, D: most}, // another nought
		{N: 2, D: 4}, {N: -2, D: 4}, {N: 6, D: 3}, {N: -6, D: 3}, {N: 3, D: 3}, {N: -3, D: 3}, // a common divisor
		{N: most, D: most}, {N: -most, D: most}, {N: most, D: 7}, {N: -most, D: 7}, {N: 1 << 62, D: 1 << 62},
		{N: least, D: 1}, {N: least, D: 2}, {N: least, D: 3}, {N: least, D: most}, // N too far below
	}
}

// numbers are some that stand at the edges of halves and wholes of a word.
func numbers() []int64 {
	return []int64{
		1, 2, 3, 4, 5, 6, 7, 12, 30, 1000000, 10000000,
		1<<31 - 1, 1 << 31, 1<<31 + 1, 1<<32 - 1, 1 << 32, 1<<32 + 1,
		3037000499, 3037000500, 1 << 61, 1<<62 - 1, 1 << 62, 1<<62 + 1, most / 3, most / 7, most - 2, most - 1, most,
	}
}

// fractions are nought and those of these numbers, of both signs.
func fractions() []api.Rat {
	out := []api.Rat{nought}
	for i, n := range numbers() {
		for j, d := range numbers() {
			small := i < 6 && j < 6
			if (small || (i+2*j)%5 == 0 || d == 1 || n == 1 || d == most || n == most) && common(n, d) == 1 {
				out = append(out, api.Rat{N: n, D: d}, api.Rat{N: -n, D: d})
			}
		}
	}
	return out
}

func common(a, b int64) int64 {
	return new(big.Int).GCD(nil, nil, big.NewInt(a), big.NewInt(b)).Int64()
}

func exact(x api.Rat) *big.Rat { return big.NewRat(x.N, x.D) }

// as tells what must be answered where that was worked out.
func as(x *big.Rat) (api.Rat, api.Errno) {
	bound := big.NewInt(most)
	if x.Num().CmpAbs(bound) > 0 || x.Denom().Cmp(bound) > 0 {
		return api.Rat{}, api.ErrOver
	}
	return api.Rat{N: x.Num().Int64(), D: x.Denom().Int64()}, api.OK
}

// same fails unless a call answered what it must.
func same[T comparable](t *testing.T, what string, got T, e api.Errno, want T, wantE api.Errno) {
	t.Helper()
	if got != want || e != wantE {
		t.Fatalf("%s: %v, %v; must be %v, %v", what, got, e, want, wantE)
	}
}

// name tells a call, so that a failure says which one it was.
func name(call string, l ...api.Rat) string {
	for _, x := range l {
		call += " " + strconv.FormatInt(x.N, 10) + "/" + strconv.FormatInt(x.D, 10)
	}
	return call
}

// source is the same in each run.
func source() *rand.Rand { return rand.New(rand.NewPCG(1, 2)) }

// number tells one of any length, of both signs.
func number(r *rand.Rand) int64 {
	n := int64(r.Uint64() >> (1 + r.IntN(63)))
	if r.IntN(2) == 0 {
		return -n
	}
	return n
}

func anyFraction(r *rand.Rand) api.Rat {
	for {
		if d := number(r); d > 0 {
			x, _ := as(big.NewRat(number(r), d))
			return x
		}
	}
}

// P1.1

func TestCheck(t *testing.T) {
	for _, x := range fractions() {
		if e := rat.Check(x); e != api.OK {
			t.Errorf("%s: %v", name("Check", x), e)
		}
	}
	for _, x := range nones() {
		if e := rat.Check(x); e != api.ErrArg {
			t.Errorf("%s: %v", name("Check", x), e)
		}
	}
}

func TestCheckAllSmall(t *testing.T) {
	for n := int64(-40); n <= 40; n++ {
		for d := int64(-40); d <= 40; d++ {
			want := api.ErrArg
			if d > 0 && common(max(n, -n), d) == 1 {
				want = api.OK
			}
			if e := rat.Check(api.Rat{N: n, D: d}); e != want {
				t.Errorf("Check %d/%d: %v", n, d, e)
			}
		}
	}
}

func TestMakeExamples(t *testing.T) {
	for _, c := range []struct {
		n, d int64
		want api.Rat
		e    api.Errno
	}{
		{6, -4, api.Rat{N: -3, D: 2}, api.OK},
		{-6, -4, api.Rat{N: 3, D: 2}, api.OK},
		{0, 7, nought, api.OK},
		{0, -7, nought, api.OK},
		{0, least, nought, api.OK},
		{1, 0, api.Rat{}, api.ErrArg},
		{0, 0, api.Rat{}, api.ErrArg},
		{least, 0, api.Rat{}, api.ErrArg},
		{least, 1, api.Rat{}, api.ErrOver},
		{least, -1, api.Rat{}, api.ErrOver},
		{least, 3, api.Rat{}, api.ErrOver},
		{least, most, api.Rat{}, api.ErrOver},
		{1, least, api.Rat{}, api.ErrOver},
		{-1, least, api.Rat{}, api.ErrOver},
		{most, least, api.Rat{}, api.ErrOver},
		{least, least, whole(1), api.OK},
		{least, 2, whole(-1 << 62), api.OK},
		{least, -2, whole(1 << 62), api.OK},
		{2, least, api.Rat{N: -1, D: 1 << 62}, api.OK},
		{-6, least, api.Rat{N: 3, D: 1 << 62}, api.OK},
		{most, 1, whole(most), api.OK},
		{most, -1, whole(-most), api.OK},
		{-most, -1, whole(most), api.OK},
		{1, -most, api.Rat{N: -1, D: most}, api.OK},
		{most, most, whole(1), api.OK},
	} {
		got, e := rat.Make(c.n, c.d)
		same(t, name("Make", api.Rat{N: c.n, D: c.d}), got, e, c.want, c.e)
	}
}

func TestMake(t *testing.T) {
	check := func(n, d int64) {
		want, wantE := api.Rat{}, api.ErrArg
		if d != 0 {
			want, wantE = as(new(big.Rat).SetFrac(big.NewInt(n), big.NewInt(d)))
		}
		got, e := rat.Make(n, d)
		same(t, name("Make", api.Rat{N: n, D: d}), got, e, want, wantE)
	}
	edges := append(numbers(), 0, least, least+1, least+2)
	for _, n := range edges {
		for _, d := range edges {
			check(n, d)
			check(-n, d)
			check(n, -d)
			check(-n, -d)
		}
	}
	r := source()
	for range 20000 {
		g := number(r) % 1000
		check(number(r), number(r))
		check(number(r)/1000*g, number(r)/1000*g)
	}
}

// operation is one of two fractions, and the same without a bound.
type operation struct {
	name string
	call func(a, b api.Rat) (api.Rat, api.Errno)
	full func(z, a, b *big.Rat) *big.Rat
}

func operations() []operation {
	return []operation{
		{"Add", rat.Add, (*big.Rat).Add},
		{"Sub", rat.Sub, (*big.Rat).Sub},
		{"Mul", rat.Mul, (*big.Rat).Mul},
		{"Div", rat.Div, (*big.Rat).Quo},
	}
}

// hold holds an operation on two fractions against the full one.
func (o operation) hold(t *testing.T, a, b api.Rat) {
	t.Helper()
	want, wantE := api.Rat{}, api.ErrArg
	if o.name != "Div" || b.N != 0 {
		want, wantE = as(o.full(new(big.Rat), exact(a), exact(b)))
	}
	got, e := o.call(a, b)
	same(t, name(o.name, a, b), got, e, want, wantE)
}

func TestOperations(t *testing.T) {
	l := fractions()
	for _, o := range operations() {
		for _, a := range l {
			for _, b := range l {
				o.hold(t, a, b)
			}
		}
		r := source()
		for range 20000 {
			o.hold(t, anyFraction(r), anyFraction(r))
		}
	}
}

// The answer fits, though what is on the way to it needs more than a word.
func TestOperationsWideOnTheWay(t *testing.T) {
	r := source()
	seen := 0
	for range 100000 {
		x, b := anyFraction(r), anyFraction(r)
		if a, e := as(new(big.Rat).Sub(exact(x), exact(b))); e == api.OK {
			got, e := rat.Add(a, b)
			same(t, name("Add", a, b), got, e, x, api.OK)
			seen++
		}
		if a, e := as(new(big.Rat).Add(exact(x), exact(b))); e == api.OK {
			got, e := rat.Sub(a, b)
			same(t, name("Sub", a, b), got, e, x, api.OK)
		}
		if b.N == 0 {
			continue
		}
		if a, e := as(new(big.Rat).Quo(exact(x), exact(b))); e == api.OK {
			got, e := rat.Mul(a, b)
			same(t, name("Mul", a, b), got, e, x, api.OK)
		}
		if a, e := as(new(big.Rat).Mul(exact(x), exact(b))); e == api.OK {
			got, e := rat.Div(a, b)
			same(t, name("Div", a, b), got, e, x, api.OK)
		}
	}
	if seen < 1000 {
		t.Errorf("only %d sums fit", seen)
	}
}

func TestOperationsExamples(t *testing.T) {
	half, third := api.Rat{N: 1, D: 2}, api.Rat{N: 1, D: 3}
	tiny := api.Rat{N: 1, D: most}
	l := operations()
	add, sub, mul, div := l[0], l[1], l[2], l[3]
	for _, c := range []struct {
		o    operation
		a, b api.Rat
		want api.Rat
		e    api.Errno
	}{
		{add, half, third, api.Rat{N: 5, D: 6}, api.OK},
		{add, half, half, whole(1), api.OK},
		{add, api.Rat{N: most, D: 2}, api.Rat{N: most, D: 2}, whole(most), api.OK},
		{add, whole(most), whole(1), api.Rat{}, api.ErrOver},
		{add, whole(-most), whole(-1), api.Rat{}, api.ErrOver},
		{add, whole(most - 1), whole(1), whole(most), api.OK},
		{add, whole(most), whole(-most), nought, api.OK},
		{add, api.Rat{N: most - 1, D: most}, tiny, whole(1), api.OK},
		{add, tiny, half, api.Rat{}, api.ErrOver},
		{sub, half, third, api.Rat{N: 1, D: 6}, api.OK},
		{sub, half, half, nought, api.OK},
		{sub, nought, whole(most), whole(-most), api.OK},
		{sub, nought, whole(-most), whole(most), api.OK},
		{sub, whole(-most), whole(1), api.Rat{}, api.ErrOver},
		{mul, half, api.Rat{N: 2, D: 3}, third, api.OK},
		{mul, tiny, whole(most), whole(1), api.OK},
		{mul, tiny, nought, nought, api.OK},
		{mul, whole(-1), whole(-most), whole(most), api.OK},
		{mul, whole(1 << 32), whole(1 << 31), api.Rat{}, api.ErrOver},
		{mul, whole(1 << 32), whole(1 << 30), whole(1 << 62), api.OK},
		{mul, tiny, half, api.Rat{}, api.ErrOver},
		{mul, whole(1 << 32), whole(1 << 32), api.Rat{}, api.ErrOver}, // the lower word alone is nought
		{div, half, nought, api.Rat{}, api.ErrArg},
		{div, nought, nought, api.Rat{}, api.ErrArg},
		{div, nought, half, nought, api.OK},
		{div, nought, whole(-most), nought, api.OK},
		{div, half, third, api.Rat{N: 3, D: 2}, api.OK},
		{div, half, api.Rat{N: -1, D: 3}, api.Rat{N: -3, D: 2}, api.OK},
		{div, whole(1), whole(-most), api.Rat{N: -1, D: most}, api.OK},
		{div, whole(-most), whole(-most), whole(1), api.OK},
		{div, whole(most), half, api.Rat{}, api.ErrOver},
	} {
		got, e := c.o.call(c.a, c.b)
		same(t, name(c.o.name, c.a, c.b), got, e, c.want, c.e)
	}
}

// What is no fraction is ErrArg at each place, also where ErrOver applies.
func TestOperationsOfNone(t *testing.T) {
	right := []api.Rat{nought, whole(1), whole(-3), whole(most), whole(-most), {N: 1, D: most}, {N: 1, D: 2}}
	for _, o := range operations() {
		for _, none := range nones() {
			for _, x := range append(right, nones()...) {
				got, e := o.call(none, x)
				same(t, name(o.name, none, x), got, e, api.Rat{}, api.ErrArg)
				got, e = o.call(x, none)
				same(t, name(o.name, x, none), got, e, api.Rat{}, api.ErrArg)
			}
		}
	}
}

func TestSum(t *testing.T) {
	half := api.Rat{N: 1, D: 2}
	tiny := api.Rat{N: 1, D: most}
	for _, c := range []struct {
		l    []api.Rat
		want api.Rat
		e    api.Errno
	}{
		{nil, nought, api.OK},
		{[]api.Rat{}, nought, api.OK},
		{[]api.Rat{half}, half, api.OK},
		{[]api.Rat{nought}, nought, api.OK},
		{[]api.Rat{half, {N: 1, D: 3}, {N: 1, D: 6}}, whole(1), api.OK},
		{[]api.Rat{whole(most), whole(-1), whole(1)}, whole(most), api.OK},
		{[]api.Rat{whole(most), whole(1), whole(-1)}, api.Rat{}, api.ErrOver}, // over on the way
		{[]api.Rat{whole(-most), whole(-1), whole(1)}, api.Rat{}, api.ErrOver},
		{[]api.Rat{tiny, half, {N: -1, D: 2}}, api.Rat{}, api.ErrOver},
		{[]api.Rat{half, {N: -1, D: 2}, tiny}, tiny, api.OK},
		{[]api.Rat{whole(most), whole(1), {}}, api.Rat{}, api.ErrArg}, // ahead of ErrOver, wherever it stands
		{[]api.Rat{{N: 2, D: 4}, whole(most), whole(1)}, api.Rat{}, api.ErrArg},
	} {
		got, e := rat.Sum(c.l...)
		same(t, name("Sum", c.l...), got, e, c.want, c.e)
	}
	for _, none := range nones() {
		for _, l := range [][]api.Rat{{none}, {none, half, half}, {half, none, half}, {half, half, none}} {
			got, e := rat.Sum(l...)
			same(t, name("Sum", l...), got, e, api.Rat{}, api.ErrArg)
		}
	}
}

func TestSumOneAfterTheOther(t *testing.T) {
	r := source()
	l := fractions()
	fine := 0
	for range 20000 {
		list := make([]api.Rat, r.IntN(6))
		want, wantE := nought, api.OK
		for i := range list {
			if list[i] = anyFraction(r); r.IntN(2) == 0 {
				list[i] = l[r.IntN(len(l))]
			}
			if wantE == api.OK {
				want, wantE = as(new(big.Rat).Add(exact(want), exact(list[i])))
			}
		}
		if wantE == api.OK && len(list) > 2 {
			fine++
		}
		got, e := rat.Sum(list...)
		same(t, name("Sum", list...), got, e, want, wantE)
	}
	if fine < 100 {
		t.Errorf("only %d long sums fit", fine)
	}
}

func TestSumOfMany(t *testing.T) {
	l := slices.Repeat([]api.Rat{{N: 1, D: 4}}, 100001)
	got, e := rat.Sum(l...)
	same(t, "Sum of many", got, e, api.Rat{N: 100001, D: 4}, api.OK)
	l[len(l)-1] = api.Rat{N: 2, D: 4}
	got, e = rat.Sum(l...)
	same(t, "Sum of many", got, e, api.Rat{}, api.ErrArg)
}

// P1.2

func TestCmp(t *testing.T) {
	check := func(a, b api.Rat) {
		got, e := rat.Cmp(a, b)
		same(t, name("Cmp", a, b), got, e, exact(a).Cmp(exact(b)), api.OK)
	}
	l := fractions()
	for _, a := range l {
		for _, b := range l {
			check(a, b)
		}
	}
	r := source()
	for range 20000 {
		check(anyFraction(r), anyFraction(r))
	}
	// they differ in the lower word of their products alone
	check(api.Rat{N: most - 1, D: most}, api.Rat{N: most - 2, D: most - 1})
	check(api.Rat{N: 1 - most, D: most}, api.Rat{N: 2 - most, D: most - 1})
	for _, none := range nones() {
		for _, x := range append(nones(), nought, whole(-1), whole(most)) {
			got, e := rat.Cmp(none, x)
			same(t, name("Cmp", none, x), got, e, 0, api.ErrArg)
			got, e = rat.Cmp(x, none)
			same(t, name("Cmp", x, none), got, e, 0, api.ErrArg)
		}
	}
}

func TestLeastGreatest(t *testing.T) {
	r := source()
	all := fractions()
	for range 5000 {
		l := make([]api.Rat, 1+r.IntN(7))
		for i := range l {
			if l[i] = anyFraction(r); r.IntN(3) == 0 {
				l[i] = all[r.IntN(len(all))]
			}
		}
		by := func(a, b api.Rat) int { return exact(a).Cmp(exact(b)) }
		got, e := rat.Least(l...)
		same(t, name("Least", l...), got, e, slices.MinFunc(l, by), api.OK)
		got, e = rat.Greatest(l...)
		same(t, name("Greatest", l...), got, e, slices.MaxFunc(l, by), api.OK)
	}
}

func TestLeastGreatestRefuse(t *testing.T) {
	half := api.Rat{N: 1, D: 2}
	lists := [][]api.Rat{nil, {}}
	for _, none := range nones() {
		lists = append(lists, []api.Rat{none}, []api.Rat{none, half, nought}, []api.Rat{half, none, nought}, []api.Rat{half, nought, none})
	}
	for _, l := range lists {
		got, e := rat.Least(l...)
		same(t, name("Least", l...), got, e, api.Rat{}, api.ErrArg)
		got, e = rat.Greatest(l...)
		same(t, name("Greatest", l...), got, e, api.Rat{}, api.ErrArg)
	}
}

func TestLeastGreatestEdges(t *testing.T) {
	l := []api.Rat{whole(-1), {N: -1, D: most}, nought, {N: 1, D: most}, whole(-most), whole(most), {N: most, D: 2}}
	for range len(l) {
		l = append(l[1:], l[0])
		got, e := rat.Least(l...)
		same(t, name("Least", l...), got, e, whole(-most), api.OK)
		got, e = rat.Greatest(l...)
		same(t, name("Greatest", l...), got, e, whole(most), api.OK)
	}
	got, e := rat.Least(nought)
	same(t, "Least of one", got, e, nought, api.OK)
	got, e = rat.Greatest(whole(-3))
	same(t, "Greatest of one", got, e, whole(-3), api.OK)
}

func TestFloorCeilExamples(t *testing.T) {
	for _, c := range []struct {
		x           api.Rat
		floor, ceil int64
	}{
		{api.Rat{N: -3, D: 2}, -2, -1},
		{api.Rat{N: 3, D: 2}, 1, 2},
		{nought, 0, 0},
		{whole(5), 5, 5},
		{whole(-5), -5, -5},
		{api.Rat{N: 1, D: most}, 0, 1},
		{api.Rat{N: -1, D: most}, -1, 0},
		{whole(most), most, most},
		{whole(-most), -most, -most},
		{api.Rat{N: most, D: 2}, 1<<62 - 1, 1 << 62},
		{api.Rat{N: -most, D: 2}, -1 << 62, 1 - 1<<62},
		{api.Rat{N: most - 1, D: most}, 0, 1},
		{api.Rat{N: 1 - most, D: most}, -1, 0},
	} {
		got, e := rat.Floor(c.x)
		same(t, name("Floor", c.x), got, e, c.floor, api.OK)
		got, e = rat.Ceil(c.x)
		same(t, name("Ceil", c.x), got, e, c.ceil, api.OK)
	}
	for _, none := range nones() {
		got, e := rat.Floor(none)
		same(t, name("Floor", none), got, e, 0, api.ErrArg)
		got, e = rat.Ceil(none)
		same(t, name("Ceil", none), got, e, 0, api.ErrArg)
	}
}

func TestFloorCeil(t *testing.T) {
	check := func(x api.Rat) {
		n, d := big.NewInt(x.N), big.NewInt(x.D)
		floor := new(big.Int).Div(n, d).Int64() // rounds down, as D is above nought
		ceil := -new(big.Int).Div(n.Neg(n), d).Int64()
		got, e := rat.Floor(x)
		same(t, name("Floor", x), got, e, floor, api.OK)
		got, e = rat.Ceil(x)
		same(t, name("Ceil", x), got, e, ceil, api.OK)
	}
	for _, x := range fractions() {
		check(x)
	}
	r := source()
	for range 20000 {
		check(anyFraction(r))
	}
}

// P1.3

func wantText(x api.Rat) string { return strings.TrimSuffix(exact(x).String(), "/1") }

func TestText(t *testing.T) {
	for _, c := range []struct {
		x    api.Rat
		want string
	}{
		{nought, "0"},
		{whole(1), "1"},
		{whole(-1), "-1"},
		{api.Rat{N: 5, D: 6}, "5/6"},
		{api.Rat{N: -3, D: 2}, "-3/2"},
		{whole(most), "9223372036854775807"},
		{whole(-most), "-9223372036854775807"},
		{api.Rat{N: 1 - most, D: most}, "-9223372036854775806/9223372036854775807"},
	} {
		got, e := rat.Text(c.x)
		same(t, name("Text", c.x), got, e, c.want, api.OK)
	}
	for _, x := range fractions() {
		got, e := rat.Text(x)
		same(t, name("Text", x), got, e, wantText(x), api.OK)
	}
	for _, none := range nones() {
		got, e := rat.Text(none)
		same(t, name("Text", none), got, e, "", api.ErrArg)
	}
}

// wantParse tells what a text is, by another way than the program's.
func wantParse(s string) (api.Rat, api.Errno) {
	if len(s) > 100 || !form.MatchString(s) {
		return api.Rat{}, api.ErrRat
	}
	x, _ := new(big.Rat).SetString(s)
	if got, e := as(x); e == api.OK && wantText(got) == s {
		return got, api.OK
	}
	return api.Rat{}, api.ErrRat
}

var form = regexp.MustCompile(`^(0|-?[1-9][0-9]*)(/[1-9][0-9]*)?\z`)

func holdParse(t *testing.T, s string) {
	t.Helper()
	want, wantE := wantParse(s)
	got, e := rat.Parse(s)
	if len(s) > 100 {
		s = s[:100]
	}
	same(t, "Parse "+strconv.Quote(s), got, e, want, wantE)
}

func TestParseExamples(t *testing.T) {
	for s, want := range map[string]api.Rat{
		"0": nought, "1": whole(1), "-1": whole(-1), "10": whole(10), "100/101": {N: 100, D: 101},
		"-3/2": {N: -3, D: 2}, "1/2": {N: 1, D: 2},
		"9223372036854775807":                      whole(most),
		"-9223372036854775807":                     whole(-most),
		"-9223372036854775806/9223372036854775807": {N: 1 - most, D: most},
	} {
		got, e := rat.Parse(s)
		same(t, "Parse "+s, got, e, want, api.OK)
	}
	for _, s := range []string{
		"", "-", "/", "//", "1/", "/2", "-/2", "1/2/", "/1/2", "1/2/3", "1//2", "--1", "1-", "1/-",
		"2/4", "-2/4", "0/1", "0/2", "3/1", "-3/1", "6/3", "3/3",
		"1/0", "0/0", "-1/0", "1/-2", "-1/-2", "0/-1",
		"-0", "00", "01", "-01", "01/2", "1/02", "-03/2", "000", "-0/1",
		"+1", "+3/2", "1/+2", "-+1", "+", "+0",
		" 1", "1 ", "1 /2", "1/ 2", "\t1", "1\n", "1\x00", "\x001", "- 1", "1/2\n", "1 2",
		"1_000", "0x10", "0b1", "0o7", "1e3", "1.0", ".5", "1/2.", "1,0", "a", "1a", "1/a", "inf", "nan",
		"\u0661", "\uff11", "\u00bd", "1\u22152", "\u22121", "\xff", "1\xff", "1/\x80", "1\xc0\xaf2",
		"9223372036854775808", "-9223372036854775808", "-9223372036854775809",
		"1/9223372036854775808", "1/18446744073709551617", "18446744073709551617", "18446744073709551616",
		"-9223372036854775808/3", "9223372036854775807/9223372036854775807", "9223372036854775808/2",
		strings.Repeat("0", 1<<16), strings.Repeat("9", 1<<16), strings.Repeat("-", 1<<16), strings.Repeat("/", 1<<16),
		strings.Repeat("1/", 1<<16), strings.Repeat("0", 1<<16) + "1", "1/" + strings.Repeat("0", 1<<16) + "2",
	} {
		got, e := rat.Parse(s)
		same(t, "Parse "+strconv.Quote(s[:min(len(s), 100)]), got, e, api.Rat{}, api.ErrRat)
		holdParse(t, s)
	}
}

// All texts of a few letters, and all that are one letter off from a right one.
func TestParse(t *testing.T) {
	texts := []string{""}
	for range 5 {
		var longer []string
		for _, s := range texts {
			for _, letter := range "-/0124+ " {
				longer = append(longer, s+string(letter))
				holdParse(t, s+string(letter))
			}
		}
		texts = longer
	}
	for _, x := range fractions() {
		s := wantText(x)
		holdParse(t, s)
		for i := range len(s) + 1 {
			for _, letter := range []string{"0", "7", "-", "/", "+", " ", "_", "\xff"} {
				holdParse(t, s[:i]+letter+s[i:])
				if i < len(s) {
					holdParse(t, s[:i]+letter+s[i+1:])
				}
			}
			if i < len(s) {
				holdParse(t, s[:i]+s[i+1:])
			}
		}
	}
}

// P1.4

// some are few enough to take three of them at a time.
func some() []api.Rat {
	out := []api.Rat{nought, whole(most), whole(-most), whole(most - 1), {N: 1, D: most}, {N: -1, D: most}, {N: most, D: 2}, {N: 1 << 32, D: 3}, {N: 3, D: 1 << 32}, {N: -5, D: 1 << 31}}
	for n := int64(-4); n <= 4; n++ {
		for d := int64(1); d <= 4; d++ {
			if x, e := as(big.NewRat(n, d)); e == api.OK && !slices.Contains(out, x) {
				out = append(out, x)
			}
		}
	}
	return out
}

func TestOrderOfTwo(t *testing.T) {
	l := fractions()
	for _, a := range l {
		for _, b := range l {
			for _, o := range operations() {
				if o.name != "Add" && o.name != "Mul" {
					continue
				}
				x, e := o.call(a, b)
				y, f := o.call(b, a)
				same(t, name(o.name, a, b), x, e, y, f)
			}
		}
	}
}

func TestOrderOfThree(t *testing.T) {
	l := some()
	for _, a := range l {
		for _, b := range l {
			for _, c := range l {
				for _, o := range operations() {
					if o.name == "Add" || o.name == "Mul" {
						holdOrder(t, o, a, b, c)
					}
				}
				holdOver(t, a, b, c)
				holdSum(t, a, b, c)
			}
		}
	}
}

// holdOrder: (a o b) o c is a o (b o c), where no step is ErrOver.
func holdOrder(t *testing.T, o operation, a, b, c api.Rat) {
	t.Helper()
	ab, e1 := o.call(a, b)
	bc, e2 := o.call(b, c)
	if e1 != api.OK || e2 != api.OK {
		return
	}
	x, e := o.call(ab, c)
	y, f := o.call(a, bc)
	same(t, name(o.name, a, b, c), x, e, y, f)
}

// holdOver: a product goes over a sum.
func holdOver(t *testing.T, a, b, c api.Rat) {
	t.Helper()
	sum, e1 := rat.Add(b, c)
	ab, e2 := rat.Mul(a, b)
	ac, e3 := rat.Mul(a, c)
	if e1 != api.OK || e2 != api.OK || e3 != api.OK {
		return
	}
	x, e := rat.Mul(a, sum)
	y, f := rat.Add(ab, ac)
	same(t, name("Mul over Add", a, b, c), x, e, y, f)
}

// holdSum: all orders in which no step is ErrOver tell the same sum.
func holdSum(t *testing.T, a, b, c api.Rat) {
	t.Helper()
	want, wantE := as(new(big.Rat).Add(exact(a), new(big.Rat).Add(exact(b), exact(c))))
	for _, l := range [][]api.Rat{{a, b, c}, {a, c, b}, {b, a, c}, {b, c, a}, {c, a, b}, {c, b, a}} {
		if got, e := rat.Sum(l...); e != api.ErrOver {
			same(t, name("Sum", l...), got, e, want, wantE)
		}
	}
}

func TestTakenAwayAgain(t *testing.T) {
	l := fractions()
	for _, a := range l {
		for _, b := range l {
			if sum, e := rat.Add(a, b); e == api.OK {
				got, e := rat.Sub(sum, b)
				same(t, name("Add, Sub", a, b), got, e, a, api.OK)
			}
			if product, e := rat.Mul(a, b); e == api.OK && b.N != 0 {
				got, e := rat.Div(product, b)
				same(t, name("Mul, Div", a, b), got, e, a, api.OK)
			}
		}
	}
}

// Of two fractions one is less, or they are the same, and just then their
// difference is nought.
func TestOneIsLess(t *testing.T) {
	l := fractions()
	for _, a := range l {
		for _, b := range l {
			x, e := rat.Cmp(a, b)
			y, f := rat.Cmp(b, a)
			if e != api.OK || f != api.OK || x != -y || x < -1 || x > 1 || (x == 0) != (a == b) {
				t.Fatalf("%s: %d %v, back %d %v", name("Cmp", a, b), x, e, y, f)
			}
			if gap, e := rat.Sub(a, b); e == api.OK && (gap == nought) != (x == 0) {
				t.Fatalf("%s: %d, but the difference is %v", name("Cmp", a, b), x, gap)
			}
		}
	}
}

func TestRoundedIsNear(t *testing.T) {
	for _, x := range fractions() {
		floor, e1 := rat.Floor(x)
		ceil, e2 := rat.Ceil(x)
		under, e3 := rat.Sub(x, whole(1))
		if e1 != api.OK || e2 != api.OK || e3 != api.OK {
			continue
		}
		at, _ := rat.Cmp(whole(floor), x)
		above, _ := rat.Cmp(whole(floor), under)
		up, _ := rat.Cmp(whole(ceil), x)
		if at > 0 || above <= 0 || up < 0 || (floor == ceil) != (x.D == 1) {
			t.Errorf("%s: %d, Ceil %d", name("Floor", x), floor, ceil)
		}
	}
}

func TestParseOfText(t *testing.T) {
	l := fractions()
	r := source()
	for range 20000 {
		l = append(l, anyFraction(r))
	}
	for _, x := range l {
		s, e := rat.Text(x)
		if e != api.OK {
			t.Fatalf("%s: %v", name("Text", x), e)
		}
		got, e := rat.Parse(s)
		same(t, "Parse "+s, got, e, x, api.OK)
	}
}

// Rules that hold everywhere

// What is handed in is not changed, spare room behind it included.
func TestListsStay(t *testing.T) {
	calls := map[string]func(...api.Rat) (api.Rat, api.Errno){"Sum": rat.Sum, "Least": rat.Least, "Greatest": rat.Greatest}
	for what, call := range calls {
		for _, l := range [][]api.Rat{
			{whole(3), {N: -1, D: 2}, nought, {N: 1, D: 3}, whole(-7), whole(9)},
			{whole(3), {N: 2, D: 4}, nought, {}, whole(most), whole(most)},
			{whole(most), whole(most), whole(-1), nought, whole(1), whole(2)},
		} {
			was := slices.Clone(l)
			x, e := call(l[:4]...)
			if !slices.Equal(l, was) {
				t.Errorf("%s changed %v to %v", what, was, l)
			}
			again, f := call(l[:4]...)
			same(t, what+" again", again, f, x, e)
		}
	}
}
