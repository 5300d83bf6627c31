// Package rat is layer 1: see shared/doc/01-rat.md.
package rat

import (
	"math"
	"math/bits"
	"slices"
	"strconv"
	"strings"

	"postroad/api"
)

// Check tells whether it is a fraction.
func Check(x api.Rat) api.Errno {
	if !is(x) {
		return api.ErrArg
	}
	return api.OK
}

// Make makes one.
func Make(n, d int64) (api.Rat, api.Errno) {
	return told(func() api.Rat { return by(n, d) })
}

// Add tells a sum.
func Add(a, b api.Rat) (api.Rat, api.Errno) {
	return told(func() api.Rat { return plus(a, b) }, a, b)
}

// Sub tells a difference.
func Sub(a, b api.Rat) (api.Rat, api.Errno) {
	return told(func() api.Rat { return plus(a, minus(b)) }, a, b)
}

// Mul tells a product.
func Mul(a, b api.Rat) (api.Rat, api.Errno) {
	return told(func() api.Rat { return times(a, b) }, a, b)
}

// Div tells one by another one.
func Div(a, b api.Rat) (api.Rat, api.Errno) {
	return told(func() api.Rat { return times(a, over(b)) }, a, b)
}

// Sum tells a sum of many.
func Sum(l ...api.Rat) (api.Rat, api.Errno) {
	return told(func() api.Rat { return gather(l, api.Rat{D: 1}, plus) }, l...)
}

// Cmp compares two.
func Cmp(a, b api.Rat) (int, api.Errno) {
	return told(func() int { return order(a, b) }, a, b)
}

// Least tells the least.
func Least(l ...api.Rat) (api.Rat, api.Errno) {
	return told(func() api.Rat {
		return first(l, func(x, y api.Rat) bool { return order(x, y) < 0 })
	}, l...)
}

// Greatest tells the greatest.
func Greatest(l ...api.Rat) (api.Rat, api.Errno) {
	return told(func() api.Rat {
		return first(l, func(x, y api.Rat) bool { return order(x, y) > 0 })
	}, l...)
}

// Floor rounds down.
func Floor(x api.Rat) (int64, api.Errno) {
	return told(func() int64 { return down(x) }, x)
}

// Ceil rounds up.
func Ceil(x api.Rat) (int64, api.Errno) {
	return told(func() int64 { return -down(minus(x)) }, x)
}

// Text tells its text.
func Text(x api.Rat) (string, api.Errno) {
	return told(func() string { return text(x) }, x)
}

// Parse tells the fraction of a text.
func Parse(s string) (api.Rat, api.Errno) {
	return told(func() api.Rat { return read(s) })
}

// told works a step out of fractions. Steps can so be written as if all could
// be told: the one that can't gives up by an error's number, and ends here.
func told[T any](step func() T, l ...api.Rat) (x T, e api.Errno) {
	defer func() {
		if r := recover(); r != nil {
			e = r.(api.Errno)
		}
	}()
	if slices.ContainsFunc(l, isNone) {
		panic(api.ErrArg)
	}
	return step(), api.OK
}

// is tells whether it is a fraction. The least number of a word is none's N:
// without it each fraction has one that is as far on the other side of nought.
func is(x api.Rat) bool {
	return x.D > 0 && x.N != math.MinInt64 && divisor(size(x.N), size(x.D)) == 1
}

func isNone(x api.Rat) bool { return !is(x) }

// by tells n by d, of any two numbers.
func by(n, d int64) api.Rat {
	if d == 0 {
		panic(api.ErrArg)
	}
	g := divisor(size(n), size(d))
	return fraction((n < 0) != (d < 0), wide{0, size(n) / g}, wide{0, size(d) / g})
}

// plus adds two. What both D have in common is left out first, and what it has
// in common with the sum last, so that no more than two words are ever needed,
// and just what has no fraction of its value gives up.
func plus(a, b api.Rat) api.Rat {
	g := divisor(size(a.D), size(b.D))
	left, right := size(a.D)/g, size(b.D)/g
	below, n := together(a.N < 0, product(size(a.N), right), b.N < 0, product(size(b.N), left))
	h := divisor(g, rest(n, g))
	return fraction(below, part(n, h), product(left, size(b.D)/h))
}

// times multiplies two, leaving out first what is common across.
func times(a, b api.Rat) api.Rat {
	g, h := divisor(size(a.N), size(b.D)), divisor(size(b.N), size(a.D))
	n := product(size(a.N)/g, size(b.N)/h)
	d := product(size(a.D)/h, size(b.D)/g)
	return fraction((a.N < 0) != (b.N < 0), n, d)
}

func minus(x api.Rat) api.Rat { return api.Rat{N: -x.N, D: x.D} }

// over tells one by x.
func over(x api.Rat) api.Rat {
	switch {
	case x.N == 0:
		panic(api.ErrArg)
	case x.N < 0:
		return api.Rat{N: -x.D, D: -x.N}
	}
	return api.Rat{N: x.D, D: x.N}
}

// order tells -1, 0, 1: is a less, the same, greater?
func order(a, b api.Rat) int {
	if (a.N < 0) != (b.N < 0) {
		return sign(a.N < 0)
	}
	p, q := product(size(a.N), size(b.D)), product(size(b.N), size(a.D))
	if p == q {
		return 0
	}
	return sign(less(p, q) != (a.N < 0))
}

// sign tells -1 of what is less, 1 of what is greater.
func sign(isLess bool) int {
	if isLess {
		return -1
	}
	return 1
}

// down rounds down: what Go's division cuts off below 0 is one too little.
func down(x api.Rat) int64 {
	if x.N%x.D < 0 {
		return x.N/x.D - 1
	}
	return x.N / x.D
}

func text(x api.Rat) string {
	n := strconv.FormatInt(x.N, 10)
	if x.D == 1 {
		return n
	}
	return n + "/" + strconv.FormatInt(x.D, 10)
}

// read tells the fraction of a text. The library reads more forms of a number
// than there are: just what is told again as the same text is taken.
func read(s string) api.Rat {
	x := api.Rat{D: 1}
	n, d, found := strings.Cut(s, "/")
	x.N = number(n)
	if found {
		x.D = number(d)
	}
	if !is(x) || text(x) != s {
		panic(api.ErrRat)
	}
	return x
}

func number(s string) int64 {
	n, err := strconv.ParseInt(s, 10, 64)
	if err != nil {
		panic(api.ErrRat)
	}
	return n
}

// gather goes over a list, and tells what was gathered last.
func gather[T, G any](l []T, from G, step func(G, T) G) G {
	for _, x := range l {
		from = step(from, x)
	}
	return from
}

// first tells the one that is ahead of all others.
func first(l []api.Rat, ahead func(x, y api.Rat) bool) api.Rat {
	if len(l) == 0 {
		panic(api.ErrArg)
	}
	return gather(l[1:], l[0], func(best, x api.Rat) api.Rat {
		if ahead(x, best) {
			return x
		}
		return best
	})
}

// wide is a number of two words, the higher one first.
type wide [2]uint64

// fraction tells what was worked out, without a common divisor but 1, as a
// fraction, if its parts fit.
func fraction(below bool, n, d wide) api.Rat {
	most := wide{0, math.MaxInt64}
	if less(most, n) || less(most, d) {
		panic(api.ErrOver)
	}
	x := api.Rat{N: int64(n[1]), D: int64(d[1])}
	if below {
		return minus(x)
	}
	return x
}

// size tells how far from nought: it fits, also of the least number of a word.
func size(n int64) uint64 {
	if n < 0 {
		return -uint64(n)
	}
	return uint64(n)
}

// divisor tells the greatest common divisor.
func divisor(a, b uint64) uint64 {
	for b != 0 {
		a, b = b, a%b
	}
	return a
}

func product(a, b uint64) wide {
	high, low := bits.Mul64(a, b)
	return wide{high, low}
}

func less(a, b wide) bool {
	return a[0] < b[0] || a[0] == b[0] && a[1] < b[1]
}

// together adds two numbers, each with whether it is below nought. Both are
// products of parts of fractions, so that their sum has no third word.
func together(aBelow bool, a wide, bBelow bool, b wide) (bool, wide) {
	if aBelow == bBelow {
		low, carry := bits.Add64(a[1], b[1], 0)
		high, _ := bits.Add64(a[0], b[0], carry)
		return aBelow, wide{high, low}
	}
	if less(a, b) {
		a, b, aBelow = b, a, bBelow
	}
	low, borrow := bits.Sub64(a[1], b[1], 0)
	high, _ := bits.Sub64(a[0], b[0], borrow)
	return aBelow, wide{high, low}
}

// part tells a by d, rounded down.
func part(a wide, d uint64) wide {
	low, _ := bits.Div64(a[0]%d, a[1], d)
	return wide{a[0] / d, low}
}

// rest tells what is left of a by d.
func rest(a wide, d uint64) uint64 { return bits.Rem64(a[0], a[1], d) }
