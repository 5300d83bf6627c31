package check_test

import (
	"bytes"
	"math"
	"math/big"
	"math/rand/v2"
	"slices"
	"testing"

	"postroad/api"
	"postroad/check"
)

// The tests hold each answer against math/big: to put numbers of 16 bits
// together is to add them by the measure of 65535, but that only noughts come
// to 0, all else that 65535 measures to 65535.

// source is the same in each run.
func source() *rand.Rand { return rand.New(rand.NewPCG(6, 1)) }

// anyBytes tells so many, at times just such of which the sums carry much, or
// nothing at all.
func anyBytes(r *rand.Rand, n int) []byte {
	out := make([]byte, n)
	kind := r.IntN(4)
	for i := range out {
		switch kind {
		case 0:
			out[i] = []byte{0, 255}[r.IntN(2)]
		case 1:
			out[i] = []byte{0, 0, 0, 0, 0, 0, 0, 1}[r.IntN(8)]
		default:
			out[i] = byte(r.Uint32())
		}
	}
	return out
}

// all tells bytes put together, as one long number of as many places as there
// are pairs.
func all(b []byte) uint16 {
	b = slices.Clone(b)
	if len(b)%2 != 0 {
		b = append(b, 0)
	}
	n := new(big.Int).SetBytes(b)
	if n.Sign() == 0 {
		return 0
	}
	if n.Mod(n, big.NewInt(0xffff)).Sign() == 0 {
		return 0xffff
	}
	return uint16(n.Uint64())
}

// sum reckons the sum of bytes.
func sum(b []byte) uint16 { return 0xffff - all(b) }

// cut tells bytes in parts, many of them empty or of an odd number.
func cut(r *rand.Rand, b []byte) [][]byte {
	var out [][]byte
	for len(b) > 0 {
		n := min(r.IntN(5)*r.IntN(5), len(b))
		out, b = append(out, slices.Clone(b[:n])), b[n:]
	}
	return append(out, nil)
}

// written tells a sum under way, of those parts.
func written(t *testing.T, parts ...[]byte) *check.Adder {
	t.Helper()
	a := check.New()
	if a == nil {
		t.Fatal("New: nil")
	}
	for _, p := range parts {
		if e := a.Write(p); e != api.OK {
			t.Fatalf("Write %x: %v", p, e)
		}
	}
	return a
}

// same fails unless a sum is what it must be.
func same(t *testing.T, what string, given any, got, want uint16) {
	t.Helper()
	if got != want {
		t.Fatalf("%s %x: %04x; must be %04x", what, given, got, want)
	}
}

// withRoom tells the same bytes, with filled room behind them.
func withRoom(b []byte) []byte {
	out := append(slices.Clone(b), 0xa5, 0x5a, 0xa5)
	return out[:len(b)]
}

// isUntouched tells whether these are still those bytes, and so the room behind.
func isUntouched(b, was []byte) bool {
	return bytes.Equal(b[:len(b)+3], append(slices.Clone(was), 0xa5, 0x5a, 0xa5))
}

// P6.1

func TestSumExamples(t *testing.T) {
	for _, c := range []struct {
		parts [][]byte
		want  uint16
	}{
		{[][]byte{{0x00, 0x01, 0xf2, 0x03, 0xf4, 0xf5, 0xf6, 0xf7}}, 0x220d},
		{nil, 0xffff},
		{[][]byte{nil}, 0xffff},
		{[][]byte{{}, nil, {}}, 0xffff},
		{[][]byte{{0, 0}}, 0xffff},
		{[][]byte{{0, 0, 0}}, 0xffff},
		{[][]byte{{0x12}}, 0xedff},       // an odd last one is the higher byte
		{[][]byte{{0x12, 0x34}}, 0xedcb}, // the higher byte first
		{[][]byte{{0x12}, {0x34}}, 0xedcb},
		{[][]byte{{0x12}, nil, {}, {0x34}}, 0xedcb},
		{[][]byte{{0, 1}, {2}}, 0xfdfe},
		{[][]byte{{0xff, 0xff}}, 0},
		{[][]byte{{0xff, 0xff, 0xff, 0xff}}, 0},             // a 17th bit, that makes it full again
		{[][]byte{{0xff, 0xff, 0, 1}}, 0xfffe},              // a 17th bit of nothing else
		{[][]byte{{0x80, 0, 0x80, 0}}, 0xfffe},              // likewise
		{[][]byte{{0x80, 0, 0x7f, 0xff}}, 0},                // no 17th bit yet
		{[][]byte{{0x80, 0, 0x7f, 0xff, 0, 0}}, 0},          // full, and nothing
		{[][]byte{{0xff, 0xfe, 0, 3}}, 0xfffd},              // a 17th bit beside others
		{[][]byte{{0xff, 0xff, 0xff, 0xff, 0xff}}, 0x00ff},  // an odd last one with a 17th bit
		{[][]byte{{0xff, 0xff, 0xff}, {0xff, 1}}, 0xfeff},   // the same, cut
		{[][]byte{{1}, {2}, {3}, {4}, {5}}, 0xffff - 0x906}, // 0102 0304 0500
	} {
		same(t, "Sum", c.parts, check.Sum(c.parts...), c.want)
		same(t, "a sum under way of", c.parts, written(t, c.parts...).Sum(), c.want)
	}
}

func TestSum(t *testing.T) {
	r := source()
	for range 20000 {
		b := anyBytes(r, r.IntN(40))
		same(t, "Sum", b, check.Sum(b), sum(b))
	}
}

// Two numbers are all that is put together at a time: all of some first ones
// with all that carry, or do not, beside them.
func TestSumOfTwoPairs(t *testing.T) {
	for _, a := range []int{0, 1, 2, 0xff, 0x100, 0x7fff, 0x8000, 0x8001, 0xff00, 0xfffe, 0xffff} {
		for b := range 1 << 16 {
			want := a + b
			if want > 0xffff {
				want -= 0xffff
			}
			given := []byte{byte(a >> 8), byte(a), byte(b >> 8), byte(b)}
			same(t, "Sum", given, check.Sum(given), 0xffff-uint16(want))
		}
	}
}

func TestSumOfMany(t *testing.T) {
	b := bytes.Repeat([]byte{0xff}, 1<<22)
	same(t, "Sum", "many ff", check.Sum(b), 0)
	same(t, "Sum", "many ff, an odd number", check.Sum(b[1:]), 0xff)
	same(t, "Sum", "many noughts", check.Sum(make([]byte, 1<<22)), 0xffff)
	parts := slices.Repeat([][]byte{{0xfe}, nil, {0xdc, 0xba}}, 1<<16)
	same(t, "Sum", "many parts", check.Sum(parts...), sum(bytes.Repeat([]byte{0xfe, 0xdc, 0xba}, 1<<16)))
}

func TestSumChangesNothing(t *testing.T) {
	r := source()
	for range 2000 {
		b, c := anyBytes(r, r.IntN(9)), anyBytes(r, r.IntN(9))
		parts := [][]byte{withRoom(b), withRoom(c)}
		first, again := check.Sum(parts...), check.Sum(parts...)
		same(t, "Sum", parts, first, sum(slices.Concat(b, c)))
		same(t, "Sum once more", parts, again, first)
		if len(parts) != 2 || !isUntouched(parts[0], b) || !isUntouched(parts[1], c) {
			t.Fatalf("Sum changed %x, %x to %x", b, c, parts)
		}
	}
}

func TestRight(t *testing.T) {
	for _, c := range []struct {
		b    []byte
		want bool
	}{
		{nil, false},
		{[]byte{}, false},
		{[]byte{0}, false},
		{[]byte{0, 0}, false},
		{[]byte{0xff}, false},
		{[]byte{0xff, 0xff}, true},
		{[]byte{0xff, 0xff, 0}, true},
		{[]byte{0xff, 0xff, 0, 0}, true},
		{[]byte{0xff, 0xff, 0xff, 0xff}, true},
		{[]byte{0xff, 0, 0, 0xff}, true},
		{[]byte{0, 0xff, 0xff}, true}, // an odd last one is the higher byte
		{[]byte{0xff, 0, 0xff}, false},
		{[]byte{0x45, 0, 0xba, 0xff}, true},
		{[]byte{0x45, 0, 0xff, 0xba}, false},
		{[]byte{0x45, 0, 0xba, 0xfe}, false},
	} {
		if got := check.Right(c.b); got != c.want {
			t.Errorf("Right %x: %v", c.b, got)
		}
	}
}

// Of two bytes just ff ff are right; of all others, those that 65535 measures.
func TestRightOfAny(t *testing.T) {
	for n := range 1 << 16 {
		b := []byte{byte(n >> 8), byte(n)}
		if got := check.Right(b); got != (n == 0xffff) {
			t.Fatalf("Right %x: %v", b, got)
		}
	}
	r := source()
	var right, wrong int
	for range 200000 {
		given := anyBytes(r, r.IntN(9))
		b := withRoom(given)
		if got := check.Right(b); got != (all(given) == 0xffff) {
			t.Fatalf("Right %x: %v", b, got)
		}
		if !isUntouched(b, given) {
			t.Fatalf("Right changed %x to %x", given, b)
		}
		if all(given) == 0xffff {
			right++
		} else {
			wrong++
		}
	}
	if right < 1000 || wrong < 1000 {
		t.Errorf("seen: %d right, %d not", right, wrong)
	}
}

func TestSealExamples(t *testing.T) {
	for _, c := range []struct {
		b    []byte
		at   int
		want []byte
	}{
		{[]byte{0x45, 0, 0, 0}, 2, []byte{0x45, 0, 0xba, 0xff}},
		{[]byte{0x45, 0, 0x12, 0x34}, 2, []byte{0x45, 0, 0xba, 0xff}}, // what stood there does not count
		{[]byte{0x45, 0, 0xba, 0xff}, 2, []byte{0x45, 0, 0xba, 0xff}}, // not even if it was right
		{[]byte{0, 0, 0x45, 0}, 0, []byte{0xba, 0xff, 0x45, 0}},
		{[]byte{1, 2}, 0, []byte{0xff, 0xff}},
		{[]byte{1, 2, 3}, 0, []byte{0xfc, 0xff, 3}},
		{[]byte{1, 2, 9, 9, 3}, 2, []byte{1, 2, 0xfb, 0xfd, 3}},
		{[]byte{0xff, 0xff, 1, 1}, 2, []byte{0xff, 0xff, 0, 0}},
	} {
		got, e := check.Seal(c.b, c.at)
		if e != api.OK || !bytes.Equal(got, c.want) {
			t.Errorf("Seal %x at %d: %x, %v; must be %x", c.b, c.at, got, e, c.want)
		}
	}
}

// At each place of bytes of all lengths, and beyond: there is one just where it
// is even and two bytes are behind it.
func TestSeal(t *testing.T) {
	r := source()
	for n := range 40 {
		for at := -5; at < n+5; at++ {
			given := anyBytes(r, n)
			b := withRoom(given)
			got, e := check.Seal(b, at)
			if !isUntouched(b, given) {
				t.Fatalf("Seal at %d changed %x to %x", at, given, b)
			}
			if at < 0 || at%2 != 0 || at+1 >= n {
				if e != api.ErrRange || len(got) != 0 {
					t.Fatalf("Seal of %d bytes at %d: %x, %v", n, at, got, e)
				}
				continue
			}
			want := slices.Clone(given)
			want[at], want[at+1] = 0, 0
			s := sum(want)
			want[at], want[at+1] = byte(s>>8), byte(s&0xff)
			if e != api.OK || !bytes.Equal(got, want) {
				t.Fatalf("Seal %x at %d: %x, %v; must be %x", given, at, got, e, want)
			}
			got[0]++
			if !isUntouched(b, given) {
				t.Fatalf("Seal shares its answer with what it is given")
			}
		}
	}
}

func TestSealNeedsAPlace(t *testing.T) {
	for _, b := range [][]byte{nil, {}, {1}, {1, 2}, {1, 2, 3}, {1, 2, 3, 4}} {
		for _, at := range []int{math.MinInt, math.MinInt + 1, -1 << 32, -4, -2, -1, 1, 3, 4, 5, 6, 1 << 32, math.MaxInt - 2, math.MaxInt - 1, math.MaxInt} {
			if got, e := check.Seal(b, at); e != api.ErrRange || len(got) != 0 {
				t.Errorf("Seal %x at %d: %x, %v", b, at, got, e)
			}
		}
	}
	for _, c := range []struct {
		b  []byte
		at int
	}{{nil, 0}, {[]byte{}, 0}, {[]byte{1}, 0}, {[]byte{1, 2}, 2}, {[]byte{1, 2, 3}, 2}} {
		if got, e := check.Seal(c.b, c.at); e != api.ErrRange || len(got) != 0 {
			t.Errorf("Seal %x at %d: %x, %v", c.b, c.at, got, e)
		}
	}
}

func TestPatchExamples(t *testing.T) {
	for _, c := range []struct{ sum, was, now, want uint16 }{
		{0xbaff, 0x4500, 0x4500, 0xbaff},
		{0xbaff, 0x4500, 0x4501, 0xbafe},
		{0xdd2f, 0x5555, 0x3285, 0x0000},
		{0x220d, 0xf203, 0xf202, 0x220e},
		{0xfffe, 0x0001, 0x0002, 0xfffd},
		{0xffff, 0x0000, 0x1234, 0xedcb},
		{0xedcb, 0x1234, 0x0000, 0x0000}, // then all are noughts: 0, not ffff
		{0xffff, 0x0000, 0x0000, 0x0000}, // likewise
		{0x0000, 0xffff, 0xffff, 0x0000},
		{0x0000, 0xffff, 0x0001, 0xfffe},
		{0x0000, 0x0000, 0x0000, 0x0000},
		{0xffff, 0xffff, 0x0000, 0xffff},
		{0xffff, 0xffff, 0xffff, 0x0000},
	} {
		same(t, "Patch", []uint16{c.sum, c.was, c.now}, check.Patch(c.sum, c.was, c.now), c.want)
	}
}

// The three numbers, two of them turned, put together as bytes are.
func TestPatch(t *testing.T) {
	r := source()
	edges := []uint16{0, 1, 0xff, 0x100, 0x7fff, 0x8000, 0xfffe, 0xffff}
	try := func(s, was, now uint16) {
		t.Helper()
		b := []byte{^byte(s >> 8), ^byte(s), ^byte(was >> 8), ^byte(was), byte(now >> 8), byte(now)}
		same(t, "Patch", []uint16{s, was, now}, check.Patch(s, was, now), sum(b))
	}
	for _, s := range edges {
		for _, was := range edges {
			for _, now := range edges {
				try(s, was, now)
			}
		}
	}
	for range 100000 {
		try(uint16(r.Uint32()), uint16(r.Uint32()), uint16(r.Uint32()))
	}
}

// P6.2

func TestNew(t *testing.T) {
	a, b := check.New(), check.New()
	if a == nil || b == nil {
		t.Fatal("New: nil")
	}
	same(t, "Sum", "nothing", a.Sum(), 0xffff)
	if e := a.Write([]byte{1, 2, 3}); e != api.OK {
		t.Fatalf("Write: %v", e)
	}
	same(t, "Sum", "what was written", a.Sum(), sum([]byte{1, 2, 3}))
	same(t, "Sum", "nothing, beside another one", b.Sum(), 0xffff)
	same(t, "Sum", "nothing, made behind another one", check.New().Sum(), 0xffff)
}

// A zero one that New did not make is as a nil one.
func TestNoAdder(t *testing.T) {
	for _, a := range []*check.Adder{nil, {}, new(check.Adder)} {
		for _, b := range [][]byte{nil, {}, {1}, {1, 2}} {
			if e := a.Write(b); e != api.ErrNil {
				t.Errorf("Write %x: %v", b, e)
			}
			same(t, "Sum behind", b, a.Sum(), 0)
			if c := a.Copy(); c != nil {
				t.Errorf("Copy: %v", c)
			}
		}
	}
}

// At each time the sum is that of all that was written, and to ask for it
// changes nothing: half a pair that is left stays to be a whole one.
func TestWrite(t *testing.T) {
	r := source()
	for range 5000 {
		a, so := written(t), []byte(nil)
		for _, p := range cut(r, anyBytes(r, r.IntN(40))) {
			so = append(so, p...)
			given := withRoom(p)
			if e := a.Write(given); e != api.OK {
				t.Fatalf("Write %x: %v", p, e)
			}
			if !isUntouched(given, p) {
				t.Fatalf("Write changed %x to %x", p, given)
			}
			for range r.IntN(3) {
				same(t, "Sum", so, a.Sum(), sum(so))
			}
		}
		same(t, "Sum", so, a.Sum(), sum(so))
	}
}

// What was written may be anything else behind it.
func TestWriteKeepsNothing(t *testing.T) {
	b := []byte{1, 2, 3}
	a := written(t, b)
	copy(b, []byte{7, 7, 7})
	same(t, "Sum", "1 2 3", a.Sum(), sum([]byte{1, 2, 3}))
	if e := a.Write([]byte{4}); e != api.OK {
		t.Fatalf("Write: %v", e)
	}
	same(t, "Sum", "1 2 3 4", a.Sum(), sum([]byte{1, 2, 3, 4}))
}

func TestWriteOfMany(t *testing.T) {
	a := written(t, slices.Repeat([][]byte{{0xff}, {}, {0xff, 0xff}}, 1<<17)...)
	same(t, "Sum", "many ff", a.Sum(), 0)
	if e := a.Write([]byte{0, 1}); e != api.OK {
		t.Fatalf("Write: %v", e)
	}
	same(t, "Sum", "many ff, and 1", a.Sum(), 0xfffe)
}

// Both go on apart, also where half a pair was left.
func TestCopy(t *testing.T) {
	r := source()
	for range 5000 {
		so, here, there := anyBytes(r, r.IntN(9)), anyBytes(r, r.IntN(9)), anyBytes(r, r.IntN(9))
		a := written(t, so)
		b := a.Copy()
		if b == nil || a == b {
			t.Fatalf("Copy: %v", b)
		}
		same(t, "Sum of a copy", so, b.Sum(), sum(so))
		if e := a.Write(here); e != api.OK {
			t.Fatalf("Write: %v", e)
		}
		same(t, "Sum of a copy", so, b.Sum(), sum(so))
		if e := b.Write(there); e != api.OK {
			t.Fatalf("Write to a copy: %v", e)
		}
		same(t, "Sum", so, a.Sum(), sum(slices.Concat(so, here)))
		same(t, "Sum of a copy", so, b.Sum(), sum(slices.Concat(so, there)))
		same(t, "Sum of a copy's copy", so, b.Copy().Sum(), sum(slices.Concat(so, there)))
	}
	same(t, "Sum of a copy", "nothing", check.New().Copy().Sum(), 0xffff)
}

// P6.3

// Each way to cut a few bytes in three, and some to cut many.
func TestCuts(t *testing.T) {
	r := source()
	for n := range 12 {
		b := anyBytes(r, n)
		for i := range n + 1 {
			for j := i; j <= n; j++ {
				parts := [][]byte{b[:i], b[i:j], b[j:]}
				same(t, "Sum", parts, check.Sum(parts...), check.Sum(b))
				same(t, "a sum under way of", parts, written(t, parts...).Sum(), check.Sum(b))
			}
		}
	}
	for range 5000 {
		b := anyBytes(r, r.IntN(100))
		same(t, "Sum, cut, of", b, check.Sum(cut(r, b)...), check.Sum(b))
		same(t, "a sum under way, cut, of", b, written(t, cut(r, b)...).Sum(), check.Sum(b))
	}
}

func TestSealedAreRight(t *testing.T) {
	r := source()
	for range 1000 {
		n := 2 + 2*r.IntN(20)
		b, e := check.Seal(anyBytes(r, n), 2*r.IntN(n/2))
		if e != api.OK || !check.Right(b) {
			t.Fatalf("sealed %x, %v: not right", b, e)
		}
		for bit := range 8 * n {
			b[bit/8] ^= 1 << (bit % 8)
			if check.Right(b) {
				t.Fatalf("right with one bit turned: %x", b)
			}
			b[bit/8] ^= 1 << (bit % 8)
		}
	}
}

func TestPatchedIsChanged(t *testing.T) {
	r := source()
	areNoughts := func(b []byte) bool { return !slices.ContainsFunc(b, func(x byte) bool { return x != 0 }) }
	var seen int
	for range 50000 {
		n := 2 + r.IntN(9)
		b := anyBytes(r, n)
		at := 2 * r.IntN(n/2)
		other, pair := slices.Clone(b), anyBytes(r, 2)
		copy(other[at:], pair)
		if areNoughts(b) || areNoughts(other) {
			continue
		}
		seen++
		was, now := uint16(b[at])<<8|uint16(b[at+1]), uint16(pair[0])<<8|uint16(pair[1])
		same(t, "Patch", [][]byte{b, other}, check.Patch(check.Sum(b), was, now), check.Sum(other))
	}
	if seen < 10000 {
		t.Errorf("seen: %d", seen)
	}
}
