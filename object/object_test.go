package object_test

import (
	"bytes"
	"encoding/binary"
	"math"
	"math/rand/v2"
	"reflect"
	"slices"
	"testing"

	"postroad/api"
	"postroad/bound"
	"postroad/object"
	"postroad/tspec"
)

// The tests hold each answer against encoding/binary, and against tables of
// what each word of a thing is, with its bounds.

const (
	most     = math.MaxInt64
	least    = math.MinInt64
	mostWord = 1<<32 - 1
	mostC    = 10000000
	million  = 1000000
)

// source is the same in each run.
func source() *rand.Rand { return rand.New(rand.NewPCG(7, 1)) }

func one(class, kind int, words ...int64) api.Object {
	return api.Object{Class: class, Type: kind, Words: words}
}

// numbers tells so many words, each another one.
func numbers(n int) []int64 {
	out := make([]int64, n)
	for i := range out {
		out[i] = int64(i)*0x01020304 + 5
	}
	return out
}

func anyWord(r *rand.Rand) int64 {
	if r.IntN(3) == 0 {
		return []int64{0, 1, 0x7fffffff, 0x80000000, 0xff000000, mostWord}[r.IntN(6)]
	}
	return int64(r.Uint32() >> r.IntN(32))
}

func anyObject(r *rand.Rand, mostWords int) api.Object {
	o := one(r.IntN(256), r.IntN(256))
	for range 1 + r.IntN(mostWords) {
		o.Words = append(o.Words, anyWord(r))
	}
	return o
}

func anyObjects(r *rand.Rand, n int) []api.Object {
	var l []api.Object
	for range n {
		l = append(l, anyObject(r, []int{1, 3, 64}[r.IntN(3)]))
	}
	return l
}

// bytesOf reckons objects' bytes.
func bytesOf(l ...api.Object) []byte {
	var out []byte
	for _, o := range l {
		out = binary.BigEndian.AppendUint16(out, uint16(4*len(o.Words)+4))
		out = append(out, byte(o.Class), byte(o.Type))
		for _, w := range o.Words {
			out = binary.BigEndian.AppendUint32(out, uint32(w))
		}
	}
	return out
}

// objectsOf reckons the objects of bytes, and whether they are such.
func objectsOf(b []byte) (l []api.Object, fine bool) {
	for len(b) > 0 {
		if len(b) < 8 || len(l) == 40 {
			return nil, false
		}
		n := int(binary.BigEndian.Uint16(b))
		if n > len(b) || n < 8 || n > 260 || n%4 != 0 {
			return nil, false
		}
		o := one(int(b[2]), int(b[3]))
		for at := 4; at < n; at += 4 {
			o.Words = append(o.Words, int64(binary.BigEndian.Uint32(b[at:])))
		}
		l, b = append(l, o), b[n:]
	}
	return l, true
}

// isLike holds two lists of objects against each other.
func isLike(a, b []api.Object) bool {
	return len(a) == len(b) && (len(a) == 0 || reflect.DeepEqual(a, b))
}

// wrongs may not be, each for another reason.
func wrongs() []api.Object {
	out := []api.Object{{}, one(1, 1), one(1, 1, []int64{}...), one(1, 1, numbers(65)...), one(1, 1, numbers(1000)...)}
	for _, n := range []int{-1, 256, 257, 1 << 16, 1 << 32, most, least, least + 1} {
		out = append(out, one(n, 1, 7), one(1, n, 7))
	}
	for _, w := range []int64{-1, mostWord + 1, 1 << 40, most, least} {
		out = append(out, one(1, 1, w), one(1, 1, 3, w), one(1, 1, w, 3), one(1, 1, 3, w, 3))
		for _, at := range []int{0, 32, 63} {
			l := numbers(64)
			l[at] = w
			out = append(out, one(1, 1, l...))
		}
	}
	return out
}

// P7.1: Raw

func TestRawExamples(t *testing.T) {
	for _, c := range []struct {
		l    []api.Object
		want []byte
	}{
		{nil, nil},
		{[]api.Object{}, nil},
		{[]api.Object{one(5, 1, 30)}, []byte{0, 8, 5, 1, 0, 0, 0, 0x1e}},
		{[]api.Object{one(0, 0, 0)}, []byte{0, 8, 0, 0, 0, 0, 0, 0}},
		{[]api.Object{one(255, 255, mostWord)}, []byte{0, 8, 255, 255, 255, 255, 255, 255}},
		{[]api.Object{one(255, 0, 0x80000000)}, []byte{0, 8, 255, 0, 128, 0, 0, 0}},
		{[]api.Object{one(0, 255, 0x01020304, 0x05060708)}, []byte{0, 12, 0, 255, 1, 2, 3, 4, 5, 6, 7, 8}},
		{[]api.Object{one(1, 2, 3), one(4, 5, 6, 7)}, []byte{0, 8, 1, 2, 0, 0, 0, 3, 0, 12, 4, 5, 0, 0, 0, 6, 0, 0, 0, 7}},
		{[]api.Object{one(1, 1, 2, 285212677)}, []byte{0, 12, 1, 1, 0, 0, 0, 2, 17, 0, 0, 5}},
	} {
		got, e := object.Raw(c.l...)
		if e != api.OK || !bytes.Equal(got, c.want) {
			t.Errorf("Raw %v: % x, %v; must be % x", c.l, got, e, c.want)
		}
	}
	got, e := object.Raw(one(9, 9, numbers(64)...))
	if e != api.OK || len(got) != 260 || !bytes.Equal(got[:4], []byte{1, 4, 9, 9}) {
		t.Errorf("Raw of 64 words: % x, %v", got, e)
	}
}

func TestRaw(t *testing.T) {
	r := source()
	for range 5000 {
		l := anyObjects(r, r.IntN(41))
		got, e := object.Raw(l...)
		if e != api.OK || !bytes.Equal(got, bytesOf(l...)) {
			t.Fatalf("Raw %v: % x, %v", l, got, e)
		}
	}
	for n := 1; n <= 64; n++ {
		o := one(n, 64-n, numbers(n)...)
		if got, e := object.Raw(o); e != api.OK || !bytes.Equal(got, bytesOf(o)) {
			t.Errorf("Raw %v: % x, %v", o, got, e)
		}
	}
}

func TestRawNeedsObjects(t *testing.T) {
	fine := one(1, 1, 7)
	forty := slices.Repeat([]api.Object{fine}, 40)
	for _, bad := range wrongs() {
		for _, l := range [][]api.Object{{bad}, {bad, fine}, {fine, bad}, {fine, bad, fine},
			slices.Concat(forty, []api.Object{bad}), slices.Concat([]api.Object{bad}, forty), slices.Concat(forty, forty, []api.Object{bad})} {
			if got, e := object.Raw(l...); got != nil || e != api.ErrArg {
				t.Fatalf("Raw of %d objects with %v: % x, %v", len(l), bad, got, e)
			}
		}
	}
}

func TestRawOfMany(t *testing.T) {
	for _, o := range []api.Object{one(1, 1, 7), one(255, 255, numbers(64)...)} {
		l := slices.Repeat([]api.Object{o}, 40)
		if got, e := object.Raw(l...); e != api.OK || !bytes.Equal(got, bytesOf(l...)) {
			t.Errorf("Raw of 40: % x, %v", got, e)
		}
		for _, n := range []int{41, 42, 80, 100000} {
			if got, e := object.Raw(slices.Repeat([]api.Object{o}, n)...); got != nil || e != api.ErrLong {
				t.Errorf("Raw of %d: % x, %v", n, got, e)
			}
		}
	}
}

// What is handed in has filled room behind it: it stays as it was.
func TestRawChangesNothing(t *testing.T) {
	words := append(numbers(5), 77, 77)
	l := append([]api.Object{one(1, 1, words[:5]...), one(2, 2, 3)}, one(3, 3, 3), one(4, 4, 4))
	was := []api.Object{one(1, 1, numbers(5)...), one(2, 2, 3), one(3, 3, 3), one(4, 4, 4)}
	got, _ := object.Raw(l[:2]...)
	again, _ := object.Raw(l[:2]...)
	for i := range got {
		got[i] = 0xee
	}
	if !reflect.DeepEqual(l, was) || !slices.Equal(words, append(numbers(5), 77, 77)) {
		t.Errorf("Raw changed what it was handed: %v %v", l, words)
	}
	if !bytes.Equal(again, bytesOf(was[:2]...)) {
		t.Errorf("two answers share: % x", again)
	}
}

// P7.1: Parse

// parses holds Parse against the reckoning.
func parses(t *testing.T, b []byte) bool {
	t.Helper()
	want, fine := objectsOf(b)
	got, e := object.Parse(b)
	if fine && (e != api.OK || !isLike(got, want)) {
		t.Fatalf("Parse of %d, % x: %v, %v; must be %v", len(b), b[:min(len(b), 300)], got, e, want)
	}
	if !fine && (e != api.ErrObject || got != nil) {
		t.Fatalf("Parse of %d, % x: %v, %v; must be ErrObject", len(b), b[:min(len(b), 300)], got, e)
	}
	return fine
}

func TestParseExamples(t *testing.T) {
	for _, c := range []struct {
		b    []byte
		want []api.Object
		e    api.Errno
	}{
		{nil, nil, api.OK},
		{[]byte{}, nil, api.OK},
		{[]byte{0, 8, 5, 1, 0, 0, 0, 0x1e}, []api.Object{one(5, 1, 30)}, api.OK},
		{[]byte{0, 8, 255, 255, 255, 255, 255, 255}, []api.Object{one(255, 255, mostWord)}, api.OK},
		{[]byte{0, 12, 0, 255, 1, 2, 3, 4, 5, 6, 7, 8}, []api.Object{one(0, 255, 0x01020304, 0x05060708)}, api.OK},
		{[]byte{0, 8, 1, 2, 0, 0, 0, 3, 0, 8, 4, 5, 128, 0, 0, 0}, []api.Object{one(1, 2, 3), one(4, 5, 1<<31)}, api.OK},
		{[]byte{0, 4, 5, 1}, nil, api.ErrObject}, // no words
		{[]byte{0}, nil, api.ErrObject},
		{[]byte{0, 0}, nil, api.ErrObject},
		{[]byte{0, 0, 0, 0}, nil, api.ErrObject},
		{[]byte{0, 0, 0, 0, 0, 0, 0, 0}, nil, api.ErrObject},
		{[]byte{0, 8, 5, 1}, nil, api.ErrObject},
		{[]byte{0, 8, 5, 1, 0, 0, 0}, nil, api.ErrObject},
		{[]byte{0, 8, 5, 1, 0, 0, 0, 0, 0}, nil, api.ErrObject},
		{[]byte{8, 0, 5, 1, 0, 0, 0, 0}, nil, api.ErrObject}, // the higher byte first
		{[]byte{0, 7, 5, 1, 0, 0, 0}, nil, api.ErrObject},
		{[]byte{0, 9, 5, 1, 0, 0, 0, 0, 0}, nil, api.ErrObject},
		{[]byte{0, 10, 5, 1, 0, 0, 0, 0, 0, 0}, nil, api.ErrObject},
		{[]byte{0, 8, 5, 1, 0, 0, 0, 1, 0, 4, 5, 1}, nil, api.ErrObject}, // a right one ahead
	} {
		got, e := object.Parse(c.b)
		if e != c.e || !isLike(got, c.want) {
			t.Errorf("Parse % x: %v, %v; must be %v, %v", c.b, got, e, c.want, c.e)
		}
	}
}

// TestParseLengths says of an object each number of bytes, and more and less
// than there are behind it.
func TestParseLengths(t *testing.T) {
	fine := 0
	for n := range 1 << 16 {
		for _, there := range []int{n - 4, n - 1, n, n + 1, n + 8, 260, 261, 264} {
			if there < 2 || there > api.MaxText || n > 300 && there > 264 && n%1000 != 0 {
				continue
			}
			b := make([]byte, there)
			binary.BigEndian.PutUint16(b, uint16(n))
			if n+8 == there {
				b[n+1] = 8
			}
			if parses(t, b) {
				fine++
			}
		}
	}
	if fine < 128 {
		t.Errorf("seen: %d fine", fine)
	}
}

func TestParseOfCut(t *testing.T) {
	b := bytesOf(one(1, 2, 3), one(4, 5, numbers(64)...), one(6, 7, 8, 9))
	for n := range len(b) + 1 {
		parses(t, b[:n])
		parses(t, b[n:])
		parses(t, append(slices.Clone(b[:n]), 0))
	}
}

func TestParseOfMany(t *testing.T) {
	for _, o := range []api.Object{one(1, 1, 7), one(255, 255, numbers(64)...)} {
		for _, n := range []int{39, 40, 41, 42, 100, 252} {
			b := bytesOf(slices.Repeat([]api.Object{o}, n)...)
			if parses(t, b) != (n <= 40) {
				t.Errorf("%d objects", n)
			}
		}
		b := bytesOf(slices.Repeat([]api.Object{o}, 40)...)
		parses(t, append(b, 0))
		parses(t, append(b, 0, 0, 0, 0, 0, 0, 0, 0))
	}
}

func TestParseOfLong(t *testing.T) {
	text := bytesOf(slices.Repeat([]api.Object{one(1, 1, 7)}, api.MaxText/8)...)
	if got, e := object.Parse(text); len(text) != api.MaxText || got != nil || e != api.ErrObject {
		t.Errorf("Parse of MaxText bytes: %v, %v", got, e)
	}
	for _, b := range [][]byte{append(text, 0), append(text, text...), make([]byte, api.MaxText+1), make([]byte, 1<<24)} {
		if got, e := object.Parse(b); got != nil || e != api.ErrLong {
			t.Errorf("Parse of %d bytes: %v, %v", len(b), got, e)
		}
	}
	if got, e := object.Parse(make([]byte, api.MaxText)); got != nil || e != api.ErrObject {
		t.Errorf("Parse of MaxText noughts: %v, %v", got, e)
	}
}

func TestParse(t *testing.T) {
	r := source()
	fine, wrong := 0, 0
	for range 30000 {
		b := bytesOf(anyObjects(r, r.IntN(5))...)
		for range r.IntN(3) { // bent at some places, most often where it tells how many
			if len(b) > 0 {
				at := r.IntN(len(b))
				if r.IntN(2) == 0 {
					at = r.IntN(min(4, len(b)))
				}
				b[at] ^= 1 << r.IntN(8)
			}
		}
		switch r.IntN(6) {
		case 0:
			b = b[:r.IntN(len(b)+1)]
		case 1:
			b = append(b, make([]byte, r.IntN(9))...)
		}
		if parses(t, b) {
			fine++
		} else {
			wrong++
		}
	}
	if fine < 5000 || wrong < 5000 {
		t.Errorf("seen: %d fine, %d wrong", fine, wrong)
	}
}

func TestParseOfAnyBytes(t *testing.T) {
	r := source()
	for range 20000 {
		b := make([]byte, r.IntN(60))
		for i := range b {
			b[i] = byte(r.Uint32() >> r.IntN(33))
		}
		parses(t, b)
	}
}

// What is told shares nothing: with the bytes, with another answer, within it.
func TestParseTellsNewMemory(t *testing.T) {
	l := []api.Object{one(1, 2, 3, 4), one(5, 6, 7), one(8, 9, 10, 11, 12)}
	b := append(bytesOf(l...), 0xa5, 0xa5)
	text := b[:len(b)-2]
	got, _ := object.Parse(text)
	again, _ := object.Parse(text)
	if !bytes.Equal(b, append(bytesOf(l...), 0xa5, 0xa5)) {
		t.Fatalf("Parse changed % x", b)
	}
	clear(b)
	if !isLike(got, l) {
		t.Errorf("Parse kept bytes: %v", got)
	}
	for i := range got {
		grown := append(got[i].Words, 99, 99, 99)
		for k := range grown {
			grown[k] = 99
		}
		for k := range got[i].Words {
			got[i].Words[k] = 99
		}
		if i+1 < len(got) && !isLike(got[i+1:], l[i+1:]) {
			t.Errorf("words share: %v", got)
		}
	}
	if !isLike(again, l) {
		t.Errorf("two answers share: %v", again)
	}
}

// P7.1: Same

func TestSame(t *testing.T) {
	different := []api.Object{
		one(1, 2, 3, 4), one(0, 2, 3, 4), one(1, 0, 3, 4), one(1, 2, 0, 4), one(1, 2, 3, 0), one(1, 2, 3), one(1, 2, 4, 3),
		one(1, 2, 3, 4, 0), one(1, 2, 4), one(1, 2), {}, one(2, 1, 3, 4), one(257, 2, 3, 4), one(1, 258, 3, 4),
		one(1, 2, 3+1<<32, 4), one(-1, 2, 3, 4), one(1, 2, -3, 4), one(most, least, most), one(least, most, most), one(most, least, least),
		one(1, 2, numbers(64)...), one(1, 2, numbers(65)...), one(1, 2, numbers(1000)...), one(1, 2, numbers(1001)...),
	}
	for i, a := range different {
		for k, b := range different {
			b.Words = slices.Clone(b.Words)
			if object.Same(a, b) != (i == k) {
				t.Errorf("Same %v %v: %v", a, b, i != k)
			}
		}
	}
	if !object.Same(one(1, 2), one(1, 2, []int64{}...)) || !object.Same(one(1, 2, make([]int64, 0, 9)...), one(1, 2)) {
		t.Errorf("nil and empty are not the same")
	}
}

func TestSameLeavesRoomAside(t *testing.T) {
	a, b := one(1, 2, []int64{3, 4, 5}[:2]...), one(1, 2, []int64{3, 4, 6}[:2]...)
	if !object.Same(a, b) {
		t.Errorf("Same looks behind the words")
	}
	if a.Words[:3][2] != 5 || b.Words[:3][2] != 6 {
		t.Errorf("Same changed what it was handed")
	}
}

// P7.2

// thing is what one pair of calls says: objects of a Class and a Type, and what
// its numbers are. A thing is told as its numbers, in the order of its type.
type thing struct {
	name        string
	class, kind int
	size        int                        // how many numbers it has
	may         func(n []int64) bool       // whether such a one may be
	words       func(n []int64) []int64    // what its words are then
	count       int                        // how many words it has
	read        func(w []int64) []int64    // the numbers that so many words would say
	some        func(r *rand.Rand) []int64 // one that may be
	edges       [][]int64                  // for each number, such as it is at its edges, and beyond
	say         func(n []int64) (api.Object, api.Errno)
	hear        func(o api.Object) ([]int64, api.Errno)
}

func is(low, n, high int64) bool { return low <= n && n <= high }

func from(r *rand.Rand, low, high int64) int64 {
	switch r.IntN(4) {
	case 0:
		return low
	case 1:
		return high
	}
	return low + r.Int64N(high-low+1)
}

// around tells a bound's numbers and those beyond it.
func around(low, high int64) []int64 {
	return []int64{low, low + 1, high - 1, high, low - 1, high + 1, -low - 1, -high, 1 << 32, 1<<32 + low, 1<<32 + high, 1<<63 - 1, -1 << 63, -1 << 32, low - 1<<32, 1 << 16, 1 << 24, 1 << 31}
}

func same(n []int64) []int64 { return slices.Clone(n) }

// pairOf is a thing of two numbers, that are its words.
func pairOf(name string, class, kind int, low, high [2]int64) thing {
	return thing{
		name: name, class: class, kind: kind, size: 2, words: same, count: 2, read: same,
		may:   func(n []int64) bool { return is(low[0], n[0], high[0]) && is(low[1], n[1], high[1]) },
		some:  func(r *rand.Rand) []int64 { return []int64{from(r, low[0], high[0]), from(r, low[1], high[1])} },
		edges: [][]int64{around(low[0], high[0]), around(low[1], high[1])},
	}
}

// oneOf is a thing of one number, that is its word.
func oneOf(name string, class int, low, high int64) thing {
	return thing{
		name: name, class: class, kind: 1, size: 1, words: same, count: 1, read: same,
		may:   func(n []int64) bool { return is(low, n[0], high) },
		some:  func(r *rand.Rand) []int64 { return []int64{from(r, low, high)} },
		edges: [][]int64{around(low, high)},
	}
}

func specOf(n []int64) api.Spec {
	return api.Spec{Peak: n[0], Rate: n[1], Burst: n[2], Most: n[3], Least: n[4]}
}

func numbersOf(s api.Spec) []int64 { return []int64{s.Peak, s.Rate, s.Burst, s.Most, s.Least} }

func someSpec(r *rand.Rand) []int64 {
	rate, size := from(r, 1, api.MaxRate), from(r, 1, api.MaxPacket)
	return []int64{from(r, rate, api.MaxRate), rate, from(r, size, api.MaxBurst), size, from(r, 1, size)}
}

func specEdges() [][]int64 {
	rates, sizes := around(1, api.MaxRate), around(1, api.MaxPacket)
	return [][]int64{rates, rates, around(1, api.MaxBurst), sizes, sizes}
}

func senderSays(t *thing, say func(x api.Sender) (api.Object, api.Errno), hear func(o api.Object) (api.Sender, api.Errno)) {
	t.say = func(n []int64) (api.Object, api.Errno) { return say(api.Sender{Node: n[0], Port: n[1]}) }
	t.hear = func(o api.Object) ([]int64, api.Errno) { x, e := hear(o); return []int64{x.Node, x.Port}, e }
}

func numberSays(t *thing, say func(x int64) (api.Object, api.Errno), hear func(o api.Object) (int64, api.Errno)) {
	t.say = func(n []int64) (api.Object, api.Errno) { return say(n[0]) }
	t.hear = func(o api.Object) ([]int64, api.Errno) { x, e := hear(o); return []int64{x}, e }
}

func sessionThing() thing {
	t := pairOf("Session", 1, 1, [2]int64{0, 1}, [2]int64{15, 65535})
	t.words = func(n []int64) []int64 { return []int64{n[0], 17*16777216 + n[1]} }
	t.read = func(w []int64) []int64 { return []int64{w[0], w[1] - 17*16777216} }
	t.say = func(n []int64) (api.Object, api.Errno) { return object.Session(api.Session{Node: n[0], Port: n[1]}) }
	t.hear = func(o api.Object) ([]int64, api.Errno) {
		x, e := object.AsSession(o)
		return []int64{x.Node, x.Port}, e
	}
	return t
}

func hopThing() thing {
	t := pairOf("Hop", 3, 1, [2]int64{0, 0}, [2]int64{15, 47})
	t.say = func(n []int64) (api.Object, api.Errno) { return object.Hop(api.Hop{Node: n[0], Link: n[1]}) }
	t.hear = func(o api.Object) ([]int64, api.Errno) { x, e := object.AsHop(o); return []int64{x.Node, x.Link}, e }
	return t
}

func faultThing() thing {
	return thing{
		name: "Fault", class: 6, kind: 1, size: 3, count: 2,
		may:   func(n []int64) bool { return is(0, n[0], 15) && is(0, n[1], 255) && is(0, n[2], 65535) },
		words: func(n []int64) []int64 { return []int64{n[0], n[1]*65536 + n[2]} },
		read:  func(w []int64) []int64 { return []int64{w[0], w[1] / 65536, w[1] % 65536} },
		some:  func(r *rand.Rand) []int64 { return []int64{from(r, 0, 15), from(r, 0, 255), from(r, 0, 65535)} },
		edges: [][]int64{around(0, 15), around(0, 255), around(0, 65535)},
		say: func(n []int64) (api.Object, api.Errno) {
			return object.Fault(api.Fault{Node: n[0], Code: n[1], Value: n[2]})
		},
		hear: func(o api.Object) ([]int64, api.Errno) {
			x, e := object.AsFault(o)
			return []int64{x.Node, x.Code, x.Value}, e
		},
	}
}

func styleThing() thing {
	t := oneOf("Style", 8, 1, 3)
	words := []int64{0, 10, 18, 17} // none, and 1 to 3
	t.words = func(n []int64) []int64 { return []int64{words[n[0]]} }
	t.read = func(w []int64) []int64 { return []int64{int64(slices.Index(words, w[0]))} }
	t.say = func(n []int64) (api.Object, api.Errno) { return object.Style(api.Style(n[0])) }
	t.hear = func(o api.Object) ([]int64, api.Errno) { x, e := object.AsStyle(o); return []int64{int64(x)}, e }
	return t
}

func wishThing() thing {
	return thing{
		name: "Wish", class: 9, kind: 2, size: 7, count: 7,
		may: func(n []int64) bool {
			return tspec.Check(specOf(n)) == api.OK && is(n[1], n[5], api.MaxRate) && is(0, n[6], million)
		},
		words: func(n []int64) []int64 { return []int64{n[1], n[2], n[0], n[4], n[3], n[5], n[6]} },
		read:  func(w []int64) []int64 { return []int64{w[2], w[0], w[1], w[4], w[3], w[5], w[6]} },
		some: func(r *rand.Rand) []int64 {
			n := someSpec(r)
			return append(n, from(r, n[1], api.MaxRate), from(r, 0, million))
		},
		edges: append(specEdges(), around(1, api.MaxRate), around(0, million)),
		say: func(n []int64) (api.Object, api.Errno) {
			return object.Wish(api.Flow{Spec: specOf(n), R: n[5], Slack: n[6]})
		},
		hear: func(o api.Object) ([]int64, api.Errno) {
			x, e := object.AsWish(o)
			return append(numbersOf(x.Spec), x.R, x.Slack), e
		},
	}
}

func specThing() thing {
	return thing{
		name: "Spec", class: 12, kind: 2, size: 5, count: 5,
		may:   func(n []int64) bool { return tspec.Check(specOf(n)) == api.OK },
		words: func(n []int64) []int64 { return []int64{n[1], n[2], n[0], n[4], n[3]} },
		read:  func(w []int64) []int64 { return []int64{w[2], w[0], w[1], w[4], w[3]} },
		some:  someSpec,
		edges: specEdges(),
		say:   func(n []int64) (api.Object, api.Errno) { return object.Spec(specOf(n)) },
		hear:  func(o api.Object) ([]int64, api.Errno) { x, e := object.AsSpec(o); return numbersOf(x), e },
	}
}

func termsThing() thing {
	t := pairOf("Terms", 13, 2, [2]int64{0, 0}, [2]int64{mostC, million})
	t.may = func(n []int64) bool { return bound.Check(api.Terms{C: n[0], D: n[1]}) == api.OK }
	t.say = func(n []int64) (api.Object, api.Errno) { return object.Terms(api.Terms{C: n[0], D: n[1]}) }
	t.hear = func(o api.Object) ([]int64, api.Errno) { x, e := object.AsTerms(o); return []int64{x.C, x.D}, e }
	return t
}

func things() []thing {
	period, tell := oneOf("Period", 5, 1, million), oneOf("Tell", 15, 0, 15)
	numberSays(&period, object.Period, object.AsPeriod)
	numberSays(&tell, object.Tell, object.AsTell)
	filter := pairOf("Filter", 10, 1, [2]int64{0, 1}, [2]int64{15, 65535})
	sender := pairOf("Sender", 11, 1, [2]int64{0, 1}, [2]int64{15, 65535})
	senderSays(&filter, object.Filter, object.AsFilter)
	senderSays(&sender, object.Sender, object.AsSender)
	return []thing{sessionThing(), hopThing(), period, faultThing(), styleThing(), wishThing(), filter, sender, specThing(), termsThing(), tell}
}

// says fails unless the calls answer of those numbers what they must.
func (x thing) says(t *testing.T, n []int64) bool {
	t.Helper()
	got, e := x.say(n)
	if !x.may(n) {
		if e != api.ErrArg || !reflect.DeepEqual(got, api.Object{}) {
			t.Fatalf("%s %v: %v, %v; must be ErrArg", x.name, n, got, e)
		}
		return false
	}
	if want := one(x.class, x.kind, x.words(n)...); e != api.OK || !reflect.DeepEqual(got, want) {
		t.Fatalf("%s %v: %v, %v; must be %v", x.name, n, got, e, want)
	}
	x.hears(t, got, n)
	return true
}

// hears fails unless an object says those numbers.
func (x thing) hears(t *testing.T, o api.Object, want []int64) {
	t.Helper()
	if got, e := x.hear(o); e != api.OK || !slices.Equal(got, want) {
		t.Fatalf("As%s %v: %v, %v; must be %v", x.name, o, got, e, want)
	}
}

// isDeaf fails unless an object says no such thing.
func (x thing) isDeaf(t *testing.T, o api.Object) {
	t.Helper()
	if got, e := x.hear(o); e != api.ErrSays || !slices.Equal(got, make([]int64, x.size)) {
		t.Fatalf("As%s %v: %v, %v; must be ErrSays", x.name, o, got, e)
	}
}

// answers fails unless an object says what it must, or no such thing.
func (x thing) answers(t *testing.T, o api.Object) bool {
	t.Helper()
	isNoWord := func(w int64) bool { return !is(0, w, mostWord) }
	if o.Class == x.class && o.Type == x.kind && len(o.Words) == x.count && !slices.ContainsFunc(o.Words, isNoWord) {
		if n := x.read(o.Words); x.may(n) {
			x.hears(t, o, n)
			return true
		}
	}
	x.isDeaf(t, o)
	return false
}

func TestSayExamples(t *testing.T) {
	for _, c := range []struct {
		say  func() (api.Object, api.Errno)
		want api.Object
	}{
		{func() (api.Object, api.Errno) { return object.Session(api.Session{Node: 2, Port: 5}) }, one(1, 1, 2, 285212677)},
		{func() (api.Object, api.Errno) { return object.Session(api.Session{Node: 15, Port: 65535}) }, one(1, 1, 15, 285278207)},
		{func() (api.Object, api.Errno) { return object.Hop(api.Hop{Node: 1, Link: 47}) }, one(3, 1, 1, 47)},
		{func() (api.Object, api.Errno) { return object.Hop(api.Hop{}) }, one(3, 1, 0, 0)},
		{func() (api.Object, api.Errno) { return object.Period(30) }, one(5, 1, 30)},
		{func() (api.Object, api.Errno) { return object.Period(1000000) }, one(5, 1, 1000000)},
		{func() (api.Object, api.Errno) { return object.Fault(api.Fault{Node: 3, Code: 2, Value: 7}) }, one(6, 1, 3, 131079)},
		{func() (api.Object, api.Errno) { return object.Fault(api.Fault{Node: 15, Code: 255, Value: 65535}) }, one(6, 1, 15, 16777215)},
		{func() (api.Object, api.Errno) { return object.Style(api.StyleFixed) }, one(8, 1, 10)},
		{func() (api.Object, api.Errno) { return object.Style(api.StyleShared) }, one(8, 1, 18)},
		{func() (api.Object, api.Errno) { return object.Style(api.StyleAny) }, one(8, 1, 17)},
		{func() (api.Object, api.Errno) {
			return object.Wish(api.Flow{Spec: api.Spec{Peak: 10, Rate: 2, Burst: 20, Most: 8, Least: 1}, R: 4, Slack: 6})
		}, one(9, 2, 2, 20, 10, 1, 8, 4, 6)},
		{func() (api.Object, api.Errno) { return object.Filter(api.Sender{Node: 4, Port: 9}) }, one(10, 1, 4, 9)},
		{func() (api.Object, api.Errno) { return object.Sender(api.Sender{Node: 4, Port: 9}) }, one(11, 1, 4, 9)},
		{func() (api.Object, api.Errno) {
			return object.Spec(api.Spec{Peak: 10, Rate: 2, Burst: 20, Most: 8, Least: 1})
		}, one(12, 2, 2, 20, 10, 1, 8)},
		{func() (api.Object, api.Errno) { return object.Terms(api.Terms{C: 8, D: 3}) }, one(13, 2, 8, 3)},
		{func() (api.Object, api.Errno) { return object.Tell(15) }, one(15, 1, 15)},
	} {
		if got, e := c.say(); e != api.OK || !reflect.DeepEqual(got, c.want) {
			t.Errorf("%v, %v; must be %v", got, e, c.want)
		}
	}
}

func TestHearExamples(t *testing.T) {
	wish := api.Flow{Spec: api.Spec{Peak: 10, Rate: 2, Burst: 20, Most: 8, Least: 1}, R: 4, Slack: 6}
	if x, e := object.AsSession(one(1, 1, 2, 285212677)); e != api.OK || x != (api.Session{Node: 2, Port: 5}) {
		t.Errorf("AsSession: %v, %v", x, e)
	}
	if x, e := object.AsFault(one(6, 1, 3, 131079)); e != api.OK || x != (api.Fault{Node: 3, Code: 2, Value: 7}) {
		t.Errorf("AsFault: %v, %v", x, e)
	}
	if x, e := object.AsStyle(one(8, 1, 17)); e != api.OK || x != api.StyleAny {
		t.Errorf("AsStyle: %v, %v", x, e)
	}
	if x, e := object.AsWish(one(9, 2, 2, 20, 10, 1, 8, 4, 6)); e != api.OK || x != wish {
		t.Errorf("AsWish: %v, %v", x, e)
	}
	if x, e := object.AsSpec(one(12, 2, 2, 20, 10, 1, 8)); e != api.OK || x != wish.Spec {
		t.Errorf("AsSpec: %v, %v", x, e)
	}
	if x, e := object.AsPeriod(one(5, 1, 0)); e != api.ErrSays || x != 0 {
		t.Errorf("AsPeriod: %v, %v", x, e)
	}
	if x, e := object.AsHop(one(3, 1, 1, 48)); e != api.ErrSays || x != (api.Hop{}) {
		t.Errorf("AsHop: %v, %v", x, e)
	}
}

// Each number goes over its edges, two of them at a time, of some that may be.
func TestSayEdges(t *testing.T) {
	r := source()
	for _, x := range things() {
		fine, wrong := 0, 0
		for range 20 {
			for i := range x.size {
				for k := range x.size {
					n := x.some(r)
					for _, n[i] = range x.edges[i] {
						for _, n[k] = range x.edges[k] {
							if x.says(t, n) {
								fine++
							} else {
								wrong++
							}
						}
					}
				}
			}
		}
		if fine < 40 || wrong < 200 {
			t.Errorf("%s: seen: %d fine, %d wrong", x.name, fine, wrong)
		}
	}
}

func TestSay(t *testing.T) {
	r := source()
	for _, x := range things() {
		for range 3000 {
			if n := x.some(r); !x.says(t, n) {
				t.Fatalf("%s %v must be", x.name, n)
			}
		}
	}
}

// Each word goes over its edges, and over some that are near to what is said.
func TestHearWords(t *testing.T) {
	r := source()
	for _, x := range things() {
		heard, deaf := 0, 0
		for range 300 {
			words := x.words(x.some(r))
			for i, w := range words {
				near := []int64{w, w - 1, w + 1, -w, ^w, w ^ 1<<16, w ^ 1<<24, w ^ 1<<28, w + 1<<32, w - 1<<32, w | 1<<62, w | -1<<63, anyWord(r)}
				for _, words[i] = range slices.Concat(near, around(0, mostWord), around(17<<24, 18<<24), x.edges[i]) {
					if x.answers(t, one(x.class, x.kind, words...)) {
						heard++
					} else {
						deaf++
					}
				}
				words[i] = w
			}
		}
		if heard < 300 || deaf < 3000 {
			t.Errorf("As%s: seen: %d heard, %d not", x.name, heard, deaf)
		}
	}
}

// All small numbers, and all small words, of what has one.
func TestSmallNumbers(t *testing.T) {
	for _, x := range things() {
		for n := int64(-300); n < 70000 && x.size == 1; n++ {
			x.says(t, []int64{n})
			x.answers(t, one(x.class, x.kind, n))
		}
	}
}

// Another Class, another Type, a word more or less, and the words of others.
func TestHearForms(t *testing.T) {
	r := source()
	for i, x := range things() {
		for range 50 {
			n := x.some(r)
			words := x.words(n)
			for c := -2; c < 300; c++ {
				if c != x.class {
					x.isDeaf(t, one(c, x.kind, words...))
				}
				if c != x.kind {
					x.isDeaf(t, one(x.class, c, words...))
				}
			}
			for _, c := range []int{256, 1 << 32, most, least} {
				x.isDeaf(t, one(x.class+c, x.kind, words...))
				x.isDeaf(t, one(x.class, x.kind+c, words...))
			}
			for k := range words {
				x.isDeaf(t, one(x.class, x.kind, words[:k]...))
			}
			for _, k := range []int{1, 2, 10, 64, 1000} {
				x.isDeaf(t, one(x.class, x.kind, append(slices.Clone(words), make([]int64, k)...)...))
			}
			for k, y := range things() {
				if o := one(y.class, y.kind, y.words(y.some(r))...); k != i {
					x.isDeaf(t, o)
				}
			}
		}
		for _, o := range wrongs() {
			x.isDeaf(t, o)
		}
	}
}

// What is handed in stays, and two answers share nothing.
func TestSayTellsNewMemory(t *testing.T) {
	r := source()
	for _, x := range things() {
		n := x.some(r)
		a, _ := x.say(n)
		b, _ := x.say(n)
		words := append(slices.Clone(a.Words), 77)
		o := one(x.class, x.kind, words[:len(a.Words)]...)
		x.hears(t, o, n)
		if !slices.Equal(words, append(slices.Clone(a.Words), 77)) {
			t.Errorf("As%s changed %v", x.name, words)
		}
		for _, l := range [][]int64{a.Words, append(a.Words, 99)} {
			for i := range l {
				l[i] = -99
			}
		}
		x.hears(t, b, n)
		if c, e := x.say(n); e != api.OK || !reflect.DeepEqual(c, b) {
			t.Errorf("%s: answers share: %v %v", x.name, c, b)
		}
	}
}

// P7.3: what follows is asked of the program's own answers.

func TestParseOfRaw(t *testing.T) {
	r := source()
	for n := range 41 {
		for range 50 {
			l := anyObjects(r, n)
			b, e := object.Raw(l...)
			if e != api.OK {
				t.Fatalf("Raw %v: %v", l, e)
			}
			got, e := object.Parse(b)
			if e != api.OK || len(got) != n || !isLike(got, l) {
				t.Fatalf("Parse of Raw %v: %v, %v", l, got, e)
			}
			for i := range l {
				if !object.Same(l[i], got[i]) {
					t.Fatalf("Parse of Raw %v: %v is another one", l[i], got[i])
				}
			}
		}
	}
}

// Whatever bytes are parsed, with each byte of theirs another one in turn.
func TestRawOfParse(t *testing.T) {
	r := source()
	fine := 0
	check := func(b []byte) {
		l, e := object.Parse(b)
		if e != api.OK {
			return
		}
		fine++
		if got, e := object.Raw(l...); e != api.OK || !bytes.Equal(got, b) {
			t.Fatalf("Raw of Parse % x: % x, %v", b, got, e)
		}
	}
	for range 300 {
		b := bytesOf(anyObjects(r, r.IntN(4))...)
		check(b)
		for i := range b {
			was := b[i]
			for range 4 {
				b[i] = byte(r.Uint32())
				check(b)
			}
			b[i] = was
		}
	}
	if fine < 10000 {
		t.Errorf("seen: %d fine", fine)
	}
}

// What is said is read, over its bytes too, by the one call that it is for.
func TestWhatIsSaidIsRead(t *testing.T) {
	r := source()
	all := things()
	for range 300 {
		var l []api.Object
		var said [][]int64
		for _, x := range all {
			n := x.some(r)
			o, e := x.say(n)
			if e != api.OK {
				t.Fatalf("%s %v: %v", x.name, n, e)
			}
			l, said = append(l, o), append(said, n)
		}
		b, e := object.Raw(l...)
		if e != api.OK {
			t.Fatalf("Raw %v: %v", l, e)
		}
		read, e := object.Parse(b)
		if e != api.OK || len(read) != len(all) {
			t.Fatalf("Parse % x: %v, %v", b, read, e)
		}
		for i, o := range read {
			for k, x := range all {
				if i == k {
					x.hears(t, o, said[i])
				} else {
					x.isDeaf(t, o)
				}
			}
		}
	}
}

// Nothing else is read: what is, is said by just that object.
func TestNothingElseIsRead(t *testing.T) {
	r := source()
	for _, x := range things() {
		heard := 0
		for range 40000 {
			o := one(x.class, x.kind, x.words(x.some(r))...)
			for range r.IntN(3) {
				o.Words[r.IntN(len(o.Words))] = anyWord(r)
			}
			if !x.answers(t, o) {
				continue
			}
			heard++
			n, _ := x.hear(o)
			if got, e := x.say(n); e != api.OK || !object.Same(got, o) {
				t.Fatalf("As%s %v: %v, but that is said by %v, %v", x.name, o, n, got, e)
			}
		}
		if heard < 10000 || heard == 40000 {
			t.Errorf("As%s: seen: %d heard", x.name, heard)
		}
	}
}
