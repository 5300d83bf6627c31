package heap_test

import (
	"cmp"
	"iter"
	"math"
	"math/big"
	"math/rand/v2"
	"slices"
	"testing"

	"postroad/api"
	"postroad/heap"
)

// The tests hold each heap against a plain list of the same items, gone through
// from end to end, whose Keys math/big compares.

const (
	mostID    = 1 << 62
	mostItems = 100000
	most      = math.MaxInt64
	least     = math.MinInt64
)

// plain is the reckoning: items as they were put, and how many ever were.
type plain struct {
	items []api.Item
	turns int64
}

func (p *plain) find(id int64) int {
	return slices.IndexFunc(p.items, func(x api.Item) bool { return x.ID == id })
}

func (p *plain) put(id int64, key api.Rat) api.Errno {
	switch {
	case !mayBe(id, key):
		return api.ErrArg
	case p.find(id) >= 0:
		return api.ErrTwice
	}
	p.turns++
	p.items = append(p.items, api.Item{ID: id, Key: key, Turn: p.turns})
	return api.OK
}

func (p *plain) set(id int64, key api.Rat) api.Errno {
	switch {
	case !mayBe(id, key):
		return api.ErrArg
	case p.find(id) < 0:
		return api.ErrNone
	}
	p.items[p.find(id)].Key = key
	return api.OK
}

func (p *plain) drop(id int64) api.Errno {
	if p.find(id) < 0 {
		return api.ErrNone
	}
	p.items = slices.Delete(p.items, p.find(id), p.find(id)+1)
	return api.OK
}

func (p *plain) least() (api.Item, bool) {
	if len(p.items) == 0 {
		return api.Item{}, false
	}
	return slices.MinFunc(p.items, ahead), true
}

func (p *plain) take() (api.Item, bool) {
	x, isThere := p.least()
	p.drop(x.ID)
	return x, isThere
}

func (p *plain) copy() *plain { return &plain{slices.Clone(p.items), p.turns} }

func mayBe(id int64, key api.Rat) bool {
	if id < 0 || id > mostID || key.D < 1 || key.N == least {
		return false
	}
	x := big.NewRat(key.N, key.D)
	return x.Num().Int64() == key.N && x.Denom().Int64() == key.D
}

// ahead tells -1 if the one is ahead of the other, 1 if it is behind.
func ahead(a, b api.Item) int {
	keys := big.NewRat(a.Key.N, a.Key.D).Cmp(big.NewRat(b.Key.N, b.Key.D))
	return cmp.Or(keys, cmp.Compare(a.Turn, b.Turn))
}

func ordered(items []api.Item) []api.Item {
	out := slices.Clone(items)
	slices.SortFunc(out, ahead)
	return out
}

// holds holds a heap against its reckoning, by all that can be asked.
func holds(t *testing.T, h *heap.Heap, p *plain) {
	t.Helper()
	if h.Len() != len(p.items) {
		t.Fatalf("Len: %d, want %d", h.Len(), len(p.items))
	}
	want, wantThere := p.least()
	if x, isThere := h.Least(); x != want || isThere != wantThere {
		t.Fatalf("Least: %v %v, want %v %v", x, isThere, want, wantThere)
	}
	if l := slices.Collect(h.All()); !slices.Equal(l, ordered(p.items)) {
		t.Fatalf("All: %v, want %v", l, ordered(p.items))
	}
	for _, x := range p.items {
		if y, isThere := h.Get(x.ID); y != x || !isThere {
			t.Fatalf("Get(%d): %v %v, want %v", x.ID, y, isThere, x)
		}
	}
	for _, id := range append(noIDs(), 0, 1, 2, 7, mostID-1, mostID) {
		if x, isThere := h.Get(id); p.find(id) < 0 && (isThere || x != (api.Item{})) {
			t.Fatalf("Get(%d), which is not there: %v %v", id, x, isThere)
		}
	}
}

// told fails unless an error is what it must be.
func told(t *testing.T, what string, e, want api.Errno) {
	t.Helper()
	if e != want {
		t.Fatalf("%s: %v, want %v", what, e, want)
	}
}

// both are a heap and its reckoning, to which the same is done.
type both struct {
	t *testing.T
	h *heap.Heap
	p *plain
}

func newBoth(t *testing.T) both { return both{t, heap.New(), &plain{}} }

func (b both) put(id int64, key api.Rat) {
	b.t.Helper()
	told(b.t, "Put", b.h.Put(id, key), b.p.put(id, key))
}

func (b both) set(id int64, key api.Rat) {
	b.t.Helper()
	told(b.t, "Set", b.h.Set(id, key), b.p.set(id, key))
}

func (b both) drop(id int64) {
	b.t.Helper()
	told(b.t, "Drop", b.h.Drop(id), b.p.drop(id))
}

func (b both) take() {
	b.t.Helper()
	want, wantThere := b.p.take()
	if x, isThere := b.h.Take(); x != want || isThere != wantThere {
		b.t.Fatalf("Take: %v %v, want %v %v", x, isThere, want, wantThere)
	}
}

func (b both) holds() {
	b.t.Helper()
	holds(b.t, b.h, b.p)
}

// any does one thing at random, at times one that may not be.
func (b both) any(r *rand.Rand, ids int64, key func(r *rand.Rand) api.Rat) {
	b.t.Helper()
	id := r.Int64N(ids)
	switch r.IntN(12) {
	case 0, 1, 2, 3:
		b.put(id, key(r))
	case 4, 5, 6:
		b.set(id, key(r))
	case 7, 8:
		b.drop(id)
	case 9, 10:
		b.take()
	default:
		switch wrong := noIDs()[r.IntN(len(noIDs()))]; r.IntN(5) {
		case 0:
			b.put(wrong, key(r))
		case 1:
			b.set(wrong, key(r))
		case 2:
			b.drop(wrong)
		case 3:
			b.put(id, noKeys()[r.IntN(len(noKeys()))])
		default:
			b.set(id, noKeys()[r.IntN(len(noKeys()))])
		}
	}
}

func source(n uint64) *rand.Rand { return rand.New(rand.NewPCG(n, 11)) }

func whole(n int64) api.Rat { return api.Rat{N: n, D: 1} }

func fraction(n, d int64) api.Rat {
	x := big.NewRat(n, d)
	return api.Rat{N: x.Num().Int64(), D: x.Denom().Int64()}
}

// fewKeys are of so few that many are the same.
func fewKeys(r *rand.Rand) api.Rat { return fraction(r.Int64N(7)-3, 1+r.Int64N(3)) }

func oneKey(*rand.Rand) api.Rat { return fraction(1, 2) }

func smallKeys(r *rand.Rand) api.Rat { return fraction(r.Int64N(2001)-1000, 1+r.Int64N(30)) }

// greatKeys are near each other, and their parts near the bounds.
func greatKeys(r *rand.Rand) api.Rat {
	n, d := most-r.Int64N(20), most-r.Int64N(20)
	switch r.IntN(4) {
	case 0:
		return fraction(-n, d)
	case 1:
		return fraction(n, 1+r.Int64N(3))
	}
	return fraction(n, d)
}

func noIDs() []int64 { return []int64{-1, -2, mostID + 1, mostID + 2, most, least, least + 1, -mostID} }

func noKeys() []api.Rat {
	return []api.Rat{{}, {N: 1}, {D: 2}, {D: most}, {N: 2, D: 4}, {N: -3, D: 3}, {N: 1, D: -1}, {N: -1, D: -2},
		{D: -1}, {N: least, D: 1}, {N: least, D: 3}, {N: 1, D: least}, {N: least, D: least}, {N: most, D: most}}
}

// ofNone are heaps that are none.
func ofNone() []*heap.Heap { return []*heap.Heap{nil, {}, new(heap.Heap)} }

// heapOf tells a heap of those keys, whose IDs count from 1 on.
func heapOf(t *testing.T, keys ...api.Rat) *heap.Heap {
	t.Helper()
	h := heap.New()
	for n, key := range keys {
		told(t, "Put", h.Put(int64(n+1), key), api.OK)
	}
	return h
}

// fullHeap tells a heap of all that may be, the last one the least.
func fullHeap(t *testing.T) *heap.Heap {
	t.Helper()
	h := heap.New()
	for n := range int64(mostItems) {
		told(t, "Put", h.Put(n, whole(-n)), api.OK)
	}
	return h
}

func idsOf(items iter.Seq[api.Item]) []int64 {
	var out []int64
	for x := range items {
		out = append(out, x.ID)
	}
	return out
}

// takenOf takes all out.
func takenOf(h *heap.Heap) []api.Item {
	var out []api.Item
	for x, isThere := h.Take(); isThere; x, isThere = h.Take() {
		out = append(out, x)
	}
	return out
}

func TestTheExamples(t *testing.T) {
	h := heap.New()
	told(t, "Put(7, 1/2)", h.Put(7, fraction(1, 2)), api.OK)
	told(t, "Put(3, 1/3)", h.Put(3, fraction(1, 3)), api.OK)
	told(t, "Put(9, 1/2)", h.Put(9, fraction(1, 2)), api.OK)
	if x, isThere := h.Least(); !isThere || x != (api.Item{ID: 3, Key: fraction(1, 3), Turn: 2}) {
		t.Errorf("Least: %v %v", x, isThere)
	}
	told(t, "Set(9, 0)", h.Set(9, whole(0)), api.OK)
	for _, want := range []api.Item{
		{ID: 9, Key: whole(0), Turn: 3}, {ID: 3, Key: fraction(1, 3), Turn: 2}, {ID: 7, Key: fraction(1, 2), Turn: 1},
	} {
		if x, isThere := h.Take(); !isThere || x != want {
			t.Errorf("Take: %v %v, want %v", x, isThere, want)
		}
	}
	if x, isThere := h.Take(); isThere || x != (api.Item{}) {
		t.Errorf("Take of nothing: %v %v", x, isThere)
	}
	told(t, "Put(7, 1)", h.Put(7, whole(1)), api.OK)
	told(t, "Put(7, 2)", h.Put(7, whole(2)), api.ErrTwice)
	told(t, "Drop(8)", h.Drop(8), api.ErrNone)
}

// P11.1

func TestNewIsWithoutItems(t *testing.T) {
	a, b := newBoth(t), newBoth(t)
	a.holds()
	a.put(1, whole(1))
	b.holds() // another one is another one
	a.holds()
}

func TestPutIsThere(t *testing.T) {
	for _, keys := range []func(r *rand.Rand) api.Rat{fewKeys, oneKey, smallKeys, greatKeys} {
		b, r := newBoth(t), source(1)
		for n := range int64(60) {
			b.put(n*37%61, keys(r))
			b.holds()
		}
	}
}

func TestPutAtTheBounds(t *testing.T) {
	b := newBoth(t)
	for _, id := range []int64{0, mostID, 1, mostID - 1, 1 << 31, 1<<32 + 1, 1 << 53, 1<<53 + 1} {
		b.put(id, whole(-id))
		b.holds()
	}
	for n, key := range []api.Rat{
		{N: most, D: 1}, {N: -most, D: 1}, {N: 1, D: most}, {N: -1, D: most}, {D: 1}, {N: most, D: most - 1}, {N: most - 1, D: most},
		{N: -most, D: most - 1}, {N: 1 - most, D: most}, {N: most - 1, D: 1}, {N: 1, D: most - 1},
	} {
		b.put(int64(n+10), key)
		b.holds()
	}
	if b.h.Len() != 19 {
		t.Errorf("Len: %d", b.h.Len())
	}
}

// Where several errors apply, the one that stands first in the call's sentence
// is told; nothing has changed then, and no Turn is used up.
func TestRefusalsChangeNothing(t *testing.T) {
	b := newBoth(t)
	b.put(4, fraction(1, 2))
	b.put(0, fraction(1, 3))
	for _, key := range append(noKeys(), whole(-5)) {
		for _, id := range append(noIDs(), 4, 5) {
			if mayBe(id, key) {
				continue
			}
			told(t, "Put", b.h.Put(id, key), api.ErrArg)
			told(t, "Set", b.h.Set(id, key), api.ErrArg)
		}
	}
	told(t, "Put of what is there", b.h.Put(4, whole(-5)), api.ErrTwice)
	told(t, "Put of the same", b.h.Put(4, fraction(1, 2)), api.ErrTwice)
	told(t, "Set of what is not there", b.h.Set(5, whole(-5)), api.ErrNone)
	for _, id := range append(noIDs(), 1, 5, mostID) {
		told(t, "Drop of what is not there", b.h.Drop(id), api.ErrNone)
	}
	b.holds()
	b.put(5, whole(7))
	b.holds()
	if x, _ := b.h.Get(5); x.Turn != 3 {
		t.Errorf("Turn: %d, want 3", x.Turn)
	}
}

func TestTurnsGoOn(t *testing.T) {
	h := heap.New()
	turns := func(id, want int64) {
		t.Helper()
		told(t, "Put", h.Put(id, whole(id)), api.OK)
		if x, _ := h.Get(id); x.Turn != want {
			t.Errorf("Turn of %d: %d, want %d", id, x.Turn, want)
		}
	}
	turns(5, 1)
	turns(3, 2)
	h.Drop(3)
	turns(3, 3)
	h.Take()
	turns(9, 4)
	h.Set(9, whole(-9))
	h.Set(5, whole(9))
	turns(4, 5)
	for range 5 {
		h.Take()
	}
	turns(5, 6)
}

func TestSetKeepsTheTurn(t *testing.T) {
	b, r := newBoth(t), source(2)
	for n := range int64(40) {
		b.put(n, fewKeys(r))
	}
	for range 400 {
		id := r.Int64N(40)
		was, _ := b.h.Get(id)
		key := fewKeys(r)
		b.set(id, key)
		if x, isThere := b.h.Get(id); !isThere || x != (api.Item{ID: id, Key: key, Turn: was.Turn}) {
			t.Fatalf("Get(%d): %v %v, was %v", id, x, isThere, was)
		}
		b.holds()
	}
}

// Each of some items is brought to each place by a Key between those of others.
func TestSetFromEachPlaceToEach(t *testing.T) {
	for items := int64(1); items <= 17; items++ {
		for id := range items {
			for place := int64(-1); place < items; place++ {
				b := newBoth(t)
				for n := range items {
					b.put(n, whole(2*n))
				}
				b.set(id, whole(2*place+1))
				b.holds()
				b.set(id, whole(2*place)) // as great as another one's, at times
				b.holds()
			}
		}
	}
}

func TestDropFromEachPlace(t *testing.T) {
	r := source(3)
	for items := int64(1); items <= 33; items++ {
		for id := range items {
			b := newBoth(t)
			for n := range items {
				b.put(n, whole(r.Int64N(3*items)))
			}
			b.drop(id)
			b.holds()
			b.drop(id)
			b.put(id, whole(0))
			b.holds()
		}
	}
}

// The last one, which comes where another one went, may have to rise there.
func TestDropBringsTheLastOneUp(t *testing.T) {
	b := newBoth(t)
	for id, n := range []int64{0, 10, 1, 11, 12, 2, 3, 13, 14, 15, 16, 4} {
		b.put(int64(id), whole(n))
	}
	b.drop(7)
	b.holds()
	for b.h.Len() > 0 {
		b.take()
		b.holds()
	}
}

func TestAFullHeap(t *testing.T) {
	h := fullHeap(t)
	if h.Len() != mostItems {
		t.Fatalf("Len: %d", h.Len())
	}
	for range 2 {
		told(t, "one too many", h.Put(mostItems, whole(0)), api.ErrLong)
		told(t, "one too many", h.Put(mostID, fraction(1, 2)), api.ErrLong)
		told(t, "one that is there", h.Put(mostItems-1, whole(0)), api.ErrTwice)
		told(t, "one that may not be", h.Put(-1, whole(0)), api.ErrArg)
		told(t, "a Key that may not be", h.Put(mostItems-1, api.Rat{}), api.ErrArg)
		told(t, "a Key that may not be", h.Put(mostItems, api.Rat{}), api.ErrArg)
	}
	if x, isThere := h.Least(); h.Len() != mostItems || !isThere || x != (api.Item{ID: mostItems - 1, Key: whole(1 - mostItems), Turn: mostItems}) {
		t.Fatalf("a refusal has changed it: %d, %v", h.Len(), x)
	}
	told(t, "Set", h.Set(0, whole(-mostItems)), api.OK)
	if x, _ := h.Take(); x != (api.Item{ID: 0, Key: whole(-mostItems), Turn: 1}) {
		t.Fatalf("Take: %v", x)
	}
	told(t, "Drop", h.Drop(500), api.OK)
	told(t, "one again", h.Put(mostID, whole(1)), api.OK)
	told(t, "one more", h.Put(500, whole(2)), api.OK)
	told(t, "one too many", h.Put(0, whole(0)), api.ErrLong)
	if x, _ := h.Get(500); x != (api.Item{ID: 500, Key: whole(2), Turn: mostItems + 2}) {
		t.Fatalf("Get: %v", x)
	}
	l := takenOf(h)
	if len(l) != mostItems || !slices.IsSortedFunc(l, ahead) || l[mostItems-1].ID != 500 || l[mostItems-2].ID != mostID {
		t.Fatalf("%d were there, or in another order", len(l))
	}
}

func TestHeapsThatAreNone(t *testing.T) {
	for _, h := range ofNone() {
		for _, id := range append(noIDs(), 0, 1, mostID) {
			for _, key := range append(noKeys(), whole(0), whole(1)) {
				told(t, "Put", h.Put(id, key), api.ErrNil)
				told(t, "Set", h.Set(id, key), api.ErrNil)
			}
			told(t, "Drop", h.Drop(id), api.ErrNil)
			if x, isThere := h.Get(id); isThere || x != (api.Item{}) {
				t.Errorf("Get: %v %v", x, isThere)
			}
		}
		if x, isThere := h.Take(); isThere || x != (api.Item{}) {
			t.Errorf("Take: %v %v", x, isThere)
		}
		if x, isThere := h.Least(); isThere || x != (api.Item{}) {
			t.Errorf("Least: %v %v", x, isThere)
		}
		if h.Len() != 0 || h.Copy() != nil {
			t.Errorf("Len, Copy: %d, %v", h.Len(), h.Copy())
		}
		all := h.All()
		if all == nil {
			t.Fatal("All is not there")
		}
		for range 2 {
			for x := range all {
				t.Errorf("All: %v", x)
			}
		}
	}
}

// P11.2

func TestNothingIsThere(t *testing.T) {
	b := newBoth(t)
	b.take()
	b.holds()
	b.put(0, whole(0)) // an item of noughts, but for its Turn
	b.holds()
	b.take()
	b.take()
	b.holds()
	b.put(0, whole(0))
	b.drop(0)
	b.take()
	b.holds()
}

func TestOfOneKeyTheFirstGoesFirst(t *testing.T) {
	h := heap.New()
	ids := source(4).Perm(500)
	for _, id := range ids {
		told(t, "Put", h.Put(int64(id), fraction(5, 3)), api.OK)
	}
	for _, id := range ids[:250] { // away, and back again
		told(t, "Set", h.Set(int64(id), whole(int64(id%7))), api.OK)
	}
	for _, id := range ids[:250] {
		told(t, "Set", h.Set(int64(id), fraction(5, 3)), api.OK)
	}
	for n, id := range ids {
		if x, isThere := h.Take(); !isThere || x != (api.Item{ID: int64(id), Key: fraction(5, 3), Turn: int64(n + 1)}) {
			t.Fatalf("Take: %v %v, want %d", x, isThere, id)
		}
	}
}

// Keys that differ by less than any number of 64 bits with a point can tell.
func TestKeysThatAreNearEachOther(t *testing.T) {
	b := newBoth(t)
	for n := range int64(40) {
		b.put(2*n, fraction(most-1-n, most-n))
		b.put(2*n+1, fraction(n-most, most-1-n))
		b.holds()
	}
	for b.h.Len() > 0 {
		b.take()
	}
}

func TestAskingChangesNothing(t *testing.T) {
	b, r := newBoth(t), source(5)
	for n := range int64(50) {
		b.put(n, smallKeys(r))
	}
	was := b.h.Copy()
	for range 3 {
		b.holds()
	}
	if !heap.Same(was, b.h) {
		t.Error("it has changed")
	}
}

func TestAllMayBeLeftAndGoneOverAgain(t *testing.T) {
	h := heapOf(t, whole(3), whole(1), fraction(1, 2), whole(1), whole(-2), whole(7))
	want := []int64{5, 3, 2, 4, 1, 6}
	all := h.All()
	for n := range len(want) + 1 {
		var got []int64
		for x := range all {
			if len(got) == n {
				break
			}
			got = append(got, x.ID)
		}
		if !slices.Equal(got, want[:n]) {
			t.Errorf("left behind %d: %v, want %v", n, got, want[:n])
		}
	}
	for range 3 {
		if got := idsOf(all); !slices.Equal(got, want) {
			t.Errorf("again: %v, want %v", got, want)
		}
	}
	var pairs int
	for x := range all { // two ranges at once do not meet
		if got := idsOf(all); !slices.Equal(got, want) || x.ID != want[pairs] {
			t.Errorf("within another one: %v, at %v", got, x)
		}
		pairs++
	}
	if pairs != len(want) {
		t.Errorf("%d pairs", pairs)
	}
}

func TestAllIsAsItWasWhenItWasCalled(t *testing.T) {
	b := newBoth(t)
	for n := range int64(20) {
		b.put(n, whole(n*7%20))
	}
	all, want := b.h.All(), ordered(b.p.items)
	isAsItWas := func() {
		t.Helper()
		if got := slices.Collect(all); !slices.Equal(got, want) {
			t.Fatalf("All: %v, want %v", got, want)
		}
	}
	for n := range int64(20) {
		b.set(n, whole(-n))
		isAsItWas()
	}
	b.put(20, whole(-30))
	isAsItWas()
	b.drop(7)
	isAsItWas()
	for b.h.Len() > 0 {
		b.take()
		isAsItWas()
	}
	b.put(1, whole(1))
	isAsItWas()
	b.holds()
}

func TestAHeapMayChangeWhileAllIsGoneOver(t *testing.T) {
	b := newBoth(t)
	for n := range int64(30) {
		b.put(n, fraction(n*11%30, 4))
	}
	want := ordered(b.p.items)
	var n int
	for x := range b.h.All() {
		if x != want[n] {
			t.Fatalf("the %dth is %v, want %v", n, x, want[n])
		}
		switch n++; n % 4 {
		case 0:
			b.drop(x.ID)
		case 1:
			b.take()
		case 2:
			b.put(int64(100+n), whole(-1))
		default:
			b.set(x.ID, whole(50)) // it is not there any more, at times
		}
	}
	if n != len(want) {
		t.Errorf("%d were gone over, want %d", n, len(want))
	}
	b.holds()
}

func TestLivesAtRandom(t *testing.T) {
	for n, keys := range []func(r *rand.Rand) api.Rat{fewKeys, oneKey, smallKeys, greatKeys} {
		r := source(uint64(10 + n))
		for range 60 {
			b, ids := newBoth(t), 1+r.Int64N(40)
			for range 200 {
				b.any(r, ids, keys)
				b.holds()
			}
		}
	}
}

func TestALongLife(t *testing.T) {
	b, r := newBoth(t), source(20)
	for n := range 6000 {
		b.any(r, 700, smallKeys)
		if n%500 == 0 {
			b.holds()
		}
	}
	b.holds()
}

// P11.3

func TestCopyGoesOnApart(t *testing.T) {
	r := source(21)
	for range 100 {
		a := newBoth(t)
		for range r.IntN(60) {
			a.any(r, 30, fewKeys)
		}
		b := both{t, a.h.Copy(), a.p.copy()}
		if b.h == nil || a.h == b.h || !heap.Same(a.h, b.h) {
			t.Fatal("Copy is not another one of the same")
		}
		b.holds()
		for range 40 {
			a.any(r, 30, smallKeys)
			b.holds()
			b.any(r, 30, smallKeys)
			a.holds()
		}
		a.holds()
		b.holds()
	}
}

// What is left behind the items of one is not another one's.
func TestCopiesHaveTheirOwnRoom(t *testing.T) {
	a := newBoth(t)
	for n := range int64(9) {
		a.put(n, whole(n))
	}
	for range 4 {
		a.take()
	}
	b := both{t, a.h.Copy(), a.p.copy()}
	c := both{t, a.h.Copy(), a.p.copy()}
	for n := range int64(5) {
		a.put(20+n, whole(-n))
		b.put(30+n, whole(-2*n))
		c.put(40+n, whole(9+n))
	}
	a.holds()
	b.holds()
	c.holds()
}

func TestCopiesGoOnWithTheSameTurn(t *testing.T) {
	a := heapOf(t, whole(1), whole(2), whole(3))
	a.Drop(3)
	b := a.Copy()
	for _, h := range []*heap.Heap{a, b} {
		told(t, "Put", h.Put(8, whole(8)), api.OK)
		if x, _ := h.Get(8); x.Turn != 4 {
			t.Errorf("Turn: %d, want 4", x.Turn)
		}
	}
	empty := heap.New().Copy()
	if empty == nil || empty.Len() != 0 || !heap.Same(empty, heap.New()) {
		t.Fatal("Copy of one without items is no such one")
	}
	told(t, "Put", empty.Put(1, whole(1)), api.OK)
}

func TestCopyOfAFullHeap(t *testing.T) {
	a := fullHeap(t)
	b := a.Copy()
	if !heap.Same(a, b) {
		t.Fatal("not the same")
	}
	told(t, "Put", b.Put(mostItems, whole(0)), api.ErrLong)
	b.Set(70000, fraction(1, 2))
	if heap.Same(a, b) || heap.Same(b, a) {
		t.Error("the same")
	}
	b.Set(70000, whole(-70000))
	if !heap.Same(a, b) || !heap.Same(b, a) {
		t.Error("not the same any more")
	}
}

func TestSameOfNone(t *testing.T) {
	for _, a := range ofNone() {
		for _, b := range ofNone() {
			if !heap.Same(a, b) {
				t.Error("two of none are not the same")
			}
		}
		for _, b := range []*heap.Heap{heap.New(), heapOf(t, whole(1)), heap.New().Copy()} {
			if heap.Same(a, b) || heap.Same(b, a) {
				t.Error("one of none is like one that is there")
			}
		}
	}
}

func TestSameIsOfTheItems(t *testing.T) {
	some := func() *heap.Heap { return heapOf(t, whole(4), fraction(1, 2), whole(2), whole(2)) }
	h := some()
	if !heap.Same(h, h) || !heap.Same(h, some()) || !heap.Same(heap.New(), heap.New()) {
		t.Error("the same are not the same")
	}
	for name, change := range map[string]func(h *heap.Heap){
		"one less":            func(h *heap.Heap) { h.Drop(4) },
		"the least less":      func(h *heap.Heap) { h.Take() },
		"one more":            func(h *heap.Heap) { h.Put(5, whole(9)) },
		"another Key":         func(h *heap.Heap) { h.Set(1, whole(5)) },
		"another Key of less": func(h *heap.Heap) { h.Set(2, fraction(1, 3)) },
		"another ID":          func(h *heap.Heap) { h.Drop(4); h.Put(5, whole(2)) },
		"another Turn":        func(h *heap.Heap) { h.Drop(4); h.Put(4, whole(2)) },
		"Keys changed":        func(h *heap.Heap) { h.Set(1, fraction(1, 2)); h.Set(2, whole(4)) },
		"none":                func(h *heap.Heap) { takenOf(h) },
	} {
		other := some()
		change(other)
		if heap.Same(h, other) || heap.Same(other, h) {
			t.Errorf("%s: the same", name)
		}
	}
}

// Where the items stood, and what once was there, does not count.
func TestSameWhateverWasAhead(t *testing.T) {
	r := source(22)
	for range 300 {
		a, b := heap.New(), heap.New()
		keys := make([]api.Rat, 1+r.IntN(12))
		for n := range keys {
			keys[n] = fewKeys(r)
			a.Put(int64(n), keys[n])
			b.Put(int64(n), smallKeys(r))
		}
		for _, n := range r.Perm(len(keys)) {
			b.Set(int64(n), smallKeys(r))
		}
		for _, n := range r.Perm(len(keys)) {
			b.Set(int64(n), keys[n])
		}
		b.Put(mostID, whole(-9))
		b.Take()
		if !heap.Same(a, b) || !heap.Same(b, a) {
			t.Fatalf("%v and %v are not the same", slices.Collect(a.All()), slices.Collect(b.All()))
		}
		if x, y := takenOf(a), takenOf(b); !slices.Equal(x, y) {
			t.Fatalf("%v and %v were the same", x, y)
		}
	}
}

// P11.4: what follows is asked of the program's own answers.

func TestWhatIsTakenOutRisesAndIsAll(t *testing.T) {
	for n, keys := range []func(r *rand.Rand) api.Rat{fewKeys, oneKey, smallKeys, greatKeys} {
		r := source(uint64(30 + n))
		for range 40 {
			h, ids := heap.New(), 1+r.Int64N(300)
			there := map[int64]api.Rat{}
			for range 2 * ids {
				id, key := r.Int64N(ids), keys(r)
				switch r.IntN(4) {
				case 0:
					h.Drop(id)
					delete(there, id)
				default:
					if h.Put(id, key) != api.OK {
						h.Set(id, key)
					}
					there[id] = key
				}
			}
			all := slices.Collect(h.All())
			out := takenOf(h)
			if len(out) != len(there) || !slices.Equal(out, all) || h.Len() != 0 {
				t.Fatalf("%d were taken out, %d were told, %d were there", len(out), len(all), len(there))
			}
			for n, x := range out {
				if key, isThere := there[x.ID]; !isThere || key != x.Key {
					t.Fatalf("%v was not there", x)
				}
				delete(there, x.ID)
				if n > 0 && ahead(out[n-1], x) >= 0 {
					t.Fatalf("%v behind %v", x, out[n-1])
				}
			}
		}
	}
}

func TestWhatIsTakenOutOfAFullHeap(t *testing.T) {
	h, r := heap.New(), source(40)
	for _, id := range r.Perm(mostItems) {
		told(t, "Put", h.Put(int64(id), smallKeys(r)), api.OK)
	}
	was := h.Copy()
	out := takenOf(h)
	if len(out) != mostItems || !slices.IsSortedFunc(out, ahead) {
		t.Fatalf("%d were taken out, or in another order", len(out))
	}
	for _, x := range out {
		if y, isThere := was.Get(x.ID); !isThere || x != y {
			t.Fatalf("%v was taken out, %v was there", x, y)
		}
		told(t, "Drop", was.Drop(x.ID), api.OK)
	}
}
