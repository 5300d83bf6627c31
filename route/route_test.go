package route_test

import (
	"cmp"
	"math"
	"math/rand/v2"
	"slices"
	"sync"
	"testing"

	"postroad/api"
	"postroad/bound"
	"postroad/route"
	"postroad/topo"
)

// The tests hold each answer against ways as lists of nodes: all of them, where
// there are few, gone through from end to end; else the best ones, bettered by
// each link till none is better any more.

const (
	most  = math.MaxInt64
	least = math.MinInt64
)

// link is one of ordinary numbers.
func link(from, to int) api.Link {
	return api.Link{From: from, To: to, Rate: 10, Share: 7, Far: 2, Most: 8, Room: 100, Fifo: 50}
}

// pairs are links and their ways back, one behind the other.
func pairs(ends ...[2]int) []api.Link {
	var out []api.Link
	for _, x := range ends {
		out = append(out, link(x[0], x[1]), link(x[1], x[0]))
	}
	return out
}

// line is nodes one behind the other.
func line(nodes int) []api.Link {
	var out []api.Link
	for n := 1; n < nodes; n++ {
		out = append(out, pairs([2]int{n - 1, n})...)
	}
	return out
}

// ring is a line that is closed.
func ring(nodes int) []api.Link { return append(line(nodes), pairs([2]int{nodes - 1, 0})...) }

// square is the chapter's: from 0 to 2 by 1, and by 3.
func square() []api.Link { return pairs([2]int{0, 1}, [2]int{1, 2}, [2]int{0, 3}, [2]int{3, 2}) }

// grid is 4 rows of 4 nodes.
func grid() []api.Link {
	var out []api.Link
	for n := range 16 {
		if n%4 < 3 {
			out = append(out, pairs([2]int{n, n + 1})...)
		}
		if n < 12 {
			out = append(out, pairs([2]int{n, n + 4})...)
		}
	}
	return out
}

func mapOf(t *testing.T, nodes int, l []api.Link) *topo.Map {
	t.Helper()
	m, e := topo.New(nodes, l...)
	if e != api.OK {
		t.Fatalf("topo.New(%d, %v): %v", nodes, l, e)
	}
	return m
}

// routesOf tells routes that nothing was asked of.
func routesOf(t *testing.T, nodes int, l []api.Link) *route.Routes {
	t.Helper()
	r, e := route.New(mapOf(t, nodes, l))
	if e != api.OK || r == nil {
		t.Fatalf("New of %d, %v: %v %v", nodes, l, r, e)
	}
	return r
}

// ofNone are routes that are none.
func ofNone() []*route.Routes { return []*route.Routes{nil, {}, new(route.Routes)} }

// noNodes are none of so many.
func noNodes(nodes int) []int {
	return []int{-1, -2, -nodes, -nodes - 1, nodes, nodes + 1, api.MaxNodes, api.MaxNodes + 1, most, least, least + 1}
}

// find reckons the number of the link between two nodes.
func find(l []api.Link, from, to int) int {
	return slices.IndexFunc(l, func(x api.Link) bool { return x.From == from && x.To == to })
}

// linksOf reckons the links between nodes one behind the other.
func linksOf(l []api.Link, nodes []int) []int {
	var out []int
	for n := 1; n < len(nodes); n++ {
		out = append(out, find(l, nodes[n-1], nodes[n]))
	}
	return out
}

// better tells which of two lists of nodes is the better way.
func better(a, b []int) int {
	return cmp.Or(cmp.Compare(len(a), len(b)), slices.Compare(a, b))
}

// allWays reckons all lists of nodes, none of them twice, that lead there.
func allWays(l []api.Link, to int, ahead ...int) [][]int {
	at := ahead[len(ahead)-1]
	if at == to {
		return [][]int{slices.Clone(ahead)}
	}
	var out [][]int
	for _, x := range l {
		if x.From == at && !slices.Contains(ahead, x.To) {
			out = append(out, allWays(l, to, append(slices.Clone(ahead), x.To)...)...)
		}
	}
	return out
}

// best is the best list of nodes from a node to another one, or nil.
type best [api.MaxNodes][api.MaxNodes][]int

// reckonAll goes through all ways there are.
func reckonAll(nodes int, l []api.Link) best {
	var out best
	for from := range nodes {
		for to := range nodes {
			if ways := allWays(l, to, from); len(ways) > 0 {
				out[from][to] = slices.MinFunc(ways, better)
			}
		}
	}
	return out
}

// reckon betters ways by links till none is better any more.
func reckon(nodes int, l []api.Link) best {
	var out best
	for n := range nodes {
		out[n][n] = []int{n}
	}
	for isBettered := true; isBettered; {
		isBettered = false
		for _, x := range l {
			for to := range nodes {
				if out[x.To][to] == nil {
					continue
				}
				way := append([]int{x.From}, out[x.To][to]...)
				if now := out[x.From][to]; now == nil || better(way, now) < 0 {
					out[x.From][to], isBettered = way, true
				}
			}
		}
	}
	return out
}

// termsOf reckons the terms of links, by the words of layer 5.
func termsOf(l []api.Link, links []int) api.Terms {
	var out api.Terms
	for _, n := range links {
		x := l[n]
		out.C += x.Most
		out.D += (x.Most+x.Rate-1)/x.Rate + 1 + x.Far
	}
	return out
}

// refuses holds that all calls refuse that.
func refuses(t *testing.T, r *route.Routes, from, to int, want api.Errno) {
	t.Helper()
	if x, e := r.Way(from, to); e != want || x != nil {
		t.Fatalf("Way(%d, %d): %v %v, want %v", from, to, x, e, want)
	}
	if x, e := r.Next(from, to); e != want || x != 0 {
		t.Fatalf("Next(%d, %d): %v %v, want %v", from, to, x, e, want)
	}
	if x, e := r.Far(from, to); e != want || x != 0 {
		t.Fatalf("Far(%d, %d): %v %v, want %v", from, to, x, e, want)
	}
	if x, e := r.Terms(from, to); e != want || x != (api.Terms{}) {
		t.Fatalf("Terms(%d, %d): %v %v, want %v", from, to, x, e, want)
	}
	if x := r.Ahead(from, to); x != 0 {
		t.Fatalf("Ahead(%d, %d): %v, want 0", from, to, x)
	}
}

// goes holds that all calls tell that way, by its nodes.
func goes(t *testing.T, r *route.Routes, l []api.Link, nodes ...int) {
	t.Helper()
	from, to, want := nodes[0], nodes[len(nodes)-1], linksOf(l, nodes)
	if x, e := r.Way(from, to); e != api.OK || !slices.Equal(x, want) {
		t.Fatalf("Way(%d, %d) of %v: %v %v, want %v", from, to, l, x, e, want)
	}
	if len(want) == 0 {
		if x, e := r.Next(from, to); e != api.ErrNoway || x != 0 {
			t.Fatalf("Next(%d, %d) of %v: %v %v", from, to, l, x, e)
		}
	} else if x, e := r.Next(from, to); e != api.OK || x != want[0] {
		t.Fatalf("Next(%d, %d) of %v: %v %v, want %v", from, to, l, x, e, want[0])
	}
	if x, e := r.Far(from, to); e != api.OK || x != len(want) {
		t.Fatalf("Far(%d, %d) of %v: %v %v, want %v", from, to, l, x, e, len(want))
	}
	if x, e := r.Terms(from, to); e != api.OK || x != termsOf(l, want) {
		t.Fatalf("Terms(%d, %d) of %v: %v %v, want %v", from, to, l, x, e, termsOf(l, want))
	}
	var ticks int64
	for _, n := range want {
		ticks += l[n].Far
	}
	if x := r.Ahead(from, to); x != ticks {
		t.Fatalf("Ahead(%d, %d) of %v: %v, want %v", from, to, l, x, ticks)
	}
}

// holds holds routes against what was reckoned, by all calls, of all nodes.
func holds(t *testing.T, r *route.Routes, nodes int, l []api.Link, b best) {
	t.Helper()
	for from := range nodes {
		for to := range nodes {
			if b[from][to] == nil {
				refuses(t, r, from, to, api.ErrNoway)
			} else {
				goes(t, r, l, b[from][to]...)
			}
		}
	}
	if m, e := topo.New(nodes, l...); e != api.OK || !topo.Same(r.Map(), m) {
		t.Fatalf("Map of %d, %v", nodes, l)
	}
}

func source(n uint64) *rand.Rand { return rand.New(rand.NewPCG(n, 10)) }

// anyLinks are random links among so many nodes, in random order.
func anyLinks(r *rand.Rand, nodes int) []api.Link {
	var ends [][2]int
	for a := range nodes {
		for b := range a {
			ends = append(ends, [2]int{a, b})
		}
	}
	r.Shuffle(len(ends), func(i, j int) { ends[i], ends[j] = ends[j], ends[i] })
	l := pairs(ends[:r.IntN(min(len(ends), api.MaxLinks/2)+1)]...)
	for n := range l {
		x := &l[n]
		x.Rate = 1 + r.Int64N(api.MaxRate)
		x.Share, x.Far, x.Most = r.Int64N(x.Rate+1), r.Int64N(1001), 1+r.Int64N(api.MaxPacket)
	}
	r.Shuffle(len(l), func(i, j int) { l[i], l[j] = l[j], l[i] })
	return l
}

// P10.1

func TestTheExamples(t *testing.T) {
	r := routesOf(t, 5, square())
	if x, e := r.Way(0, 2); e != api.OK || !slices.Equal(x, []int{0, 2}) {
		t.Errorf("Way(0, 2): %v %v", x, e)
	}
	if x, e := r.Next(0, 2); e != api.OK || x != 0 {
		t.Errorf("Next(0, 2): %v %v", x, e)
	}
	if x, e := r.Far(0, 2); e != api.OK || x != 2 {
		t.Errorf("Far(0, 2): %v %v", x, e)
	}
	if x, e := r.Way(1, 1); e != api.OK || len(x) != 0 {
		t.Errorf("Way(1, 1): %v %v", x, e)
	}
	if x, e := r.Next(1, 1); e != api.ErrNoway || x != 0 {
		t.Errorf("Next(1, 1): %v %v", x, e)
	}
	if x, e := routesOf(t, 4, square()).Far(0, 4); e != api.ErrRange || x != 0 {
		t.Errorf("Far(0, 4) of four nodes: %v %v", x, e)
	}
	if x, e := r.Far(0, 4); e != api.ErrNoway || x != 0 {
		t.Errorf("Far(0, 4) of five nodes: %v %v", x, e)
	}
}

func TestNewRefusesMapsThatAreNone(t *testing.T) {
	for _, m := range []*topo.Map{nil, {}, new(topo.Map)} {
		if r, e := route.New(m); e != api.ErrNil || r != nil {
			t.Errorf("New: %v %v", r, e)
		}
	}
}

func TestTheFewestLinks(t *testing.T) {
	l := append(line(6), pairs([2]int{0, 4})...)
	r := routesOf(t, 6, l)
	goes(t, r, l, 0, 4)
	goes(t, r, l, 0, 4, 3)
	goes(t, r, l, 0, 4, 5)
	goes(t, r, l, 0, 1, 2)
	goes(t, r, l, 5, 4, 0)
	goes(t, r, l, 5, 4, 0, 1)
	goes(t, r, l, 2, 1, 0)
	goes(t, r, l, 2, 3, 4, 5)
}

// How many links there are counts, not how many ticks or bytes a tick they are.
func TestTheFewestLinksThoughTheyAreSlow(t *testing.T) {
	l := pairs([2]int{0, 1}, [2]int{1, 2}, [2]int{0, 2})
	for n := range l {
		l[n].Rate, l[n].Share, l[n].Far = api.MaxRate, api.MaxRate, 0
	}
	for _, n := range []int{4, 5} {
		l[n] = api.Link{From: l[n].From, To: l[n].To, Rate: 1, Far: 1000, Most: api.MaxPacket}
	}
	r := routesOf(t, 3, l)
	goes(t, r, l, 0, 2)
	goes(t, r, l, 2, 0)
}

func TestTheLeastNodes(t *testing.T) {
	for _, x := range []struct {
		name  string
		nodes int
		links []api.Link
		ways  [][]int
	}{
		{"square", 4, square(), [][]int{{0, 1, 2}, {2, 1, 0}, {1, 0, 3}, {3, 0, 1}}},
		{"ring of four", 4, ring(4), [][]int{{0, 1, 2}, {2, 1, 0}, {1, 0, 3}, {3, 0, 1}}},
		{"ring of five", 5, ring(5), [][]int{{0, 1, 2}, {0, 4, 3}, {3, 4, 0}, {2, 1, 0}}},
		{"ring of six", 6, ring(6), [][]int{{0, 1, 2, 3}, {3, 2, 1, 0}, {1, 0, 5, 4}, {4, 3, 2, 1}, {5, 0, 1, 2}, {2, 1, 0, 5}}},
		{"grid", 16, grid(), [][]int{{0, 1, 2, 3, 7, 11, 15}, {15, 11, 7, 3, 2, 1, 0}, {3, 2, 1, 0, 4, 8, 12}, {12, 8, 4, 0, 1, 2, 3}, {5, 6, 10}, {10, 6, 5}}},
		// Unlike at the first step: what comes behind does not count.
		{"the greatest behind the least", 7, pairs([2]int{0, 1}, [2]int{1, 6}, [2]int{6, 3}, [2]int{0, 2}, [2]int{2, 4}, [2]int{4, 3}),
			[][]int{{0, 1, 6, 3}, {3, 4, 2, 0}}},
		// Unlike at the second step alone.
		{"two behind one", 6, pairs([2]int{0, 5}, [2]int{5, 4}, [2]int{5, 2}, [2]int{4, 1}, [2]int{2, 1}),
			[][]int{{0, 5, 2, 1}, {1, 2, 5, 0}}},
		// Unlike at the last step alone.
		{"two ahead of the goal", 6, pairs([2]int{5, 4}, [2]int{4, 3}, [2]int{4, 2}, [2]int{3, 0}, [2]int{2, 0}),
			[][]int{{5, 4, 2, 0}, {0, 2, 4, 5}}},
		// The least node near leads there too, but by more links.
		{"a way round by the least", 5, pairs([2]int{4, 0}, [2]int{0, 1}, [2]int{1, 2}, [2]int{4, 3}, [2]int{3, 2}),
			[][]int{{4, 3, 2}, {4, 0, 1}, {2, 3, 4}, {1, 0, 4}}},
	} {
		t.Run(x.name, func(t *testing.T) {
			r := routesOf(t, x.nodes, x.links)
			for _, way := range x.ways {
				goes(t, r, x.links, way...)
			}
		})
	}
}

// The order in which links are told, and so their numbers, leads nowhere else.
func TestTheLeastNodesWhateverTheLinksNumbers(t *testing.T) {
	r := source(1)
	for _, x := range [][]api.Link{square(), ring(4), ring(6), grid()} {
		for range 30 {
			l := slices.Clone(x)
			r.Shuffle(len(l), func(i, j int) { l[i], l[j] = l[j], l[i] })
			holds(t, routesOf(t, 16, l), 16, l, reckon(16, l))
		}
	}
	l := square()
	slices.Reverse(l)
	if x, e := routesOf(t, 4, l).Way(0, 2); e != api.OK || !slices.Equal(x, []int{7, 5}) {
		t.Errorf("Way(0, 2), told from behind: %v %v", x, e)
	}
}

func TestOneNodeAndNodesWithoutLinks(t *testing.T) {
	for nodes := 1; nodes <= api.MaxNodes; nodes++ {
		r := routesOf(t, nodes, nil)
		for from := range nodes {
			for to := range nodes {
				if from == to {
					goes(t, r, nil, from)
				} else {
					refuses(t, r, from, to, api.ErrNoway)
				}
			}
		}
	}
}

func TestPartsThatNoLinkJoins(t *testing.T) {
	l := pairs([2]int{0, 2}, [2]int{2, 4}, [2]int{1, 3}, [2]int{3, 5})
	r := routesOf(t, 7, l)
	for from := range 7 {
		for to := range 7 {
			if from%2 != to%2 || (from == 6) != (to == 6) {
				refuses(t, r, from, to, api.ErrNoway)
			}
		}
	}
	goes(t, r, l, 0, 2, 4)
	goes(t, r, l, 5, 3, 1)
	goes(t, r, l, 6)
}

func TestTheLongestWay(t *testing.T) {
	l := line(api.MaxNodes)
	for n := range l {
		l[n] = api.Link{From: l[n].From, To: l[n].To, Rate: 1, Far: 1000, Most: api.MaxPacket}
	}
	r := routesOf(t, api.MaxNodes, l)
	holds(t, r, api.MaxNodes, l, reckon(api.MaxNodes, l))
	if x, e := r.Far(0, 15); e != api.OK || x != 15 {
		t.Errorf("Far: %v %v", x, e)
	}
	if x, e := r.Terms(0, 15); e != api.OK || x != (api.Terms{C: 15 * 2000, D: 15 * 3001}) {
		t.Errorf("Terms: %v %v", x, e)
	}
	if x := r.Ahead(0, 15); x != 15000 {
		t.Errorf("Ahead: %v", x)
	}
}

func TestTermsAreLayer5sOfTheLinks(t *testing.T) {
	r := source(2)
	for range 100 {
		nodes := 2 + r.IntN(api.MaxNodes-1)
		l := anyLinks(r, nodes)
		m := mapOf(t, nodes, l)
		routes, _ := route.New(m)
		for from := range nodes {
			for to := range nodes {
				links, e := routes.Way(from, to)
				if e != api.OK {
					continue
				}
				var terms []api.Terms
				for _, n := range links {
					x, _ := m.Terms(n)
					terms = append(terms, x)
				}
				want, _ := bound.Way(terms...)
				if x, e := routes.Terms(from, to); e != api.OK || x != want {
					t.Fatalf("Terms(%d, %d): %v %v, want %v", from, to, x, e, want)
				}
			}
		}
	}
}

// There and back links may be unlike: each way has its own.
func TestTermsAndAheadOfBothDirections(t *testing.T) {
	l := line(3)
	l[0].Far, l[1].Far, l[2].Far, l[3].Far = 1, 10, 100, 1000
	l[0].Most, l[1].Most, l[2].Most, l[3].Most = 3, 11, 20, 31
	r := routesOf(t, 3, l)
	goes(t, r, l, 0, 1, 2)
	goes(t, r, l, 2, 1, 0)
	if there, back := r.Ahead(0, 2), r.Ahead(2, 0); there != 101 || back != 1010 {
		t.Errorf("Ahead: %d %d", there, back)
	}
	if x, _ := r.Terms(0, 2); x != (api.Terms{C: 23, D: 1 + 1 + 1 + 2 + 1 + 100}) {
		t.Errorf("Terms there: %v", x)
	}
	if x, _ := r.Terms(2, 0); x != (api.Terms{C: 42, D: 4 + 1 + 1000 + 2 + 1 + 10}) {
		t.Errorf("Terms back: %v", x)
	}
	if x, e := r.Terms(1, 1); e != api.OK || x != (api.Terms{}) || r.Ahead(1, 1) != 0 {
		t.Errorf("of a node to itself: %v %v %v", x, e, r.Ahead(1, 1))
	}
}

func TestRoutesThatAreNone(t *testing.T) {
	for _, r := range ofNone() {
		for _, from := range append(noNodes(4), 0, 1) {
			for _, to := range append(noNodes(4), 0, 1) {
				refuses(t, r, from, to, api.ErrNil)
			}
		}
		if r.Map() != nil {
			t.Error("Map of none is there")
		}
	}
}

func TestNodesThatAreNone(t *testing.T) {
	for _, nodes := range []int{1, 2, 5, api.MaxNodes} {
		for _, l := range [][]api.Link{nil, line(nodes)} {
			r := routesOf(t, nodes, l)
			for _, n := range noNodes(nodes) {
				for other := range nodes {
					if n >= 0 && n < nodes {
						t.Fatalf("%d is one of %d", n, nodes)
					}
					refuses(t, r, n, other, api.ErrRange)
					refuses(t, r, other, n, api.ErrRange)
				}
				for _, o := range append(noNodes(nodes), n) {
					refuses(t, r, n, o, api.ErrRange)
				}
			}
			holds(t, r, nodes, l, reckon(nodes, l))
		}
	}
}

func TestNewKeepsACopyAndChangesNothing(t *testing.T) {
	l := square()
	m := mapOf(t, 4, l)
	r, _ := route.New(m)
	if !topo.Same(m, mapOf(t, 4, l)) {
		t.Error("the map has changed")
	}
	*m = *mapOf(t, 2, pairs([2]int{0, 1})) // ahead of the first question
	holds(t, r, 4, l, reckon(4, l))
	*m = topo.Map{}
	holds(t, r, 4, l, reckon(4, l))
}

func TestMapIsACopy(t *testing.T) {
	l := square()
	m := mapOf(t, 4, l)
	r, _ := route.New(m)
	a, b := r.Map(), r.Map()
	if a == b || a == m || !topo.Same(a, m) || !topo.Same(b, m) {
		t.Fatal("Map is no copy of its own")
	}
	*a = topo.Map{} // ahead of the first question
	if !topo.Same(r.Map(), m) || !topo.Same(b, m) {
		t.Error("Map has changed with another one")
	}
	holds(t, r, 4, l, reckon(4, l))
	*b = topo.Map{}
	holds(t, r, 4, l, reckon(4, l))
}

func TestWayIsNewMemory(t *testing.T) {
	l := line(6)
	r := routesOf(t, 6, l)
	a, _ := r.Way(0, 5)
	b, _ := r.Way(0, 5)
	c, _ := r.Way(2, 5) // what is behind two links of the others
	want := slices.Clone(a)
	for n := range a[:cap(a)] {
		a[:cap(a)][n] = 77
	}
	if !slices.Equal(b, want) || !slices.Equal(c, want[2:]) {
		t.Errorf("others have changed: %v %v", b, c)
	}
	_ = append(c, 78, 79)
	holds(t, r, 6, l, reckon(6, l))
	if !slices.Equal(b, want) {
		t.Errorf("another one has changed: %v", b)
	}
}

// Routes are apart from each other, also those of one map.
func TestRoutesAreApart(t *testing.T) {
	one, other := ring(6), line(4)
	m := mapOf(t, 6, one)
	a, _ := route.New(m)
	b, _ := route.New(m)
	c := routesOf(t, 4, other)
	for range 3 {
		holds(t, a, 6, one, reckon(6, one))
		holds(t, c, 4, other, reckon(4, other))
		holds(t, b, 6, one, reckon(6, one))
	}
	if a == b {
		t.Error("two are one")
	}
}

// Whichever call is the first one, and whatever it asks, it finds all worked out.
func TestEachCallMayBeTheFirst(t *testing.T) {
	l := square()
	b := reckon(5, l)
	for from := -1; from < 6; from++ {
		for to := -1; to < 6; to++ {
			for _, first := range []func(r *route.Routes){
				func(r *route.Routes) { r.Way(from, to) },
				func(r *route.Routes) { r.Next(from, to) },
				func(r *route.Routes) { r.Far(from, to) },
				func(r *route.Routes) { r.Terms(from, to) },
				func(r *route.Routes) { r.Ahead(from, to) },
				func(r *route.Routes) { r.Map() },
			} {
				r := routesOf(t, 5, l)
				first(r)
				holds(t, r, 5, l, b)
			}
		}
	}
	if x := routesOf(t, 5, l).Ahead(0, 2); x != 4 {
		t.Errorf("Ahead first: %v", x)
	}
	if x, e := routesOf(t, 5, l).Terms(0, 2); e != api.OK || x != (api.Terms{C: 16, D: 8}) {
		t.Errorf("Terms first: %v %v", x, e)
	}
	if x, e := routesOf(t, 5, l).Next(3, 1); e != api.OK || x != 5 {
		t.Errorf("Next first: %v %v", x, e)
	}
}

func TestManyAskAtOnce(t *testing.T) {
	l := grid()
	b := reckon(16, l)
	for range 20 {
		r := routesOf(t, 16, l)
		var asked sync.WaitGroup
		answers := make([][]int, 16)
		for from := range answers {
			asked.Add(1)
			go func() {
				defer asked.Done()
				answers[from], _ = r.Way(from, 15-from)
			}()
		}
		asked.Wait()
		for from, x := range answers {
			if want := linksOf(l, b[from][15-from]); !slices.Equal(x, want) {
				t.Fatalf("Way(%d, %d): %v, want %v", from, 15-from, x, want)
			}
		}
	}
}

func TestSmallMapsAtRandom(t *testing.T) {
	r := source(3)
	for range 600 {
		nodes := 1 + r.IntN(6)
		l := anyLinks(r, nodes)
		holds(t, routesOf(t, nodes, l), nodes, l, reckonAll(nodes, l))
	}
}

func TestMapsAtRandom(t *testing.T) {
	r := source(4)
	for range 300 {
		nodes := 1 + r.IntN(api.MaxNodes)
		l := anyLinks(r, nodes)
		routes, b := routesOf(t, nodes, l), reckon(nodes, l)
		holds(t, routes, nodes, l, b)
		holds(t, routes, nodes, l, b) // asking changes nothing
	}
}

// P10.2: what follows is asked of the program's own answers.

func TestBehindTheFirstLinkIsTheWayFromThere(t *testing.T) {
	r := source(5)
	maps := [][]api.Link{square(), ring(7), ring(16), grid(), line(16)}
	for range 200 {
		maps = append(maps, anyLinks(r, api.MaxNodes))
	}
	for _, l := range maps {
		routes := routesOf(t, api.MaxNodes, l)
		for from := range api.MaxNodes {
			for to := range api.MaxNodes {
				way, e := routes.Way(from, to)
				if e != api.OK || len(way) == 0 {
					continue
				}
				if l[way[0]].From != from {
					t.Fatalf("Way(%d, %d) of %v: %v", from, to, l, way)
				}
				behind, e := routes.Way(l[way[0]].To, to)
				if e != api.OK || !slices.Equal(behind, way[1:]) {
					t.Fatalf("Way(%d, %d) of %v: %v, but from there %v %v", from, to, l, way, behind, e)
				}
			}
		}
	}
}

func TestWhatGoesByNextGoesTheWayAndComes(t *testing.T) {
	r := source(6)
	maps := [][]api.Link{square(), ring(8), grid(), line(16)}
	for range 200 {
		maps = append(maps, anyLinks(r, api.MaxNodes))
	}
	for _, l := range maps {
		routes := routesOf(t, api.MaxNodes, l)
		for from := range api.MaxNodes {
			for to := range api.MaxNodes {
				goesByNext(t, routes, l, from, to)
			}
		}
	}
}

func goesByNext(t *testing.T, r *route.Routes, l []api.Link, from, to int) {
	t.Helper()
	way, e := r.Way(from, to)
	if e != api.OK {
		return
	}
	at, ticks := from, r.Ahead(from, to)
	for n, want := range way {
		far, e := r.Far(at, to)
		if e != api.OK || far != len(way)-n || r.Ahead(at, to) != ticks {
			t.Fatalf("from %d to %d, at %d: %d far, %v, %d ahead", from, to, at, far, e, r.Ahead(at, to))
		}
		next, e := r.Next(at, to)
		if e != api.OK || next != want || l[next].From != at {
			t.Fatalf("from %d to %d, at %d: %d %v, want %d", from, to, at, next, e, want)
		}
		at, ticks = l[next].To, ticks-l[next].Far
	}
	if at != to || ticks != 0 {
		t.Fatalf("from %d to %d: at %d, %d ahead", from, to, at, ticks)
	}
}

// From each node packets to one goal go on as all others that come by there.
func TestWaysToOneGoalAreATree(t *testing.T) {
	l := grid()
	r := routesOf(t, 16, l)
	for to := range 16 {
		leaves := map[int]int{}
		for from := range 16 {
			way, _ := r.Way(from, to)
			for _, n := range way {
				at := l[n].From
				if other, isThere := leaves[at]; isThere && other != n {
					t.Fatalf("to %d by %d: %d and %d", to, at, other, n)
				}
				leaves[at] = n
			}
		}
		if len(leaves) != 15 {
			t.Errorf("to %d: %v", to, leaves)
		}
	}
}

func TestTwoReckoningsAgree(t *testing.T) {
	r := source(7)
	for range 200 {
		nodes := 1 + r.IntN(6)
		l := anyLinks(r, nodes)
		a, b := reckon(nodes, l), reckonAll(nodes, l)
		for from := range nodes {
			for to := range nodes {
				if !slices.Equal(a[from][to], b[from][to]) {
					t.Fatalf("from %d to %d of %v: %v, %v", from, to, l, a[from][to], b[from][to])
				}
			}
		}
	}
}
