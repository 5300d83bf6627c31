package topo_test

import (
	"iter"
	"math"
	"math/rand/v2"
	"slices"
	"testing"

	"postroad/api"
	"postroad/bound"
	"postroad/topo"
)

// The tests hold each answer against plain lists of links, gone through from
// end to end for each question.

const (
	most     = math.MaxInt64
	least    = math.MinInt64
	mostFar  = 1000
	mostRoom = 1000000000
	mostFifo = 1000000
)

// link is one of ordinary numbers.
func link(from, to int) api.Link {
	return api.Link{From: from, To: to, Rate: 10, Share: 7, Far: 2, Most: 8, Room: 100, Fifo: 50}
}

// both are a link and its way back.
func both(a, b int) []api.Link { return []api.Link{link(a, b), link(b, a)} }

// together joins lists of links.
func together(parts ...[]api.Link) []api.Link { return slices.Concat(parts...) }

// alike are so many pairs of a link and its way back, each between others.
func alike(pairs int) []api.Link {
	var out []api.Link
	for a := range api.MaxNodes {
		for b := range a {
			if len(out) < 2*pairs {
				out = append(out, both(a, b)...)
			}
		}
	}
	return out
}

// mapOf tells a map that may be.
func mapOf(t *testing.T, nodes int, l []api.Link) *topo.Map {
	t.Helper()
	m, e := topo.New(nodes, l...)
	if e != api.OK || m == nil {
		t.Fatalf("New(%d, %v): %v %v", nodes, l, m, e)
	}
	return m
}

// triangle is three nodes, all of them linked, told out of order.
func triangle() []api.Link {
	return []api.Link{link(2, 1), link(0, 2), link(1, 0), link(2, 0), link(0, 1), link(1, 2)}
}

// changed is a link with other numbers.
func changed(l api.Link, change func(l *api.Link)) api.Link {
	change(&l)
	return l
}

// noLinks may not be among so many nodes, each for another reason.
func noLinks(nodes int) []api.Link {
	var out []api.Link
	add := func(change func(l *api.Link)) { out = append(out, changed(link(0, 1), change)) }
	for _, n := range []int{-1, nodes, nodes + 1, most, least, api.MaxNodes, -api.MaxNodes} {
		add(func(l *api.Link) { l.From = n })
		add(func(l *api.Link) { l.To = n })
		add(func(l *api.Link) { l.From, l.To = n, n })
	}
	for n := range nodes {
		add(func(l *api.Link) { l.From, l.To = n, n })
	}
	for _, x := range []int64{-1, 0, api.MaxRate + 1, most, least} {
		add(func(l *api.Link) { l.Rate = x })
		add(func(l *api.Link) { l.Rate, l.Share = x, 0 })
		add(func(l *api.Link) { l.Rate, l.Share = x, x })
	}
	for _, x := range []int64{-1, 11, api.MaxRate, most, least} {
		add(func(l *api.Link) { l.Share = x })
	}
	for _, x := range []int64{-1, mostFar + 1, most, least} {
		add(func(l *api.Link) { l.Far = x })
	}
	for _, x := range []int64{-1, 0, api.MaxPacket + 1, most, least} {
		add(func(l *api.Link) { l.Most = x })
	}
	for _, x := range []int64{-1, mostRoom + 1, most, least} {
		add(func(l *api.Link) { l.Room = x })
	}
	for _, x := range []int64{-1, mostFifo + 1, most, least} {
		add(func(l *api.Link) { l.Fifo = x })
	}
	return append(out, api.Link{}, api.Link{From: 0, To: 1})
}

// edgeLinks may be among two nodes; each stands at an edge.
func edgeLinks() []api.Link {
	return []api.Link{
		link(0, 1), link(1, 0),
		changed(link(0, 1), func(l *api.Link) { l.Rate, l.Share = 1, 0 }),
		changed(link(0, 1), func(l *api.Link) { l.Rate, l.Share = 1, 1 }),
		changed(link(0, 1), func(l *api.Link) { l.Rate, l.Share = api.MaxRate, api.MaxRate }),
		changed(link(0, 1), func(l *api.Link) { l.Rate, l.Share = api.MaxRate, 0 }),
		changed(link(0, 1), func(l *api.Link) { l.Share = 0 }),
		changed(link(0, 1), func(l *api.Link) { l.Share = l.Rate }),
		changed(link(0, 1), func(l *api.Link) { l.Far = 0 }),
		changed(link(0, 1), func(l *api.Link) { l.Far = mostFar }),
		changed(link(0, 1), func(l *api.Link) { l.Most = 1 }),
		changed(link(0, 1), func(l *api.Link) { l.Most = api.MaxPacket }),
		changed(link(0, 1), func(l *api.Link) { l.Room = 0 }),
		changed(link(0, 1), func(l *api.Link) { l.Room = mostRoom }),
		changed(link(0, 1), func(l *api.Link) { l.Fifo = 0 }),
		changed(link(0, 1), func(l *api.Link) { l.Fifo = mostFifo }),
		{From: 0, To: 1, Rate: 1, Most: 1},
		{From: 1, To: 0, Rate: api.MaxRate, Share: api.MaxRate, Far: mostFar, Most: api.MaxPacket, Room: mostRoom, Fifo: mostFifo},
	}
}

func noNodes() []int { return []int{0, -1, api.MaxNodes + 1, -api.MaxNodes, 48, most, least} }

// mayBe reckons whether a link may be, by the words of the chapter.
func mayBe(l api.Link, nodes int) bool {
	between := func(low, n, high int64) bool { return n >= low && n <= high }
	return nodes >= 1 && nodes <= api.MaxNodes &&
		l.From >= 0 && l.From < nodes && l.To >= 0 && l.To < nodes && l.From != l.To &&
		between(1, l.Rate, 1000000) && between(0, l.Share, l.Rate) && between(0, l.Far, 1000) &&
		between(1, l.Most, 2000) && between(0, l.Room, 1000000000) && between(0, l.Fifo, 1000000)
}

// find reckons the number of the link between two nodes, or -1.
func find(l []api.Link, from, to int) int {
	for n, x := range l {
		if x.From == from && x.To == to {
			return n
		}
	}
	return -1
}

// reckon reckons what New answers.
func reckon(nodes int, l []api.Link) api.Errno {
	if nodes < 1 || nodes > api.MaxNodes {
		return api.ErrArg
	}
	for _, x := range l {
		if !mayBe(x, nodes) {
			return api.ErrArg
		}
	}
	if len(l) > 48 {
		return api.ErrLong
	}
	for n, x := range l {
		if find(l, x.From, x.To) != n {
			return api.ErrDouble
		}
	}
	for _, x := range l {
		if find(l, x.To, x.From) < 0 {
			return api.ErrBack
		}
	}
	return api.OK
}

// out reckons the links that come from a node.
func out(l []api.Link, nodes, node int) []int {
	var numbers []int
	for to := range nodes {
		if n := find(l, node, to); n >= 0 {
			numbers = append(numbers, n)
		}
	}
	return numbers
}

func source(n uint64) *rand.Rand { return rand.New(rand.NewPCG(n, 1)) }

// anyLink is one of random numbers, often at an edge, that may be.
func anyLink(r *rand.Rand, from, to int) api.Link {
	number := func(low, high int64) int64 {
		switch r.IntN(6) {
		case 0:
			return low
		case 1:
			return high
		}
		return low + r.Int64N(high-low+1)
	}
	rate := number(1, api.MaxRate)
	return api.Link{
		From: from, To: to, Rate: rate, Share: number(0, rate), Far: number(0, mostFar),
		Most: number(1, api.MaxPacket), Room: number(0, mostRoom), Fifo: number(0, mostFifo),
	}
}

// anyMap is nodes and links of a random map that may be, in random order.
func anyMap(r *rand.Rand) (int, []api.Link) {
	nodes := 1 + r.IntN(api.MaxNodes)
	var ways [][2]int
	for a := range nodes {
		for b := range a {
			ways = append(ways, [2]int{a, b})
		}
	}
	r.Shuffle(len(ways), func(i, j int) { ways[i], ways[j] = ways[j], ways[i] })
	var l []api.Link
	for _, x := range ways[:r.IntN(min(len(ways), api.MaxLinks/2)+1)] {
		l = append(l, anyLink(r, x[0], x[1]), anyLink(r, x[1], x[0]))
	}
	r.Shuffle(len(l), func(i, j int) { l[i], l[j] = l[j], l[i] })
	return nodes, l
}

// ofNone are maps that are none.
func ofNone() []*topo.Map { return []*topo.Map{nil, {}, new(topo.Map)} }

// holds holds a map against what it was made of, by all of its calls.
func holds(t *testing.T, m *topo.Map, nodes int, l []api.Link) {
	t.Helper()
	if m.Nodes() != nodes || m.Len() != len(l) {
		t.Fatalf("Nodes, Len: %d %d, want %d %d", m.Nodes(), m.Len(), nodes, len(l))
	}
	for n, x := range l {
		if o, e := m.Link(n); e != api.OK || o != x {
			t.Fatalf("Link(%d): %v %v, want %v", n, o, e, x)
		}
		if o, e := m.Back(n); e != api.OK || o != find(l, x.To, x.From) {
			t.Fatalf("Back(%d) of %v: %d %v", n, l, o, e)
		}
		want := api.Terms{C: x.Most, D: (x.Most+x.Rate-1)/x.Rate + 1 + x.Far}
		if o, e := m.Terms(n); e != api.OK || o != want {
			t.Fatalf("Terms(%d) of %v: %v %v, want %v", n, x, o, e, want)
		}
	}
	for from := -2; from < api.MaxNodes+2; from++ {
		if got, want := slices.Collect(m.Out(from)), out(l, nodes, from); !slices.Equal(got, want) {
			t.Fatalf("Out(%d) of %v: %v, want %v", from, l, got, want)
		}
		for to := -2; to < api.MaxNodes+2; to++ {
			want := find(l, from, to)
			n, isThere := m.Between(from, to)
			if isThere != (want >= 0) || n != max(want, 0) {
				t.Fatalf("Between(%d, %d) of %v: %d %v, want %d", from, to, l, n, isThere, want)
			}
		}
	}
}

// P9.1

func TestCheckTakesLinksAtTheirEdges(t *testing.T) {
	for _, l := range edgeLinks() {
		for nodes := 2; nodes <= api.MaxNodes; nodes++ {
			if e := topo.Check(l, nodes); e != api.OK {
				t.Errorf("Check(%v, %d): %v", l, nodes, e)
			}
		}
	}
	for from := range api.MaxNodes {
		for to := range api.MaxNodes {
			for nodes := 1; nodes <= api.MaxNodes; nodes++ {
				want := api.ErrArg
				if from != to && from < nodes && to < nodes {
					want = api.OK
				}
				if e := topo.Check(link(from, to), nodes); e != want {
					t.Errorf("Check(%d to %d, %d): %v, want %v", from, to, nodes, e, want)
				}
			}
		}
	}
}

func TestCheckRefusesWhatMayNotBe(t *testing.T) {
	for _, nodes := range []int{1, 2, 3, 15, 16} {
		for _, l := range noLinks(nodes) {
			if nodes < 16 && l.From < nodes && l.To < nodes && mayBe(l, nodes) {
				t.Fatalf("%v may be among %d", l, nodes)
			}
			if e := topo.Check(l, nodes); e != api.ErrArg {
				t.Errorf("Check(%v, %d): %v", l, nodes, e)
			}
		}
	}
	for _, nodes := range noNodes() {
		for _, l := range append(edgeLinks(), noLinks(2)...) {
			if e := topo.Check(l, nodes); e != api.ErrArg {
				t.Errorf("Check(%v, %d): %v", l, nodes, e)
			}
		}
	}
}

func TestCheckAtRandom(t *testing.T) {
	r := source(91)
	for range 20000 {
		l := anyLink(r, r.IntN(5)-1, r.IntN(5)-1)
		places := []*int64{&l.Rate, &l.Share, &l.Far, &l.Most, &l.Room, &l.Fifo}
		if r.IntN(2) == 0 {
			*places[r.IntN(len(places))] += int64(r.IntN(5)) - 2
		}
		nodes := r.IntN(20) - 1
		want := api.ErrArg
		if mayBe(l, nodes) {
			want = api.OK
		}
		if e := topo.Check(l, nodes); e != want {
			t.Fatalf("Check(%v, %d): %v, want %v", l, nodes, e, want)
		}
	}
}

func TestNewTakesFromNoneToAllLinks(t *testing.T) {
	for nodes := 1; nodes <= api.MaxNodes; nodes++ {
		holds(t, mapOf(t, nodes, nil), nodes, nil)
		holds(t, mapOf(t, nodes, []api.Link{}), nodes, nil)
	}
	for pairs := range api.MaxLinks/2 + 1 {
		l := alike(pairs)
		if len(l) != 2*pairs {
			t.Fatalf("alike(%d): %d", pairs, len(l))
		}
		holds(t, mapOf(t, api.MaxNodes, l), api.MaxNodes, l)
	}
	for _, a := range edgeLinks() {
		l := []api.Link{a, link(a.To, a.From)}
		holds(t, mapOf(t, 2, l), 2, l)
	}
}

func TestNewRefuses(t *testing.T) {
	wrong := link(0, 0)
	tests := []struct {
		name  string
		nodes int
		links []api.Link
		want  api.Errno
	}{
		{"one way", 2, []api.Link{link(0, 1)}, api.ErrBack},
		{"the other one alone", 2, []api.Link{link(1, 0)}, api.ErrBack},
		{"one way of three", 3, together(both(0, 1), []api.Link{link(1, 2)}), api.ErrBack},
		{"one way round", 3, []api.Link{link(0, 1), link(1, 2), link(2, 0)}, api.ErrBack},
		{"one way, ahead", 3, together([]api.Link{link(1, 2)}, both(0, 1)), api.ErrBack},
		{"to itself", 2, []api.Link{wrong}, api.ErrArg},
		{"to itself, twice", 2, []api.Link{wrong, wrong}, api.ErrArg},
		{"of no nodes", 0, nil, api.ErrArg},
		{"of no nodes, linked", 0, both(0, 1), api.ErrArg},
		{"of one node, linked", 1, both(0, 1), api.ErrArg},
		{"of a node that is not there", 2, both(0, 2), api.ErrArg},
		{"twice", 2, together(both(0, 1), []api.Link{link(0, 1)}), api.ErrDouble},
		{"twice, in other numbers", 2, together(both(0, 1), []api.Link{changed(link(1, 0), func(l *api.Link) { l.Far++ })}), api.ErrDouble},
		{"both twice", 2, together(both(0, 1), both(1, 0)), api.ErrDouble},
		{"twice, far apart", 4, together(both(0, 1), both(0, 2), both(0, 3), both(2, 3), []api.Link{link(1, 0)}), api.ErrDouble},
		{"twice and one way", 2, []api.Link{link(0, 1), link(0, 1)}, api.ErrDouble},
		{"one way and then twice", 3, together([]api.Link{link(1, 2)}, both(0, 1), both(0, 1)), api.ErrDouble},
		{"49, one way", 16, append(alike(24), link(15, 14)), api.ErrLong},
		{"49, twice", 16, append(alike(24), link(1, 0)), api.ErrLong},
		{"50", 16, alike(25), api.ErrLong},
		{"all", 16, alike(120), api.ErrLong},
		{"49, a wrong one behind", 16, append(alike(24), wrong), api.ErrArg},
		{"50, a wrong one ahead", 16, together([]api.Link{wrong}, alike(25)), api.ErrArg},
		{"50, a wrong one within", 16, together(alike(20), []api.Link{wrong}, alike(20)), api.ErrArg},
		{"twice, then a wrong one", 2, together(both(0, 1), both(0, 1), []api.Link{wrong}), api.ErrArg},
		{"one way, then a wrong one", 2, []api.Link{link(0, 1), wrong}, api.ErrArg},
		{"50, of no nodes", 17, alike(25), api.ErrArg},
	}
	for _, x := range tests {
		if want := reckon(x.nodes, x.links); want != x.want {
			t.Fatalf("%s: reckoned %v, want %v", x.name, want, x.want)
		}
		if m, e := topo.New(x.nodes, x.links...); e != x.want || m != nil {
			t.Errorf("%s: %v %v, want %v", x.name, m, e, x.want)
		}
	}
}

func TestNewRefusesNoNodesAndWrongLinks(t *testing.T) {
	for _, nodes := range noNodes() {
		for _, l := range [][]api.Link{nil, {}, both(0, 1), alike(24), alike(25), {link(0, 1)}} {
			if m, e := topo.New(nodes, l...); e != api.ErrArg || m != nil {
				t.Errorf("New(%d, %d links): %v %v", nodes, len(l), m, e)
			}
		}
	}
	for _, wrong := range noLinks(4) {
		good := together(both(0, 1), both(2, 1), both(2, 3))
		for at := range len(good) + 1 {
			l := slices.Insert(slices.Clone(good), at, wrong)
			if m, e := topo.New(4, l...); e != api.ErrArg || m != nil {
				t.Errorf("New of %v at %d: %v %v", wrong, at, m, e)
			}
		}
	}
}

func TestNewEndsOfManyLinks(t *testing.T) {
	l := slices.Repeat(both(0, 1), 300000)
	if m, e := topo.New(2, l...); e != api.ErrLong || m != nil {
		t.Errorf("New of many: %v %v", m, e)
	}
	l[len(l)-1].Rate = 0
	if m, e := topo.New(2, l...); e != api.ErrArg || m != nil {
		t.Errorf("New of many, the last one wrong: %v %v", m, e)
	}
}

func TestNewAtRandom(t *testing.T) {
	r := source(92)
	seen := map[api.Errno]int{}
	for range 4000 {
		nodes, l := anyMap(r)
		for range r.IntN(3) {
			if len(l) == 0 {
				break
			}
			at := r.IntN(len(l))
			switch r.IntN(6) {
			case 0:
				l = slices.Delete(l, at, at+1)
			case 1:
				l = append(l, l[at])
			case 2:
				l[at].From = r.IntN(api.MaxNodes)
			case 3:
				nodes += r.IntN(3) - 1
			case 4:
				l = append(l, alike(24)...)
			case 5:
				l[at].Share += int64(r.IntN(3)) - 1
			}
		}
		want := reckon(nodes, l)
		seen[want]++
		m, e := topo.New(nodes, l...)
		if e != want || (m != nil) != (want == api.OK) {
			t.Fatalf("New(%d, %v): %v %v, want %v", nodes, l, m, e, want)
		}
		if e == api.OK {
			holds(t, m, nodes, l)
		}
	}
	for _, e := range []api.Errno{api.OK, api.ErrArg, api.ErrLong, api.ErrDouble, api.ErrBack} {
		if seen[e] < 20 {
			t.Errorf("only %d of %v", seen[e], e)
		}
	}
}

func TestNewNeitherChangesNorKeepsWhatItIsGiven(t *testing.T) {
	room := append(triangle(), slices.Repeat([]api.Link{{From: 77}}, 9)...)
	given := room[:6]
	m := mapOf(t, 3, given)
	for n, x := range triangle() {
		if given[n] != x {
			t.Errorf("link %d has changed: %v", n, given[n])
		}
	}
	for n, x := range room[6:] {
		if x != (api.Link{From: 77}) {
			t.Errorf("the room behind has changed at %d: %v", n, x)
		}
	}
	clear(room)
	holds(t, m, 3, triangle())
}

// P9.2

func TestTheExamples(t *testing.T) {
	m := mapOf(t, 2, both(0, 1))
	if n, e := m.Back(0); n != 1 || e != api.OK {
		t.Errorf("Back(0): %d %v", n, e)
	}
	if n, isThere := m.Between(1, 0); n != 1 || !isThere {
		t.Errorf("Between(1, 0): %d %v", n, isThere)
	}
	if m, e := topo.New(2, link(0, 1)); m != nil || e != api.ErrBack {
		t.Errorf("New(2, 0 to 1): %v %v", m, e)
	}
	if m, e := topo.New(2, link(0, 0)); m != nil || e != api.ErrArg {
		t.Errorf("New(2, 0 to 0): %v %v", m, e)
	}
	if m, e := topo.New(0); m != nil || e != api.ErrArg {
		t.Errorf("New(0): %v %v", m, e)
	}
}

func TestATriangle(t *testing.T) {
	m := mapOf(t, 3, triangle())
	holds(t, m, 3, triangle())
	for node, want := range [][]int{{4, 1}, {2, 5}, {3, 0}} {
		if got := slices.Collect(m.Out(node)); !slices.Equal(got, want) {
			t.Errorf("Out(%d): %v, want %v", node, got, want)
		}
	}
	for n, want := range []int{5, 3, 4, 1, 2, 0} {
		if got, e := m.Back(n); got != want || e != api.OK {
			t.Errorf("Back(%d): %d %v, want %d", n, got, e, want)
		}
	}
}

func TestNumbersThatAreNoLinks(t *testing.T) {
	for _, l := range [][]api.Link{nil, both(0, 1), triangle(), alike(24)} {
		m := mapOf(t, api.MaxNodes, l)
		for _, n := range []int{-1, -2, len(l), len(l) + 1, -len(l) - 1, most, least} {
			if x, e := m.Link(n); e != api.ErrRange || x != (api.Link{}) {
				t.Errorf("Link(%d) of %d: %v %v", n, len(l), x, e)
			}
			if x, e := m.Back(n); e != api.ErrRange || x != 0 {
				t.Errorf("Back(%d) of %d: %v %v", n, len(l), x, e)
			}
			if x, e := m.Terms(n); e != api.ErrRange || x != (api.Terms{}) {
				t.Errorf("Terms(%d) of %d: %v %v", n, len(l), x, e)
			}
		}
	}
}

func TestNodesThatAreNone(t *testing.T) {
	m := mapOf(t, 3, triangle())
	for _, a := range []int{-1, 3, api.MaxNodes, most, least} {
		for n := range m.Out(a) {
			t.Errorf("Out(%d) tells %d", a, n)
		}
		for _, b := range []int{0, 1, 2, a} {
			if n, isThere := m.Between(a, b); n != 0 || isThere {
				t.Errorf("Between(%d, %d): %d %v", a, b, n, isThere)
			}
			if n, isThere := m.Between(b, a); n != 0 || isThere {
				t.Errorf("Between(%d, %d): %d %v", b, a, n, isThere)
			}
		}
	}
	for node := range 3 {
		if n, isThere := m.Between(node, node); n != 0 || isThere {
			t.Errorf("Between(%d, %d): %d %v", node, node, n, isThere)
		}
	}
}

func TestMapsThatAreNone(t *testing.T) {
	for _, m := range ofNone() {
		if m.Nodes() != 0 || m.Len() != 0 || m.Copy() != nil {
			t.Errorf("Nodes, Len, Copy: %d %d %v", m.Nodes(), m.Len(), m.Copy())
		}
		for _, n := range []int{0, 1, -1, most, least} {
			if x, e := m.Link(n); e != api.ErrNil || x != (api.Link{}) {
				t.Errorf("Link(%d): %v %v", n, x, e)
			}
			if x, e := m.Back(n); e != api.ErrNil || x != 0 {
				t.Errorf("Back(%d): %v %v", n, x, e)
			}
			if x, e := m.Terms(n); e != api.ErrNil || x != (api.Terms{}) {
				t.Errorf("Terms(%d): %v %v", n, x, e)
			}
			if x, isThere := m.Between(n, 0); x != 0 || isThere {
				t.Errorf("Between(%d, 0): %v %v", n, x, isThere)
			}
			seq := m.Out(n)
			if seq == nil {
				t.Fatalf("Out(%d) is not there", n)
			}
			for x := range seq {
				t.Errorf("Out(%d) tells %d", n, x)
			}
		}
	}
}

// begin tells the first ones alone, so many of them.
func begin(seq iter.Seq[int], many int) []int {
	var first []int
	if many == 0 {
		return nil
	}
	for n := range seq {
		first = append(first, n)
		if len(first) == many {
			break
		}
	}
	return first
}

func TestOutMayBeLeftAndGoneOverAgain(t *testing.T) {
	l := alike(15) // six nodes, all of them linked
	m := mapOf(t, 6, l)
	for node := range 6 {
		want := out(l, 6, node)
		seq := m.Out(node)
		for many := range len(want) + 1 {
			if got := begin(seq, many); !slices.Equal(got, want[:many]) {
				t.Errorf("the first %d from %d: %v, want %v", many, node, got, want[:many])
			}
			if got := slices.Collect(seq); !slices.Equal(got, want) {
				t.Errorf("again from %d: %v, want %v", node, got, want)
			}
		}
		var inner, outer []int
		for a := range seq {
			outer = append(outer, a)
			inner = slices.Collect(seq)
			for range m.Out((node + 1) % 6) {
				break
			}
		}
		if !slices.Equal(outer, want) || !slices.Equal(inner, want) {
			t.Errorf("one within the other from %d: %v %v, want %v", node, outer, inner, want)
		}
	}
}

func TestTermsAreThoseOfLayer5(t *testing.T) {
	for _, a := range edgeLinks() {
		m := mapOf(t, 2, []api.Link{a, link(a.To, a.From)})
		want, e := bound.Link(a.Rate, a.Most, a.Far)
		if e != api.OK {
			t.Fatalf("bound.Link of %v: %v", a, e)
		}
		if got, e := m.Terms(0); e != api.OK || got != want {
			t.Errorf("Terms of %v: %v %v, want %v", a, got, e, want)
		}
	}
	l := both(0, 1)
	l[0].Rate, l[0].Share, l[0].Most, l[0].Far = 3, 3, 8, 2
	if got, e := mapOf(t, 2, l).Terms(0); e != api.OK || got != (api.Terms{C: 8, D: 6}) {
		t.Errorf("Terms: %v %v", got, e)
	}
}

func TestMapsAtRandom(t *testing.T) {
	r := source(93)
	for range 500 {
		nodes, l := anyMap(r)
		m := mapOf(t, nodes, l)
		holds(t, m, nodes, l)
		holds(t, m, nodes, l) // asking changes nothing
	}
}

// P9.3

func TestCopyIsAnotherOneOfTheSame(t *testing.T) {
	r := source(94)
	for range 300 {
		nodes, l := anyMap(r)
		m := mapOf(t, nodes, l)
		c := m.Copy()
		if c == nil || c == m || !topo.Same(m, c) || !topo.Same(c, m) {
			t.Fatalf("Copy of %d, %v", nodes, l)
		}
		holds(t, c, nodes, l)
		*m = topo.Map{} // the other one stays
		holds(t, c, nodes, l)
		d := c.Copy()
		holds(t, d, nodes, l)
		if d == c || topo.Same(m, c) || !topo.Same(c, d) {
			t.Fatalf("Copy of a copy of %d, %v", nodes, l)
		}
	}
}

func TestSameOfWhatIsMadeAlike(t *testing.T) {
	r := source(95)
	for range 300 {
		nodes, l := anyMap(r)
		m, o := mapOf(t, nodes, l), mapOf(t, nodes, slices.Clone(l))
		if !topo.Same(m, o) || !topo.Same(o, m) || !topo.Same(m, m) {
			t.Fatalf("Same of %d, %v", nodes, l)
		}
	}
	if !topo.Same(mapOf(t, 4, nil), mapOf(t, 4, []api.Link{})) {
		t.Error("Same of maps without links")
	}
}

func TestSameTellsEachDifference(t *testing.T) {
	l := triangle()
	m := mapOf(t, 3, l)
	other := func(name string, nodes int, o []api.Link) {
		t.Helper()
		if x := mapOf(t, nodes, o); topo.Same(m, x) || topo.Same(x, m) {
			t.Errorf("%s: the same", name)
		}
	}
	for n := range l {
		for name, change := range map[string]func(l *api.Link){
			"Rate":  func(l *api.Link) { l.Rate++ },
			"Share": func(l *api.Link) { l.Share++ },
			"Far":   func(l *api.Link) { l.Far++ },
			"Most":  func(l *api.Link) { l.Most++ },
			"Room":  func(l *api.Link) { l.Room++ },
			"Fifo":  func(l *api.Link) { l.Fifo++ },
		} {
			o := slices.Clone(l)
			change(&o[n])
			other(name, 3, o)
		}
	}
	other("one more node", 4, l)
	other("no links", 3, nil)
	other("two links fewer", 3, []api.Link{l[0], l[1], l[3], l[5]})
	other("another order", 3, []api.Link{l[1], l[0], l[2], l[3], l[4], l[5]})
	other("two links more", 4, append(slices.Clone(l), both(3, 0)...))
	star := together(both(0, 1), both(0, 2))
	line := together(both(0, 1), both(1, 2))
	if topo.Same(mapOf(t, 3, star), mapOf(t, 3, line)) {
		t.Error("a star and a line: the same")
	}
}

func TestSameOfNone(t *testing.T) {
	m := mapOf(t, 1, nil)
	for _, a := range ofNone() {
		for _, b := range ofNone() {
			if !topo.Same(a, b) {
				t.Error("two of none: not the same")
			}
		}
		if topo.Same(a, m) || topo.Same(m, a) {
			t.Error("none and one of one node: the same")
		}
	}
}

// P9.4

func TestTheWayBackOfTheWayBackIsTheLink(t *testing.T) {
	r := source(96)
	for range 500 {
		nodes, l := anyMap(r)
		m := mapOf(t, nodes, l)
		for n := range l {
			back, e := m.Back(n)
			if e != api.OK || back == n {
				t.Fatalf("Back(%d) of %v: %d %v", n, l, back, e)
			}
			if again, e := m.Back(back); e != api.OK || again != n {
				t.Fatalf("Back(%d) of %v: %d %v, want %d", back, l, again, e, n)
			}
			if l[back].From != l[n].To || l[back].To != l[n].From {
				t.Fatalf("Back(%d) of %v: %d", n, l, back)
			}
		}
	}
}

func TestTheLinksOfAllNodesAreAllOfThem(t *testing.T) {
	r := source(97)
	for range 500 {
		nodes, l := anyMap(r)
		m := mapOf(t, nodes, l)
		times := map[int]int{}
		for node := range nodes {
			last := -1
			for n := range m.Out(node) {
				times[n]++
				if l[n].From != node || l[n].To <= last {
					t.Fatalf("Out(%d) of %v tells %d", node, l, n)
				}
				last = l[n].To
			}
		}
		for n := range l {
			if times[n] != 1 {
				t.Fatalf("link %d of %v: %d times", n, l, times[n])
			}
		}
		if len(times) != len(l) {
			t.Fatalf("links of all nodes of %v: %v", l, times)
		}
	}
}
