package graph_test

import (
	"math"
	"math/rand"
	"slices"
	"testing"

	"dancestudio/api"
	"dancestudio/graph"
)

// made makes a graph of the ends of its arcs.
func made(nodes int, ends ...int) api.Graph {
	g := api.Graph{Nodes: nodes}
	for pair := range slices.Chunk(ends, 2) {
		g.Arcs = append(g.Arcs, api.Arc{From: pair[0], To: pair[1]})
	}
	return g
}

// rings are rings of so many nodes, one behind the other; a ring of one node is an arc to itself.
func rings(sizes ...int) api.Graph {
	var g api.Graph
	for _, n := range sizes {
		for i := range n {
			g.Arcs = append(g.Arcs, api.Arc{From: g.Nodes + i, To: g.Nodes + (i+1)%n})
		}
		g.Nodes += n
	}
	return g
}

// line is a path through all nodes, from 0 on.
func line(nodes int) api.Graph {
	g := api.Graph{Nodes: nodes}
	for n := range nodes - 1 {
		g.Arcs = append(g.Arcs, api.Arc{From: n, To: n + 1})
	}
	return g
}

// reversed has all arcs the other way round.
func reversed(g api.Graph) api.Graph {
	r := api.Graph{Nodes: g.Nodes}
	for _, a := range g.Arcs {
		r.Arcs = append(r.Arcs, api.Arc{From: a.To, To: a.From})
	}
	return r
}

// smallGraphs are all graphs of so many nodes, with at most one arc between two of them each way.
func smallGraphs(nodes int) []api.Graph {
	var all []api.Graph
	for bits := range 1 << (nodes * nodes) {
		g := api.Graph{Nodes: nodes}
		for i := range nodes * nodes {
			if bits>>i&1 == 1 {
				g.Arcs = append(g.Arcs, api.Arc{From: i / nodes, To: i % nodes})
			}
		}
		all = append(all, g)
	}
	return all
}

// someGraph is a graph with arcs in any order, some of them twice. Without cycles, they follow an order of the nodes.
func someGraph(random *rand.Rand, cycles bool) api.Graph {
	g := api.Graph{Nodes: 1 + random.Intn(64)}
	if random.Intn(4) == 0 {
		g.Nodes = 1 + random.Intn(8)
	}
	rank := random.Perm(g.Nodes)
	most := []int{512, 2 * g.Nodes, g.Nodes}[random.Intn(3)]
	for range random.Intn(most + 1) {
		a := api.Arc{From: random.Intn(g.Nodes), To: random.Intn(g.Nodes)}
		if !cycles && rank[a.From] > rank[a.To] {
			a.From, a.To = a.To, a.From
		}
		if cycles || a.From != a.To {
			g.Arcs = append(g.Arcs, a)
		}
	}
	return g
}

func someGraphs(seed int64, n int) []api.Graph {
	random := rand.New(rand.NewSource(seed))
	var l []api.Graph
	for i := range n {
		l = append(l, someGraph(random, i%3 > 0))
	}
	return l
}

// edgeGraphs are graphs at the limits.
func edgeGraphs() []api.Graph {
	return []api.Graph{
		made(0), {Arcs: []api.Arc{}}, made(1), made(1, 0, 0), made(64), {Nodes: 1, Arcs: make([]api.Arc, 512)}, {Nodes: 64, Arcs: make([]api.Arc, 512)},
		line(64), reversed(line(64)), rings(64), reversed(rings(64)), rings(slices.Repeat([]int{1}, 64)...), rings(slices.Repeat([]int{2}, 32)...), rings(22, 5, 1, 1, 1), rings(22, 5, 2), rings(20, 20, 20),
		line(32), line(33), made(64, 63, 0, 0, 63), made(64, 63, 63), made(64, 63, 0), made(64, 0, 63),
	}
}

func wrongGraphs() map[api.Errno][]api.Graph {
	far := func(n int) []api.Arc { return []api.Arc{{From: n, To: n}} }
	return map[api.Errno][]api.Graph{
		api.ErrRange: {
			made(-1), made(65), made(math.MinInt), made(math.MaxInt), made(65, 0, 1), made(-1, 0, 0), made(-1, -1, -1), made(65, 65, 64), made(65, 64, -1),
			{Nodes: -1, Arcs: make([]api.Arc, 513)}, {Nodes: 65, Arcs: make([]api.Arc, 513)}, {Nodes: math.MaxInt, Arcs: far(math.MaxInt)},
		},
		api.ErrFull: {
			{Nodes: 1, Arcs: make([]api.Arc, 513)}, {Nodes: 64, Arcs: make([]api.Arc, 513)}, {Nodes: 0, Arcs: make([]api.Arc, 513)}, {Nodes: 2, Arcs: make([]api.Arc, 5000)},
			{Nodes: 1, Arcs: append(far(1), make([]api.Arc, 512)...)}, {Nodes: 1, Arcs: append(make([]api.Arc, 512), far(-1)...)},
		},
		api.ErrNone: {
			made(2, 0, 2), made(2, 2, 0), made(2, 0, -1), made(2, -1, 0), made(2, 2, 2), made(0, 0, 0), made(0, -1, -1), made(64, 64, 0), made(64, 0, 64), made(1, 1, 0), made(1, 0, 1),
			made(3, 0, 1, 1, 2, 2, 3), made(3, 3, 0, 0, 1), made(3, 0, 0, -1, 1), {Nodes: 64, Arcs: far(math.MinInt)}, {Nodes: 64, Arcs: far(math.MaxInt)}, made(64, 0, math.MaxInt), made(64, math.MinInt, 63),
			{Nodes: 1, Arcs: append(make([]api.Arc, 511), far(1)...)}, {Nodes: 1, Arcs: append(far(-1), make([]api.Arc, 511)...)},
		},
	}
}

// arcsOf says for each two nodes whether an arc leads from one to the other.
func arcsOf(g api.Graph) [][]bool {
	is := make([][]bool, g.Nodes)
	for n := range is {
		is[n] = make([]bool, g.Nodes)
	}
	for _, a := range g.Arcs {
		is[a.From][a.To] = true
	}
	return is
}

// ways says for each two nodes whether a path with at least one arc leads from one to the other, by way of more and more nodes.
func ways(g api.Graph) [][]bool {
	is := arcsOf(g)
	for via := range g.Nodes {
		for a := range g.Nodes {
			for b := range g.Nodes {
				is[a][b] = is[a][b] || is[a][via] && is[via][b]
			}
		}
	}
	return is
}

// firstOrder takes the least node to which no arc leads from one that is left, again and again.
func firstOrder(g api.Graph) ([]int, api.Errno) {
	is := arcsOf(g)
	left := make([]bool, g.Nodes)
	for n := range left {
		left[n] = true
	}
	var order []int
	for len(order) < g.Nodes {
		least := -1
		for n := g.Nodes - 1; n >= 0; n-- {
			free := left[n]
			for m := range g.Nodes {
				free = free && !(left[m] && is[m][n])
			}
			if free {
				least = n
			}
		}
		if least < 0 {
			return nil, api.ErrCycle
		}
		left[least] = false
		order = append(order, least)
	}
	return order, api.OK
}

// permutations are all orders of nodes, lexicographically.
func permutations(nodes int) [][]int {
	var all [][]int
	var add func(l []int)
	add = func(l []int) {
		if len(l) == nodes {
			all = append(all, slices.Clone(l))
		}
		for n := range nodes {
			if !slices.Contains(l, n) {
				add(append(l, n))
			}
		}
	}
	add(nil)
	return all
}

// isOrder is the definition of an order.
func isOrder(g api.Graph, order []int) bool {
	for _, a := range g.Arcs {
		if slices.Index(order, a.From) >= slices.Index(order, a.To) {
			return false
		}
	}
	return true
}

// distances are the fewest arcs from each node to the node to; -1 if there is no path.
func distances(is [][]bool, to int) []int {
	far := slices.Repeat([]int{-1}, len(is))
	far[to] = 0
	for d := range len(is) {
		for n := range is {
			for m := range is {
				if far[n] < 0 && far[m] == d && is[n][m] {
					far[n] = d + 1
				}
			}
		}
	}
	return far
}

// firstPath goes on to the least node that is nearer to the end.
func firstPath(is [][]bool, from, to int) ([]int, api.Errno) {
	far := distances(is, to)
	if far[from] < 0 {
		return nil, api.ErrNone
	}
	path := []int{from}
	for n := from; n != to; {
		m := 0
		for !is[n][m] || far[m] != far[n]-1 {
			m++
		}
		path = append(path, m)
		n = m
	}
	return path, api.OK
}

// leastPath tries all lists of nodes, the shorter ones first, lexicographically.
func leastPath(is [][]bool, from, to int) ([]int, api.Errno) {
	var extend func(path []int, more int) []int
	extend = func(path []int, more int) []int {
		last := path[len(path)-1]
		if more == 0 {
			if last == to {
				return path
			}
			return nil
		}
		for n := range is {
			if is[last][n] {
				if found := extend(append(slices.Clone(path), n), more-1); found != nil {
					return found
				}
			}
		}
		return nil
	}
	for more := range is {
		if path := extend([]int{from}, more); path != nil {
			return path, api.OK
		}
	}
	return nil, api.ErrNone
}

// components asks each node for the nodes with paths both ways.
func components(g api.Graph) [][]int {
	way := ways(g)
	var parts [][]int
	for n := range g.Nodes {
		var part []int
		for m := range g.Nodes {
			if n == m || way[n][m] && way[m][n] {
				part = append(part, m)
			}
		}
		if part[0] == n {
			parts = append(parts, part)
		}
	}
	return parts
}

// closure is the definition of Close.
func closure(g api.Graph) (api.Graph, api.Errno) {
	c := api.Graph{Nodes: g.Nodes}
	for from, row := range ways(g) {
		for to, is := range row {
			if is {
				c.Arcs = append(c.Arcs, api.Arc{From: from, To: to})
			}
		}
	}
	if len(c.Arcs) > 512 {
		return api.Graph{}, api.ErrFull
	}
	return c, api.OK
}

func sameParts(a, b [][]int) bool { return slices.EqualFunc(a, b, slices.Equal[[]int]) }

func sameGraph(a, b api.Graph) bool { return a.Nodes == b.Nodes && slices.Equal(a.Arcs, b.Arcs) }

func checkOrder(t *testing.T, g api.Graph, want []int, err api.Errno) {
	t.Helper()
	if order, e := graph.Order(g); !slices.Equal(order, want) || e != err {
		t.Errorf("P9.2: Order(%v) is %v, %d, not %v, %d", g, order, e, want, err)
	}
}

func checkReach(t *testing.T, g api.Graph, from int, want []bool, err api.Errno) {
	t.Helper()
	if reach, e := graph.Reach(g, from); !slices.Equal(reach, want) || e != err {
		t.Errorf("P9.3: Reach(%v, %d) is %v, %d, not %v, %d", g, from, reach, e, want, err)
	}
}

func checkPath(t *testing.T, g api.Graph, from, to int, want []int, err api.Errno) {
	t.Helper()
	if path, e := graph.Path(g, from, to); !slices.Equal(path, want) || e != err {
		t.Errorf("P9.4: Path(%v, %d, %d) is %v, %d, not %v, %d", g, from, to, path, e, want, err)
	}
}

func checkParts(t *testing.T, g api.Graph, want [][]int, err api.Errno) {
	t.Helper()
	if parts, e := graph.Parts(g); !sameParts(parts, want) || e != err {
		t.Errorf("P9.5: Parts(%v) is %v, %d, not %v, %d", g, parts, e, want, err)
	}
}

func checkClose(t *testing.T, g, want api.Graph, err api.Errno) {
	t.Helper()
	if c, e := graph.Close(g); !sameGraph(c, want) || e != err {
		t.Errorf("P9.6: Close(%v) is %v, %d, not %v, %d", g, c, e, want, err)
	}
}

// checkReaches compares Reach with the paths from each node.
func checkReaches(t *testing.T, g api.Graph) {
	t.Helper()
	for from, want := range ways(g) {
		want[from] = true
		checkReach(t, g, from, want, api.OK)
	}
}

// checkClosure compares Close and Parts with their definitions.
func checkClosure(t *testing.T, g api.Graph) {
	t.Helper()
	want, err := closure(g)
	checkClose(t, g, want, err)
	checkParts(t, g, components(g), api.OK)
}

func TestCheck(t *testing.T) {
	for _, g := range slices.Concat(edgeGraphs(), smallGraphs(2), someGraphs(1, 100)) {
		if e := graph.Check(g); e != api.OK {
			t.Errorf("P9.1: Check(%v) is %d", g, e)
		}
	}
	for want, l := range wrongGraphs() {
		for _, g := range l {
			if e := graph.Check(g); e != want {
				t.Errorf("P9.1: Check of %d nodes and %d arcs is %d, not %d", g.Nodes, len(g.Arcs), e, want)
			}
		}
	}
}

// TestEnds has each end of an arc, for each number of nodes.
func TestEnds(t *testing.T) {
	for nodes := range 65 {
		for end := -2; end <= 66; end++ {
			want := api.OK
			if end < 0 || end >= nodes {
				want = api.ErrNone
			}
			for _, g := range []api.Graph{made(nodes, end, 0), made(nodes, 0, end), made(nodes, 0, 0, end, end)} {
				if e := graph.Check(g); nodes > 0 && e != want || nodes == 0 && e != api.ErrNone {
					t.Errorf("P9.1: Check(%v) is %d", g, e)
				}
			}
		}
	}
}

// TestGraphErrors expects the error of Check before all others.
func TestGraphErrors(t *testing.T) {
	for want, l := range wrongGraphs() {
		for _, g := range l {
			checkOrder(t, g, nil, want)
			checkParts(t, g, nil, want)
			checkClose(t, g, api.Graph{}, want)
			for _, from := range []int{0, 1, -1, 64, math.MinInt, math.MaxInt} {
				checkReach(t, g, from, nil, want)
				for _, to := range []int{0, 1, -1, 64, math.MinInt, math.MaxInt} {
					checkPath(t, g, from, to, nil, want)
				}
			}
		}
	}
}

// TestNodeErrors asks for nodes that are none.
func TestNodeErrors(t *testing.T) {
	for _, g := range edgeGraphs() {
		for _, none := range []int{-1, -2, g.Nodes, g.Nodes + 1, math.MinInt, math.MaxInt, math.MaxInt - 63} {
			checkReach(t, g, none, nil, api.ErrNone)
			checkPath(t, g, none, none, nil, api.ErrNone)
			for n := range g.Nodes {
				checkPath(t, g, none, n, nil, api.ErrNone)
				checkPath(t, g, n, none, nil, api.ErrNone)
			}
		}
	}
}

func TestExamples(t *testing.T) {
	g := made(5, 3, 1, 1, 0, 3, 0, 2, 0)
	checkOrder(t, g, []int{2, 3, 1, 0, 4}, api.OK)
	checkReach(t, g, 3, []bool{true, true, false, true, false}, api.OK)
	checkPath(t, g, 3, 0, []int{3, 0}, api.OK)
	checkPath(t, g, 0, 3, nil, api.ErrNone)
	checkPath(t, g, 4, 4, []int{4}, api.OK)
	checkParts(t, g, [][]int{{0}, {1}, {2}, {3}, {4}}, api.OK)
	g.Arcs = append(g.Arcs, api.Arc{From: 0, To: 1})
	checkOrder(t, g, nil, api.ErrCycle)
	checkParts(t, g, [][]int{{0, 1}, {2}, {3}, {4}}, api.OK)
	checkClose(t, made(3, 2, 1, 1, 0), made(3, 1, 0, 2, 0, 2, 1), api.OK)
}

func TestOrder(t *testing.T) {
	checkOrder(t, made(0), nil, api.OK)
	checkOrder(t, made(1), []int{0}, api.OK)
	checkOrder(t, made(1, 0, 0), nil, api.ErrCycle)
	checkOrder(t, made(4, 2, 0, 2, 0), []int{1, 2, 0, 3}, api.OK)
	checkOrder(t, made(4, 3, 2, 2, 1, 1, 0), []int{3, 2, 1, 0}, api.OK)
	checkOrder(t, made(5, 4, 0, 0, 3, 1, 2), []int{1, 2, 4, 0, 3}, api.OK)
	checkOrder(t, made(4, 0, 1, 2, 3, 3, 2), nil, api.ErrCycle)
	for nodes := range 4 {
		for _, g := range smallGraphs(nodes) {
			checkLeastOrder(t, g)
		}
	}
	for i, g := range smallGraphs(4) {
		if i%5 == 0 {
			checkLeastOrder(t, g)
		}
	}
	for _, g := range slices.Concat(edgeGraphs(), someGraphs(2, 400)) {
		order, err := firstOrder(g)
		checkOrder(t, g, order, err)
	}
}

// checkLeastOrder compares Order with the first permutation that is an order.
func checkLeastOrder(t *testing.T, g api.Graph) {
	t.Helper()
	all := permutations(g.Nodes)
	if i := slices.IndexFunc(all, func(l []int) bool { return isOrder(g, l) }); i >= 0 {
		checkOrder(t, g, all[i], api.OK)
	} else {
		checkOrder(t, g, nil, api.ErrCycle)
	}
}

func TestReach(t *testing.T) {
	checkReach(t, made(1), 0, []bool{true}, api.OK)
	checkReach(t, made(2, 1, 0), 0, []bool{true, false}, api.OK)
	checkReach(t, made(2, 1, 0), 1, []bool{true, true}, api.OK)
	for nodes := 1; nodes <= 4; nodes++ {
		for _, g := range smallGraphs(nodes) {
			checkReaches(t, g)
		}
	}
	for _, g := range slices.Concat(edgeGraphs(), someGraphs(3, 150)) {
		checkReaches(t, g)
	}
}

func TestPath(t *testing.T) {
	// the shorter path comes before the lesser one
	checkPath(t, made(4, 0, 1, 1, 2, 2, 3, 0, 3), 0, 3, []int{0, 3}, api.OK)
	// a lesser node comes first, whatever follows it
	checkPath(t, made(6, 0, 2, 0, 1, 2, 3, 1, 4, 3, 5, 4, 5), 0, 5, []int{0, 1, 4, 5}, api.OK)
	checkPath(t, made(6, 0, 1, 0, 2, 1, 4, 2, 3, 4, 5, 3, 5), 0, 5, []int{0, 1, 4, 5}, api.OK)
	// an arc to itself is no part of a path
	checkPath(t, made(2, 0, 0, 1, 1, 0, 1), 0, 1, []int{0, 1}, api.OK)
	checkPath(t, made(2, 0, 0, 0, 1, 1, 0), 0, 0, []int{0}, api.OK)
	for nodes := 1; nodes <= 4; nodes++ {
		for _, g := range smallGraphs(nodes) {
			is := arcsOf(g)
			for i := range nodes * nodes {
				path, err := leastPath(is, i/nodes, i%nodes)
				checkPath(t, g, i/nodes, i%nodes, path, err)
			}
		}
	}
	random := rand.New(rand.NewSource(5))
	for _, g := range slices.Concat(edgeGraphs(), someGraphs(4, 150)) {
		is := arcsOf(g)
		for range min(g.Nodes*g.Nodes, 40) {
			from, to := random.Intn(g.Nodes), random.Intn(g.Nodes)
			path, err := firstPath(is, from, to)
			checkPath(t, g, from, to, path, err)
		}
	}
	path, _ := firstPath(arcsOf(line(64)), 0, 63)
	checkPath(t, line(64), 0, 63, path, api.OK)
}

func TestPartsAndClose(t *testing.T) {
	checkParts(t, made(6, 0, 2, 0, 1, 2, 3, 1, 3, 3, 0, 3, 4, 5, 4), [][]int{{0, 1, 2, 3}, {4}, {5}}, api.OK)
	checkParts(t, made(6, 5, 0, 0, 5, 4, 1, 1, 4, 4, 5), [][]int{{0, 5}, {1, 4}, {2}, {3}}, api.OK)
	checkParts(t, made(0), nil, api.OK)
	checkClose(t, made(0), made(0), api.OK)
	checkClose(t, made(2), made(2), api.OK)
	checkClose(t, made(2, 1, 1, 1, 1), made(2, 1, 1), api.OK)
	checkClose(t, made(2, 0, 1, 1, 0), made(2, 0, 0, 0, 1, 1, 0, 1, 1), api.OK)
	for nodes := range 5 {
		for _, g := range smallGraphs(nodes) {
			checkClosure(t, g)
		}
	}
	for _, g := range slices.Concat(edgeGraphs(), someGraphs(6, 300)) {
		checkClosure(t, g)
	}
}

// TestFullClosures has closures of 512 arcs, and of a few more and less.
func TestFullClosures(t *testing.T) {
	for _, c := range []struct {
		g    api.Graph
		arcs int
		err  api.Errno
	}{
		{rings(22), 484, api.OK}, {rings(23), 0, api.ErrFull}, {rings(64), 0, api.ErrFull},
		{rings(22, 5, 1, 1), 511, api.OK}, {rings(22, 5, 1, 1, 1), 512, api.OK}, {rings(22, 5, 2), 0, api.ErrFull}, {rings(22, 5, 1, 1, 1, 1), 0, api.ErrFull},
		{line(32), 496, api.OK}, {line(33), 0, api.ErrFull}, {reversed(line(33)), 0, api.ErrFull}, {api.Graph{Nodes: 1, Arcs: make([]api.Arc, 512)}, 1, api.OK},
	} {
		got, e := graph.Close(c.g)
		if len(got.Arcs) != c.arcs || e != c.err || e != api.OK && got.Nodes != 0 {
			t.Errorf("P9.6: Close(%v) has %d nodes and %d arcs, %d, not %d, %d", c.g, got.Nodes, len(got.Arcs), e, c.arcs, c.err)
		}
		checkClosure(t, c.g)
	}
}

// TestArcs expects that neither the order of arcs matters, nor how often each of them is there.
func TestArcs(t *testing.T) {
	random := rand.New(rand.NewSource(7))
	for _, g := range someGraphs(8, 100) {
		g.Arcs = g.Arcs[:min(len(g.Arcs), 256)]
		other := api.Graph{Nodes: g.Nodes, Arcs: slices.Concat(g.Arcs, g.Arcs)}
		random.Shuffle(len(other.Arcs), func(i, j int) { other.Arcs[i], other.Arcs[j] = other.Arcs[j], other.Arcs[i] })
		order, e := graph.Order(g)
		checkOrder(t, other, order, e)
		parts, e := graph.Parts(g)
		checkParts(t, other, parts, e)
		c, e := graph.Close(g)
		checkClose(t, other, c, e)
		for from := range g.Nodes {
			reach, e := graph.Reach(g, from)
			checkReach(t, other, from, reach, e)
			path, e := graph.Path(g, from, g.Nodes-1)
			checkPath(t, other, from, g.Nodes-1, path, e)
		}
	}
}

// TestCycles tries P9.7 through the exported functions.
func TestCycles(t *testing.T) {
	for _, g := range slices.Concat(edgeGraphs(), smallGraphs(3), someGraphs(9, 150)) {
		want := api.OK
		for _, a := range g.Arcs {
			if _, e := graph.Path(g, a.To, a.From); e == api.OK {
				want = api.ErrCycle
			}
		}
		if _, e := graph.Order(g); e != want {
			t.Errorf("P9.7: Order(%v) has the error %d, not %d", g, e, want)
		}
	}
}

// TestRests tries P9.8 through the exported functions.
func TestRests(t *testing.T) {
	random := rand.New(rand.NewSource(10))
	for _, g := range slices.Concat(edgeGraphs(), smallGraphs(3), someGraphs(11, 100)) {
		if g.Nodes == 0 {
			continue
		}
		from := random.Intn(g.Nodes)
		reach, _ := graph.Reach(g, from)
		for to := range g.Nodes {
			path, e := graph.Path(g, from, to)
			if (e == api.OK) != reach[to] {
				t.Errorf("P9.8: Path(%v, %d, %d) has the error %d, Reach says %t", g, from, to, e, reach[to])
			}
			for i, n := range path {
				if rest, _ := graph.Path(g, n, to); !slices.Equal(rest, path[i:]) {
					t.Errorf("P9.8: the rest of %v from %d is %v, in %v", path, n, rest, g)
				}
			}
		}
	}
}

// TestClosures tries P9.9 through the exported functions.
func TestClosures(t *testing.T) {
	for _, g := range slices.Concat(edgeGraphs(), smallGraphs(3), someGraphs(12, 300)) {
		c, e := graph.Close(g)
		if e != api.OK {
			continue
		}
		if again, e := graph.Close(c); !sameGraph(again, c) || e != api.OK {
			t.Errorf("P9.9: the closure of the closure %v is %v, %d", c, again, e)
		}
		parts, _ := graph.Parts(g)
		if of, e := graph.Parts(c); !sameParts(of, parts) || e != api.OK {
			t.Errorf("P9.9: the components of the closure of %v are %v, %d, not %v", g, of, e, parts)
		}
	}
}

// TestMemory has arguments with memory behind them, which stays as it is, and changes results and arguments afterwards.
func TestMemory(t *testing.T) {
	for _, ends := range [][]int{{0, 0, 0, 1, 1, 0, 1, 1, 2, 3}, {3, 2, 2, 1, 1, 3, 1, 0, 3, 2}, {3, 1, 1, 0, 3, 0}} {
		want := made(4, ends...)
		memory := append(slices.Clone(want.Arcs), api.Arc{From: 9, To: -9}, api.Arc{From: 7, To: 7})
		kept := slices.Clone(memory)
		g := api.Graph{Nodes: 4, Arcs: memory[:len(want.Arcs)]}
		graph.Check(g)
		graph.Order(g)
		graph.Reach(g, 3)
		graph.Path(g, 3, 0)
		parts, _ := graph.Parts(g)
		c, _ := graph.Close(g)
		if !slices.Equal(memory, kept) {
			t.Errorf("P9.1 to P9.6: the arcs %v are changed to %v", kept, memory)
		}
		clear(memory)
		if wanted, _ := closure(want); !sameGraph(c, wanted) {
			t.Errorf("P9.6: the closure of %v shares memory with it: %v", want, c)
		}
		for i := range parts {
			part := parts[i]
			part = part[:cap(part)]
			for j := range part {
				part[j] = -1
			}
			if i+1 < len(parts) && !slices.Equal(parts[i+1], components(want)[i+1]) {
				t.Errorf("P9.5: the components of %v share memory: %v", want, parts)
			}
		}
	}
}

// TestAgain expects that a call does not depend on those before it, whose results are changed.
func TestAgain(t *testing.T) {
	g := made(5, 3, 1, 1, 0, 3, 0, 2, 0)
	for range 3 {
		order, _ := graph.Order(g)
		reach, _ := graph.Reach(g, 3)
		path, _ := graph.Path(g, 3, 0)
		parts, _ := graph.Parts(g)
		c, _ := graph.Close(g)
		if !slices.Equal(order, []int{2, 3, 1, 0, 4}) || !slices.Equal(reach, []bool{true, true, false, true, false}) || !slices.Equal(path, []int{3, 0}) ||
			!sameParts(parts, [][]int{{0}, {1}, {2}, {3}, {4}}) || !sameGraph(c, made(5, 1, 0, 2, 0, 3, 0, 3, 1)) {
			t.Errorf("P9.2 to P9.6: results depend on earlier calls: %v, %v, %v, %v, %v", order, reach, path, parts, c)
		}
		clear(order)
		clear(reach)
		clear(path)
		clear(parts[1])
		clear(parts)
		clear(c.Arcs)
	}
}
