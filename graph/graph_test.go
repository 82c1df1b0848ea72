package graph_test

import (
	"math"
	"slices"
	"testing"

	"latchkey/graph"
	"latchkey/lane"
	"latchkey/mode"
	"latchkey/table"
)

type edges = []table.Edge

// Nodes are any numbers: those below 0 and very great ones, too.
var farNodes = []int{
	math.MinInt, math.MinInt + 1, -(1 << 32), math.MinInt32, -64, -1, 0, 1, 63, 64,
	math.MaxInt32, 1 << 32, 1<<32 + 1, math.MaxInt - 1, math.MaxInt,
}

// link makes edges: from, to, from, to, ..
func link(ends ...int) edges {
	var out edges
	for i := 0; i < len(ends); i += 2 {
		out = append(out, table.Edge{From: ends[i], To: ends[i+1]})
	}
	return out
}

func nodes(t *testing.T, l edges, want ...int) {
	t.Helper()
	if got := graph.Nodes(l...); !slices.Equal(got, want) {
		t.Errorf("P11.1: Nodes of %v is %v, not %v", l, got, want)
	}
}

func next(t *testing.T, n int, l edges, want ...int) {
	t.Helper()
	if got := graph.Next(n, l...); !slices.Equal(got, want) {
		t.Errorf("P11.1: Next(%d) of %v is %v, not %v", n, l, got, want)
	}
}

func without(t *testing.T, gone []int, l edges, want ...table.Edge) {
	t.Helper()
	if got := graph.Without(gone, l...); !slices.Equal(got, want) {
		t.Errorf("P11.1: %v Without %v is %v, not %v", l, gone, got, want)
	}
}

func circle(t *testing.T, l edges, want ...int) {
	t.Helper()
	if got := graph.Circle(l...); !slices.Equal(got, want) {
		t.Errorf("P11.2: Circle of %v is %v, not %v", l, got, want)
	}
}

// on says who of all that l names, and of some others, is on a circle: want
// and nobody else.
func on(t *testing.T, l edges, want ...int) {
	t.Helper()
	all := append([]int{-1, 0, 1, 7, 77}, farNodes...)
	for _, e := range l {
		all = append(all, e.From, e.To, e.From-1, e.To+1)
	}
	slices.Sort(all)
	for _, n := range slices.Compact(all) {
		if got := graph.On(n, l...); got != slices.Contains(want, n) {
			t.Errorf("P11.2: On(%d) of %v is %v", n, l, got)
		}
	}
	if some := len(graph.Circle(l...)) > 0; some != (len(want) > 0) {
		t.Errorf("P11.3: Circle of %v is %v", l, graph.Circle(l...))
	}
}

func TestNoEdges(t *testing.T) {
	for _, l := range []edges{nil, {}} {
		nodes(t, l)
		circle(t, l)
		on(t, l)
		for _, n := range farNodes {
			next(t, n, l)
			without(t, []int{n}, l)
		}
		without(t, nil, l)
		without(t, []int{}, l)
		without(t, farNodes, l)
	}
	if len(graph.Nodes()) > 0 || len(graph.Next(0)) > 0 || len(graph.Without([]int{0})) > 0 {
		t.Error("P11.1: there is something without an edge")
	}
	if len(graph.Circle()) > 0 || graph.On(0) {
		t.Error("P11.2: there is a circle without an edge")
	}
}

func TestNodesRiseEachOnce(t *testing.T) {
	nodes(t, link(3, 3), 3)
	nodes(t, link(1, 2), 1, 2)
	nodes(t, link(2, 1), 1, 2)
	nodes(t, link(1, 2, 2, 1, 1, 2, 1, 1), 1, 2)
	nodes(t, link(9, 4, 4, 0, 30, 9, 4, -5, 0, 30), -5, 0, 4, 9, 30)
	// As numbers, not as texts.
	nodes(t, link(10, 9, 100, 2, -10, -9), -10, -9, 2, 9, 10, 100)
	nodes(t, link(0, 0), 0)
	nodes(t, link(-1, -1), -1)
}

func TestNextRisesEachOnce(t *testing.T) {
	l := link(5, 2, 2, 9, 5, -1, 5, 2, 9, 5, 5, 30, 5, 9, 5, 5, 8, 8, 5, -1)
	next(t, 5, l, -1, 2, 5, 9, 30)
	next(t, 2, l, 9)
	next(t, 9, l, 5)
	next(t, 8, l, 8)
	// At the far end alone.
	next(t, -1, l)
	next(t, 30, l)
	// No edge names these.
	for _, n := range []int{0, 1, 3, -2, -5, 31, 261, math.MinInt, math.MaxInt, 5 + 1<<32} {
		next(t, n, l)
	}
	next(t, 1, link(2, 1, 3, 1, 1, 7), 7)
}

func TestWithout(t *testing.T) {
	l := link(5, 2, 2, 9, 5, -1, 5, 2, 9, 5, 3, 3, 0, 3, 5, 2, 5, -1)
	without(t, nil, l, l...)
	without(t, []int{}, l, l...)
	// One that only goes out, that is only gone to, that does both.
	without(t, []int{0}, l, link(5, 2, 2, 9, 5, -1, 5, 2, 9, 5, 3, 3, 5, 2, 5, -1)...)
	without(t, []int{-1}, l, link(5, 2, 2, 9, 5, 2, 9, 5, 3, 3, 0, 3, 5, 2)...)
	without(t, []int{9}, l, link(5, 2, 5, -1, 5, 2, 3, 3, 0, 3, 5, 2, 5, -1)...)
	without(t, []int{3}, l, link(5, 2, 2, 9, 5, -1, 5, 2, 9, 5, 5, 2, 5, -1)...)
	without(t, []int{5}, l, link(2, 9, 3, 3, 0, 3)...)
	// Several, in any order; of one edge both.
	without(t, []int{9, -1}, l, link(5, 2, 5, 2, 3, 3, 0, 3, 5, 2)...)
	without(t, []int{-1, 9}, l, link(5, 2, 5, 2, 3, 3, 0, 3, 5, 2)...)
	without(t, []int{5, 2}, l, link(3, 3, 0, 3)...)
	without(t, []int{3, 5}, l, link(2, 9)...)
	// Twice and more in gone.
	without(t, []int{9, 9}, l, link(5, 2, 5, -1, 5, 2, 3, 3, 0, 3, 5, 2, 5, -1)...)
	without(t, []int{9, -1, 9, 9, -1}, l, link(5, 2, 5, 2, 3, 3, 0, 3, 5, 2)...)
	// All.
	without(t, []int{5, 3, 2}, l)
	without(t, []int{-1, 0, 2, 3, 5, 9}, l)
	without(t, []int{3}, link(3, 3))
	without(t, []int{1, 2}, link(1, 2, 1, 2))
}

func TestWithoutThoseThatNoEdgeNames(t *testing.T) {
	l := link(5, 2, 2, 9, 5, 2)
	for _, n := range []int{0, -5, -2, 1, 3, 4, 6, 8, 10, 258, 261, 2 + 1<<32, math.MinInt, math.MaxInt} {
		without(t, []int{n}, l, l...)
		without(t, []int{n, n, 3, n}, l, l...)
		without(t, []int{n, 9}, l, link(5, 2, 5, 2)...)
		without(t, []int{9, n}, l, link(5, 2, 5, 2)...)
	}
	without(t, farNodes, l, l...)
	without(t, farNodes, link(9, 5, 5, 64, 7, 8, -1, 7, 7, 7, 7, 8, 1<<32, 9), link(9, 5, 7, 8, 7, 7, 7, 8)...)
}

func TestFarNodes(t *testing.T) {
	var ring edges
	for i, n := range farNodes {
		ring = append(ring, table.Edge{From: farNodes[(i+1)%len(farNodes)], To: n})
	}
	nodes(t, ring, farNodes...)
	on(t, ring, farNodes...)
	falling := slices.Clone(farNodes[1:])
	slices.Reverse(falling)
	circle(t, ring, append([]int{math.MinInt}, falling...)...)
	for i, n := range farNodes {
		next(t, n, ring, farNodes[(i+len(farNodes)-1)%len(farNodes)])
		left := slices.DeleteFunc(slices.Clone(ring), func(e table.Edge) bool { return e.From == n || e.To == n })
		without(t, []int{n}, ring, left...)
		on(t, left)
		circle(t, link(n, 7, 7, n, 7, n), min(n, 7), max(n, 7))
		circle(t, link(7, n, n, n), n)
	}
}

func TestFarNodesRise(t *testing.T) {
	l := link(
		math.MaxInt, math.MinInt, math.MaxInt, 1<<32, math.MaxInt, -1,
		math.MaxInt, math.MaxInt, math.MaxInt, math.MinInt, math.MaxInt, 0,
	)
	nodes(t, l, math.MinInt, -1, 0, 1<<32, math.MaxInt)
	next(t, math.MaxInt, l, math.MinInt, -1, 0, 1<<32, math.MaxInt)
	next(t, math.MinInt, l)
	circle(t, l, math.MaxInt)
	on(t, l, math.MaxInt)
	// The lowest first, and from it the lowest.
	circle(t, link(math.MaxInt, math.MinInt, math.MinInt, math.MaxInt, math.MinInt, -1, -1, math.MinInt), math.MinInt, -1)
	circle(t, link(math.MaxInt, -1, -1, math.MaxInt, math.MinInt, -1), -1, math.MaxInt)
	const low, next, high = math.MinInt, math.MinInt + 1, math.MaxInt
	circle(t, link(low, high, high, low, low, next, next, low), low, next)
	circle(t, link(low, next, next, low, low, high, high, low), low, next)
}

func TestNoCircle(t *testing.T) {
	for _, l := range []edges{
		link(1, 2), link(2, 1), link(1, 2, 1, 2), link(1, 2, 2, 3, 1, 3), link(3, 2, 2, 1, 3, 1),
		link(1, 3, 2, 3), link(3, 1, 3, 2), link(1, 2, 3, 4), link(0, 1, 0, 2, 1, 3, 2, 3, 3, 4, 0, 4),
		link(4, 0, 3, 4, 3, 2, 3, 1, 2, 0, 1, 0, -1, 3),
	} {
		circle(t, l)
		on(t, l)
	}
}

func TestCircleOfOne(t *testing.T) {
	circle(t, link(3, 3), 3)
	circle(t, link(3, 3, 3, 3), 3)
	circle(t, link(0, 0), 0)
	circle(t, link(-1, -1), -1)
	circle(t, link(2, 3, 3, 3, 3, 4), 3)
	circle(t, link(5, 5, 4, 4, 6, 6), 4)
	on(t, link(5, 5, 4, 4, 6, 6), 4, 5, 6)
	on(t, link(2, 3, 3, 3, 3, 4), 3)
	// An end at once, though others lead back, too.
	circle(t, link(1, 1, 1, 2, 2, 1), 1)
	circle(t, link(7, 1, 1, 2, 2, 7, 1, 1), 1)
	// One of a longer circle may have one of its own: the lowest begins.
	circle(t, link(1, 2, 2, 1, 2, 2), 1, 2)
	circle(t, link(1, 2, 2, 2, 2, 3, 3, 3, 3, 1), 1, 2, 3)
	circle(t, link(2, 1, 2, 2, 3, 2, 2, 3), 2)
}

func TestCircleOfTwo(t *testing.T) {
	circle(t, link(1, 2, 2, 1), 1, 2)
	circle(t, link(2, 1, 1, 2), 1, 2)
	circle(t, link(2, 1, 2, 1, 1, 2, 1, 2), 1, 2)
	circle(t, link(9, -9, -9, 9), -9, 9)
	on(t, link(2, 1, 1, 2), 1, 2)
}

func TestCirclesThatShareNothing(t *testing.T) {
	circle(t, link(5, 6, 6, 5, 2, 3, 3, 2), 2, 3)
	circle(t, link(2, 3, 3, 2, 5, 6, 6, 5), 2, 3)
	circle(t, link(1, 9, 9, 1, 2, 3, 3, 2), 1, 9)
	circle(t, link(1, 4, 4, 7, 7, 1, 2, 5, 5, 2, 3, 3), 1, 4, 7)
	on(t, link(1, 4, 4, 7, 7, 1, 2, 5, 5, 2, 3, 3), 1, 2, 3, 4, 5, 7)
	// One leads to the other: both ways round.
	circle(t, link(1, 4, 4, 1, 4, 2, 2, 3, 3, 2), 1, 4)
	circle(t, link(1, 4, 4, 1, 2, 3, 3, 2, 3, 1), 1, 4)
	on(t, link(1, 4, 4, 1, 4, 2, 2, 3, 3, 2), 1, 2, 3, 4)
}

func TestCirclesThatShareNodes(t *testing.T) {
	// 1 alone is on both.
	circle(t, link(1, 3, 3, 1, 1, 2, 2, 1), 1, 2)
	circle(t, link(1, 3, 3, 1, 1, 2, 2, 4, 4, 1), 1, 2, 4)
	// 2 is on both, and is not the lowest.
	circle(t, link(2, 3, 3, 2, 1, 2, 2, 1), 1, 2)
	circle(t, link(2, 0, 0, 2, 1, 2, 2, 1), 0, 2)
	// Two nodes in a row are on both.
	circle(t, link(1, 2, 2, 3, 3, 1, 2, 4, 4, 1), 1, 2, 3)
	circle(t, link(1, 2, 2, 4, 4, 1, 2, 3, 3, 1), 1, 2, 3)
	circle(t, link(4, 3, 3, 1, 1, 4, 3, 2, 2, 4), 1, 4, 3)
	on(t, link(4, 3, 3, 1, 1, 4, 3, 2, 2, 4), 1, 2, 3, 4)
	// Each to each.
	circle(t, link(1, 2, 1, 3, 2, 1, 2, 3, 3, 1, 3, 2), 1, 2)
	circle(t, link(3, 1, 3, 2, 2, 1, 2, 3, 1, 3, 1, 2), 1, 2)
}

func TestLowerNodesThatLeadIntoACircle(t *testing.T) {
	circle(t, link(1, 2, 2, 3, 3, 2), 2, 3)
	circle(t, link(0, 5, 5, 6, 6, 5, -3, 0), 5, 6)
	circle(t, link(0, 7, 1, 7, 2, 9, 7, 9, 9, 7, 9, 3, 3, 4), 7, 9)
	on(t, link(1, 2, 2, 3, 3, 2), 2, 3)
	on(t, link(0, 5, 5, 6, 6, 5, -3, 0), 5, 6)
	on(t, link(0, 7, 1, 7, 2, 9, 7, 9, 9, 7, 9, 3, 3, 4), 7, 9)
	// Between two circles, below both.
	circle(t, link(5, 6, 6, 5, 6, 0, 0, 3, 3, 4, 4, 3), 3, 4)
	on(t, link(5, 6, 6, 5, 6, 0, 0, 3, 3, 4, 4, 3), 3, 4, 5, 6)
}

func TestLowerNextThatLeadsNowhere(t *testing.T) {
	circle(t, link(1, 2, 1, 3, 3, 1), 1, 3)
	circle(t, link(1, 2, 1, 3, 2, 4, 3, 1), 1, 3)
	circle(t, link(1, 0, 1, 3, 3, 1), 1, 3)
	circle(t, link(1, 5, 5, 2, 5, 3, 2, 4, 3, 1), 1, 5, 3)
	// The lower one leads into a circle, but not back.
	circle(t, link(1, 2, 2, 3, 3, 2, 1, 9, 9, 1), 1, 9)
	circle(t, link(1, 2, 2, 2, 1, 9, 9, 1), 1, 9)
	// The lower one leads back, and is taken, though the way is longer.
	circle(t, link(1, 2, 1, 3, 2, 3, 3, 1), 1, 2, 3)
	circle(t, link(1, 2, 1, 9, 2, 8, 8, 7, 7, 9, 9, 1), 1, 2, 8, 7, 9)
	circle(t, link(1, 3, 3, 2, 2, 1), 1, 3, 2)
}

func TestLowerNextThatLeadsBackThroughTheCircleAlone(t *testing.T) {
	circle(t, link(1, 2, 2, 3, 2, 5, 3, 2, 5, 1), 1, 2, 5)
	circle(t, link(1, 4, 4, 2, 2, 4, 4, 3, 3, 1), 1, 4, 3)
	circle(t, link(1, 2, 2, 3, 3, 2, 3, 4, 4, 1), 1, 2, 3, 4)
	circle(t, link(1, 5, 5, 6, 6, 2, 2, 3, 3, 5, 3, 6, 6, 4, 4, 1), 1, 5, 6, 4)
	// It leads back past the circle, too.
	circle(t, link(1, 5, 5, 6, 6, 2, 2, 3, 3, 5, 3, 7, 7, 1, 6, 4, 4, 1), 1, 5, 6, 2, 3, 7)
	// The next one itself is one that the circle has.
	circle(t, link(1, 2, 2, 3, 3, 4, 4, 2, 4, 3, 4, 5, 5, 1), 1, 2, 3, 4, 5)
	// Through the first one is no way round: it is back.
	circle(t, link(1, 4, 4, 2, 2, 1, 4, 3, 3, 1), 1, 4, 2)
}

func TestEndsAtOnce(t *testing.T) {
	circle(t, link(1, 2, 2, 1, 2, 3, 3, 1), 1, 2)
	circle(t, link(1, 9, 9, 2, 2, 1, 9, 1), 1, 9)
	// A lower Next of the last, that leads nowhere, does not hinder it.
	circle(t, link(1, 2, 2, 0, 2, 1, 0, -1), 1, 2)
	circle(t, link(1, 2, 2, 3, 3, 0, 3, 1, 3, 2, 3, 4, 4, 1), 1, 2, 3)
}

func TestOn(t *testing.T) {
	// 1 leads into a circle, 4 is behind it, 5 is one alone.
	on(t, link(1, 2, 2, 3, 3, 2, 3, 4, 5, 5), 2, 3, 5)
	on(t, link(4, 3, 3, 2, 2, 3, 2, 1), 2, 3)
	// Behind one circle and ahead of the next one.
	on(t, link(1, 2, 2, 1, 2, 5, 5, 8, 8, 9, 9, 8), 1, 2, 8, 9)
	on(t, link(9, 8, 8, 9, 8, 5, 5, 2, 2, 1, 1, 2), 1, 2, 8, 9)
	// Not on the Circle, but on one.
	on(t, link(1, 2, 2, 1, 2, 3, 3, 2, 3, 4, 4, 3), 1, 2, 3, 4)
	on(t, link(1, 1, 1, 2, 2, 3, 3, 2), 1, 2, 3)
	on(t, link(0, 1, 1, 2, 2, 3, 3, 4, 4, 0), 0, 1, 2, 3, 4)
}

func TestEdgesOfATable(t *testing.T) {
	x, _ := table.New(4, 20)
	for _, ask := range [][3]int{
		{1, 0, mode.X}, {2, 1, mode.X}, {3, 2, mode.S}, {4, 2, mode.S}, {5, 3, mode.X},
		{1, 1, mode.S}, {2, 2, mode.X}, {5, 0, mode.S},
	} {
		x.Ask(ask[0], ask[1], ask[2])
	}
	l := x.Edges()
	nodes(t, l, 1, 2, 3, 4, 5)
	next(t, 2, l, 3, 4)
	circle(t, l)
	on(t, l)
	if got, _ := x.Ask(4, 0, mode.S); got != lane.Waiting {
		t.Fatal("4 does not wait for 1")
	}
	l = x.Edges()
	circle(t, l, 1, 2, 4)
	// 4 waits for 5, too, that is ahead of it in the lane of 1.
	on(t, l, 1, 2, 4, 5)
	on(t, graph.Without([]int{2}, l...))
}

// spoil writes into all of a list, its spare room too.
func spoil[T any](l []T, v T) {
	l = l[:cap(l)]
	for i := range l {
		l[i] = v
	}
}

// answers are all that the package answers of the same arguments.
type answers struct {
	nodes, next, circle []int
	without             edges
	on                  bool
}

func answer(n int, gone []int, l edges) answers {
	return answers{
		nodes: graph.Nodes(l...), next: graph.Next(n, l...), circle: graph.Circle(l...),
		without: graph.Without(gone, l...), on: graph.On(n, l...),
	}
}

func (a answers) equal(b answers) bool {
	return slices.Equal(a.nodes, b.nodes) && slices.Equal(a.next, b.next) && slices.Equal(a.circle, b.circle) &&
		slices.Equal(a.without, b.without) && a.on == b.on
}

func (a answers) spoil() {
	spoil(a.nodes, 77)
	spoil(a.next, 77)
	spoil(a.circle, 77)
	spoil(a.without, table.Edge{From: 77, To: 77})
}

func TestAnswersAreNewMemory(t *testing.T) {
	for _, l := range []edges{
		nil, link(3, 3), link(1, 2, 2, 1), link(1, 2, 1, 2, 3, 4), link(5, 1, 5, 2, 2, 5, 5, 9, 5, 5, 9, 5, 7, 9),
	} {
		for _, gone := range [][]int{nil, {1}, {9, 2, 9}, {77}} {
			for _, n := range []int{5, 1, 77} {
				given, also := slices.Clone(l), slices.Clone(gone)
				first, second := answer(n, also, given), answer(n, also, given)
				first.spoil()
				if !slices.Equal(given, l) || !slices.Equal(also, gone) {
					t.Fatalf("P0.4: what was handed in shows a change of an answer: %v, %v", given, also)
				}
				if third := answer(n, also, given); !second.equal(third) {
					t.Fatalf("P0.4: a change of an answer turned %v into %v", second, third)
				}
				spoil(given, table.Edge{From: 88, To: 88})
				spoil(also, 88)
				if third := answer(n, gone, l); !second.equal(third) {
					t.Fatalf("P0.4: an answer shows a change of what was handed in")
				}
			}
		}
	}
}

func TestArgumentsStayAsTheyAre(t *testing.T) {
	// Behind the length stands what would make circles, and what would be gone.
	all := link(9, 3, 3, 9, 4, 3, 9, 1, 9, 1, 4, 2, 2, 4, 1, 9, 5, 5)
	gone := []int{9, 2, 9, 3, 4, 1}
	was, wasGone := slices.Clone(all), slices.Clone(gone)
	for long := range all {
		for many := range gone {
			l, g := all[:long], gone[:many]
			whole := answer(9, slices.Clone(g), slices.Clone(l))
			if got := answer(9, g, l); !got.equal(whole) {
				t.Fatalf("P0.4: what lies behind %v, %v was read: %v", l, g, got)
			}
			if !slices.Equal(all, was) || !slices.Equal(gone, wasGone) {
				t.Fatalf("P0.4: %v, %v was changed to %v, %v", was, wasGone, all, gone)
			}
		}
	}
}

// leads says whether to can be reached from from, by no edge or more, without
// one of not.
func leads(l edges, from, to int, not []int) bool {
	found := []int{from}
	for i := 0; i < len(found); i++ {
		if found[i] == to {
			return true
		}
		for _, e := range l {
			if e.From == found[i] && !slices.Contains(found, e.To) && !slices.Contains(not, e.To) {
				found = append(found, e.To)
			}
		}
	}
	return false
}

// isOn says whether one of the edges from n leads back to n.
func isOn(l edges, n int) bool {
	return slices.ContainsFunc(l, func(e table.Edge) bool { return e.From == n && leads(l, e.To, n, nil) })
}

// named are all that an edge names, in a second way.
func named(l edges) []int {
	set := map[int]struct{}{}
	for _, e := range l {
		set[e.From] = struct{}{}
		set[e.To] = struct{}{}
	}
	return keys(set)
}

func keys(set map[int]struct{}) []int {
	var out []int
	for n := range set {
		out = append(out, n)
	}
	slices.Sort(out)
	return out
}

// goesTo are those to whom edges from n go, in a second way.
func goesTo(l edges, n int) []int {
	set := map[int]struct{}{}
	for _, e := range l {
		if e.From == n {
			set[e.To] = struct{}{}
		}
	}
	return keys(set)
}

// follow is Circle word by word, one node after the other.
func follow(l edges) []int {
	all := named(l)
	i := slices.IndexFunc(all, func(n int) bool { return isOn(l, n) })
	if i < 0 {
		return nil
	}
	first := all[i]
	out := []int{first}
	for {
		after := goesTo(l, out[len(out)-1])
		if slices.Contains(after, first) {
			return out
		}
		i := slices.IndexFunc(after, func(n int) bool {
			return !slices.Contains(out, n) && leads(l, n, first, out[1:])
		})
		out = append(out, after[i])
	}
}

// leastRound is Circle in a third way: of all ways round from the lowest node
// that has one, through each at most once, the one that is least as a list.
func leastRound(l edges) []int {
	var least []int
	for _, n := range named(l) {
		var try func(way []int)
		try = func(way []int) {
			last := way[len(way)-1]
			if slices.Contains(l, table.Edge{From: last, To: n}) && (least == nil || slices.Compare(way, least) < 0) {
				least = slices.Clone(way)
			}
			for _, m := range goesTo(l, last) {
				if !slices.Contains(way, m) {
					try(append(slices.Clone(way), m))
				}
			}
		}
		try([]int{n})
		if least != nil {
			return least
		}
	}
	return nil
}

// alike holds all calls against their second ways.
func alike(t *testing.T, l edges) {
	t.Helper()
	all := named(l)
	nodes(t, l, all...)
	some := false
	for _, n := range append([]int{-1, 3, 77}, all...) {
		next(t, n, l, goesTo(l, n)...)
		want := isOn(l, n)
		some = some || want
		if got := graph.On(n, l...); got != want {
			t.Fatalf("P11.2: On(%d) of %v is %v", n, l, got)
		}
	}
	circle(t, l, follow(l)...)
	if got := len(graph.Circle(l...)) > 0; got != some {
		t.Fatalf("P11.3: Circle of %v is %v", l, graph.Circle(l...))
	}
}

// each goes through all sets of edges between the nodes of l.
func each(l []int, f func(l edges)) {
	for set := range 1 << (len(l) * len(l)) {
		var some edges
		for i := range len(l) * len(l) {
			if set>>i&1 == 1 {
				some = append(some, table.Edge{From: l[i/len(l)], To: l[i%len(l)]})
			}
		}
		f(some)
	}
}

func TestAllEdgesAmongThree(t *testing.T) {
	each([]int{-4, 0, 9}, func(l edges) {
		alike(t, l)
		circle(t, l, leastRound(l)...)
		// The order and the doubles of the edges are all one.
		turned := append(slices.Clone(l), l...)
		slices.Reverse(turned)
		alike(t, turned)
		circle(t, turned, graph.Circle(l...)...)
		for set := range 8 {
			gone, left := []int{}, edges(nil)
			for i, n := range []int{-4, 0, 9} {
				if set>>i&1 == 1 {
					gone = append(gone, n)
				}
			}
			for _, e := range turned {
				if !slices.Contains(gone, e.From) && !slices.Contains(gone, e.To) {
					left = append(left, e)
				}
			}
			without(t, gone, turned, left...)
		}
	})
}

func TestAllEdgesAmongFour(t *testing.T) {
	each([]int{1, 2, 3, 4}, func(l edges) {
		want := leastRound(l)
		if got := graph.Circle(l...); !slices.Equal(got, want) || !slices.Equal(got, follow(l)) {
			t.Fatalf("P11.2: Circle of %v is %v, not %v", l, got, want)
		}
		for n := 1; n <= 4; n++ {
			if got := graph.On(n, l...); got != isOn(l, n) {
				t.Fatalf("P11.2: On(%d) of %v is %v", n, l, got)
			}
		}
	})
}

// dice is a row of numbers that look like chance, the same each time.
type dice uint64

func (d *dice) roll(n int) int {
	*d = *d*6364136223846793005 + 1442695040888963407
	return int(uint64(*d) >> 33 % uint64(n))
}

func TestManyEdges(t *testing.T) {
	d := dice(11)
	for range 6000 {
		var l edges
		among := 2 + d.roll(11)
		for range d.roll(3 * among) {
			l = append(l, table.Edge{From: d.roll(among) - 2, To: d.roll(among) - 2})
		}
		alike(t, l)
		var gone []int
		for range d.roll(4) {
			gone = append(gone, d.roll(among+2)-2)
		}
		left := slices.DeleteFunc(slices.Clone(l), func(e table.Edge) bool {
			return slices.Contains(gone, e.From) || slices.Contains(gone, e.To)
		})
		without(t, gone, l, left...)
	}
}

// chain makes edges from each of n nodes to the next one, the lowest first.
func chain(n int) edges {
	var out edges
	for i := range n - 1 {
		out = append(out, table.Edge{From: i, To: i + 1})
	}
	return out
}

func TestLongChain(t *testing.T) {
	const n = 200000
	l := chain(n)
	if len(graph.Circle(l...)) > 0 || graph.On(0, l...) || graph.On(n-1, l...) {
		t.Error("P11.2: a chain is no circle")
	}
	l = append(l, table.Edge{From: n - 1, To: n - 2})
	circle(t, l[len(l)-2:], n-2, n-1)
	if got := graph.Circle(l...); !slices.Equal(got, []int{n - 2, n - 1}) || graph.On(n-3, l...) || !graph.On(n-1, l...) {
		t.Errorf("P11.2: the circle at the end of a chain is %v", got)
	}
	l = append(l, table.Edge{From: n - 1, To: 0})
	got := graph.Circle(l...)
	if len(got) != n || got[0] != 0 || got[n-1] != n-1 || !graph.On(n/2, l...) {
		t.Errorf("P11.2: the whole chain is a circle, not %d of it", len(got))
	}
	if got := graph.Nodes(l...); len(got) != n || got[n-1] != n-1 {
		t.Errorf("P11.1: Nodes are %d", len(got))
	}
	if got := graph.Without(got[1:], l...); len(got) > 0 {
		t.Errorf("P11.1: %d edges are left", len(got))
	}
}

// thicket makes edges from each of the nodes from low to high to each that is
// greater.
func thicket(low, high int) edges {
	var out edges
	for i := low; i <= high; i++ {
		for j := i + 1; j <= high; j++ {
			out = append(out, table.Edge{From: i, To: j})
		}
	}
	return out
}

func TestManyWaysThatLeadNowhere(t *testing.T) {
	// From 0 into a thicket, and to 61, which alone leads back.
	l := append(thicket(0, 60), link(0, 61, 61, 0)...)
	circle(t, l, 0, 61)
	on(t, l, 0, 61)
	// From 1 into a thicket, all of which leads back to 1.
	l = append(thicket(1, 60), link(0, 1, 1, 61, 61, 0)...)
	for i := 2; i <= 60; i++ {
		l = append(l, link(i, 1)...)
	}
	circle(t, l, 0, 1, 61)
	on(t, l, append(graph.Nodes(chain(61)...), 61)...)
	// All of the thicket leads to 61: the circle goes through all of it.
	l = append(thicket(0, 61), link(61, 62, 62, 0)...)
	circle(t, l, graph.Nodes(chain(63)...)...)
	on(t, l, graph.Nodes(chain(63)...)...)
}

func TestSixtyFourThatWaitForEachOther(t *testing.T) {
	var l edges
	for i := range 64 {
		for j := range 64 {
			if i != j {
				l = append(l, table.Edge{From: i, To: j})
			}
		}
	}
	circle(t, l, 0, 1)
	for i := range 63 {
		l = graph.Without([]int{i}, l...)
		if i < 62 {
			circle(t, l, i+1, i+2)
		} else {
			circle(t, l)
		}
	}
}
