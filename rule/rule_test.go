package rule_test

import (
	"math"
	"slices"
	"testing"

	"latchkey/graph"
	"latchkey/mode"
	"latchkey/rule"
	"latchkey/table"
)

type edges = []table.Edge

// Threads are any numbers, and so are tickets.
var farNumbers = []int{
	math.MinInt, math.MinInt + 1, -(1 << 32), math.MinInt32, -64, -1, 0, 1, 63, 64,
	math.MaxInt32, 1 << 32, 1<<32 + 1, math.MaxInt - 1, math.MaxInt,
}

// link makes edges: from, to, from, to, ..
func link(ends ...int) edges {
	var out edges
	for i := 0; i < len(ends); i += 2 {
		out = append(out, table.Edge{From: ends[i], To: ends[i+1]})
	}
	return out
}

// victims says who the victims are, in order, and that there are none just if
// there is no circle.
func victims(t *testing.T, tickets []int, l edges, want ...int) {
	t.Helper()
	if got := rule.Victims(tickets, l...); !slices.Equal(got, want) {
		t.Errorf("P12.1: Victims of %v, tickets %v, are %v, not %v", l, tickets, got, want)
	}
	acyclic(t, l, len(want) == 0)
}

func wounds(t *testing.T, tickets []int, l edges, want ...int) {
	t.Helper()
	if got := rule.Wounds(tickets, l...); !slices.Equal(got, want) {
		t.Errorf("P12.1: Wounds of %v, tickets %v, are %v, not %v", l, tickets, got, want)
	}
}

func deaths(t *testing.T, tickets []int, l edges, want ...int) {
	t.Helper()
	if got := rule.Deaths(tickets, l...); !slices.Equal(got, want) {
		t.Errorf("P12.1: Deaths of %v, tickets %v, are %v, not %v", l, tickets, got, want)
	}
}

func acyclic(t *testing.T, l edges, want bool) {
	t.Helper()
	if got := rule.Acyclic(l...); got != want {
		t.Errorf("P12.1: Acyclic of %v is %v", l, got)
	}
}

// ages says that young is younger than old: by each call, both ways round.
func ages(t *testing.T, tickets []int, old, young int) {
	t.Helper()
	forth, back := link(old, young), link(young, old)
	wounds(t, tickets, forth, young)
	wounds(t, tickets, back)
	deaths(t, tickets, forth)
	deaths(t, tickets, back, young)
	both := append(forth, back...)
	wounds(t, tickets, both, young)
	deaths(t, tickets, both, young)
	victims(t, tickets, both, young)
	victims(t, tickets, append(back, forth...), young)
	victims(t, tickets, forth)
	victims(t, tickets, back)
}

func TestNoEdges(t *testing.T) {
	for _, l := range []edges{nil, {}} {
		for _, tickets := range [][]int{nil, {}, {0}, {5, 6, 7}, farNumbers} {
			victims(t, tickets, l)
			wounds(t, tickets, l)
			deaths(t, tickets, l)
		}
		acyclic(t, l, true)
	}
	if !rule.Acyclic() || len(rule.Victims([]int{3, 4})) > 0 || len(rule.Wounds(nil)) > 0 || len(rule.Deaths(nil)) > 0 {
		t.Error("P12.1: somebody gives way to nobody")
	}
}

func TestTheExample(t *testing.T) {
	victims(t, []int{0, 5, 6}, link(1, 2, 2, 1), 2)
	victims(t, []int{0, 6, 5}, link(1, 2, 2, 1), 1)
}

func TestTheGreaterTicketIsYounger(t *testing.T) {
	ages(t, []int{0, 5, 6}, 1, 2)
	ages(t, []int{0, 6, 5}, 2, 1)
	ages(t, []int{9, 10}, 0, 1)
	ages(t, []int{10, 9}, 1, 0)
	ages(t, []int{1, 0}, 1, 0)
	ages(t, []int{0, -1}, 1, 0)
	ages(t, []int{-9, -10}, 1, 0)
	ages(t, []int{2, 9, 8, 7, 6, 5, 4, 3}, 7, 1)
}

func TestFarTickets(t *testing.T) {
	for i, old := range farNumbers {
		for _, young := range farNumbers[i+1:] {
			ages(t, []int{old, young}, 0, 1)
			ages(t, []int{young, old}, 1, 0)
		}
		ages(t, []int{old, old}, 0, 1)
	}
}

func TestOfTheSameTicketTheGreaterNumberIsYounger(t *testing.T) {
	for _, ticket := range []int{-7, 0, 7} {
		tickets := slices.Repeat([]int{ticket}, 12)
		ages(t, tickets, 0, 1)
		ages(t, tickets, 1, 2)
		// As numbers, not as texts.
		ages(t, tickets, 9, 10)
		victims(t, tickets, link(3, 1, 1, 2, 2, 3), 3)
		wounds(t, tickets, link(3, 1, 1, 2, 2, 3), 2, 3)
		deaths(t, tickets, link(3, 1, 1, 2, 2, 3), 3)
	}
	// The number counts only where the tickets are the same.
	ages(t, []int{4, 4, 3, 4}, 2, 0)
	ages(t, []int{4, 4, 3, 4}, 0, 3)
	ages(t, []int{4, 4, 5, 4}, 3, 2)
}

func TestNoTicketsAtAll(t *testing.T) {
	for _, tickets := range [][]int{nil, {}} {
		ages(t, tickets, 0, 1)
		ages(t, tickets, 1, 2)
		ages(t, tickets, -1, 0)
		ages(t, tickets, -2, -1)
		for i, old := range farNumbers {
			for _, young := range farNumbers[i+1:] {
				ages(t, tickets, old, young)
			}
		}
	}
}

func TestWhoeverHasNoTicketCountsAsZero(t *testing.T) {
	// Ahead of the first ticket, just behind the last one, and far out.
	for _, n := range []int{-1, -2, -3, 3, 4, math.MinInt, math.MaxInt, 1 << 32, 1<<32 + 1, -(1 << 32)} {
		ages(t, []int{9, 4, 1}, n, 1)
		ages(t, []int{9, 1, 4}, n, 1)
		ages(t, []int{-9, -1, -4}, 1, n)
		ages(t, []int{-9, math.MinInt, -4}, 1, n)
		// Of the same ticket, 0, the numbers tell.
		ages(t, []int{5, 0, -5}, min(n, 1), max(n, 1))
	}
	ages(t, []int{3}, 9, 0)
	ages(t, []int{-3}, 0, 9)
	ages(t, []int{7}, -1, 0)
	ages(t, []int{-7}, 0, -1)
	ages(t, []int{7, 7}, 2, 1)
	ages(t, []int{7, 7}, 2, 3)
	ages(t, []int{7, 7}, -3, -2)
	ages(t, []int{7, 7}, -3, 2)
}

func TestFarThreads(t *testing.T) {
	// All but 0 and 1 have no ticket.
	for _, n := range farNumbers {
		if n == 0 || n == 1 {
			continue
		}
		ages(t, []int{2, 8}, n, 0)
		ages(t, []int{-2, -8}, 1, n)
		victims(t, []int{2, 8}, link(n, n), n)
		wounds(t, []int{2, 8}, link(n, n))
		deaths(t, []int{2, 8}, link(n, n))
	}
	var ring edges
	for i, n := range farNumbers {
		ring = append(ring, table.Edge{From: n, To: farNumbers[(i+1)%len(farNumbers)]})
	}
	victims(t, nil, ring, math.MaxInt)
	victims(t, []int{1}, ring, 0)
	victims(t, []int{1, 1}, ring, 1)
	wounds(t, nil, ring, farNumbers[1:]...)
	deaths(t, nil, ring, math.MaxInt)
	// 0 is younger than 1 now, and leads to it.
	wounds(t, []int{1}, ring, slices.Concat(farNumbers[1:7], farNumbers[8:])...)
	deaths(t, []int{1}, ring, 0, math.MaxInt)
}

func TestAnEdgeToItself(t *testing.T) {
	for _, tickets := range [][]int{nil, {0, 0, 0, 0}, {5, 6, 7, 8}, {8, 7, 6, 5}, {-1, -1, -1, -1}} {
		for _, n := range []int{-1, 0, 3, 4} {
			victims(t, tickets, link(n, n), n)
			victims(t, tickets, link(n, n, n, n), n)
			wounds(t, tickets, link(n, n, n, n))
			deaths(t, tickets, link(n, n, n, n))
		}
	}
	// It is in the way of none, though it is the eldest.
	victims(t, []int{1, 5, 6}, link(0, 0, 1, 2, 2, 1), 0, 2)
	victims(t, []int{1, 5, 6}, link(1, 2, 2, 1, 0, 0), 0, 2)
	// The circle is the longer one, and then the one of one.
	victims(t, []int{1, 5, 6}, link(1, 2, 2, 1, 2, 2), 2)
	victims(t, []int{1, 6, 5}, link(1, 2, 2, 1, 2, 2), 1, 2)
	victims(t, []int{1, 6, 5}, link(1, 2, 2, 1, 1, 1), 1)
	victims(t, []int{1, 5, 6}, link(1, 2, 2, 1, 1, 1), 1)
	wounds(t, []int{1, 5, 6}, link(1, 1, 1, 2, 2, 2), 2)
	deaths(t, []int{1, 5, 6}, link(1, 1, 2, 1, 2, 2), 2)
}

func TestTheSameEdgeTwiceAndMore(t *testing.T) {
	victims(t, []int{0, 5, 6}, link(1, 2, 2, 1, 1, 2, 2, 1, 1, 2), 2)
	victims(t, []int{0, 6, 5}, link(1, 2, 1, 2, 1, 2, 2, 1), 1)
	victims(t, nil, link(1, 2, 1, 2, 1, 2))
	wounds(t, nil, link(1, 2, 1, 2, 1, 2), 2)
	deaths(t, nil, link(2, 1, 2, 1, 2, 1), 2)
}

func TestVictimOfOneCircle(t *testing.T) {
	victims(t, []int{3, 1, 2}, link(0, 1, 1, 2, 2, 0), 0)
	victims(t, []int{1, 3, 2}, link(0, 1, 1, 2, 2, 0), 1)
	victims(t, []int{1, 2, 3}, link(0, 1, 1, 2, 2, 0), 2)
	victims(t, []int{1, 3, 3}, link(0, 1, 1, 2, 2, 0), 2)
	victims(t, []int{3, 3, 1}, link(0, 1, 1, 2, 2, 0), 1)
	victims(t, []int{3, 1, 3}, link(0, 1, 1, 2, 2, 0), 2)
	victims(t, []int{-3, -1, -2}, link(2, 1, 1, 0, 0, 2), 1)
}

func TestVictimsOfCirclesThatShareNothing(t *testing.T) {
	l := link(0, 1, 1, 0, 2, 3, 3, 4, 4, 2)
	victims(t, []int{1, 2, 3, 4, 5}, l, 1, 4)
	victims(t, []int{5, 4, 3, 2, 1}, l, 0, 2)
	victims(t, []int{5, 4, 1, 2, 1}, l, 0, 3)
	// By the circles, not by the tickets and not rising.
	victims(t, []int{1, 2, 9, 9, 9}, l, 1, 4)
	l = link(0, 9, 9, 0, 1, 8, 8, 1, 2, 7, 7, 2)
	victims(t, nil, l, 9, 8, 7)
	victims(t, []int{1, 0, 1}, l, 0, 8, 2)
	victims(t, []int{0, 3, 9}, l, 9, 1, 2)
	slices.Reverse(l)
	victims(t, nil, l, 9, 8, 7)
}

func TestVictimsOfCirclesThatShareThreads(t *testing.T) {
	l := link(0, 1, 1, 0, 1, 2, 2, 1)
	victims(t, []int{1, 9, 2}, l, 1)
	victims(t, []int{1, 2, 3}, l, 1)
	victims(t, []int{3, 1, 2}, l, 0, 2)
	victims(t, []int{3, 2, 1}, l, 0, 1)
	// 0 is the lowest of both, and 1 the lower one behind it.
	l = link(0, 2, 2, 0, 0, 1, 1, 0)
	victims(t, []int{1, 2, 3}, l, 1, 2)
	victims(t, []int{1, 3, 2}, l, 1, 2)
	victims(t, []int{2, 1, 3}, l, 0)
	victims(t, []int{2, 3, 1}, l, 1, 0)
	// Each to each: in each circle the youngest.
	l = link(0, 1, 0, 2, 1, 0, 1, 2, 2, 0, 2, 1)
	victims(t, []int{1, 2, 3}, l, 1, 2)
	victims(t, []int{3, 2, 1}, l, 0, 1)
	victims(t, []int{2, 3, 1}, l, 1, 0)
	victims(t, []int{1, 3, 2}, l, 1, 2)
	victims(t, nil, l, 1, 2)
}

func TestACircleBehindAnEarlierVictim(t *testing.T) {
	// While 1 is there the circle is 0, 1, 3; then 0, 2, 3.
	l := link(0, 1, 1, 3, 3, 0, 0, 2, 2, 3)
	victims(t, []int{1, 9, 8, 2}, l, 1, 2)
	victims(t, []int{1, 8, 9, 2}, l, 1, 2)
	victims(t, []int{1, 2, 9, 8}, l, 3)
	victims(t, []int{9, 2, 3, 8}, l, 0)
	// While 0 is there the circles of 1 and of 2 wait.
	l = link(0, 5, 5, 0, 5, 1, 1, 5, 2, 1, 1, 2)
	victims(t, []int{9, 1, 3, 0, 0, 2}, l, 0, 2, 5)
	victims(t, []int{1, 3, 9, 0, 0, 2}, l, 5, 2)
	victims(t, []int{9, 7, 3, 0, 0, 2}, l, 0, 1)
}

func TestWhoeverIsOnNoCircleIsNoVictim(t *testing.T) {
	// 0 leads into the circle, 3 is behind it: both are the youngest of all.
	l := link(0, 1, 1, 2, 2, 1, 2, 3)
	for _, tickets := range [][]int{{9, 1, 2, 9}, {9, 2, 2, 9}, {math.MaxInt, -2, -1, math.MaxInt}} {
		victims(t, tickets, l, 2)
		victims(t, tickets, append(link(0, 2, 0, 3, 1, 3), l...), 2)
	}
	// Between two circles.
	victims(t, []int{1, 2, 9, 4, 3}, link(0, 1, 1, 0, 1, 2, 2, 3, 3, 4, 4, 3), 1, 3)
	// On a circle, but not on one that is left.
	victims(t, []int{1, 7, 9}, link(0, 1, 1, 0, 1, 2, 2, 1), 1)
	// On one, and younger than all, but the Circle is another one.
	victims(t, []int{1, 2, 9, 3}, link(0, 1, 1, 0, 1, 2, 2, 3, 3, 1), 1)
}

func TestWoundsAndDeathsRiseEachOnce(t *testing.T) {
	tickets := []int{9, 8, 7, 6}
	l := link(3, 0, 2, 0, 3, 1, 0, 3, 1, 3, 1, 3, 3, 0)
	wounds(t, tickets, l, 0, 1)
	deaths(t, tickets, l, 0, 1)
	turned := slices.Clone(l)
	slices.Reverse(turned)
	wounds(t, tickets, turned, 0, 1)
	deaths(t, tickets, turned, 0, 1)
	// The one who is wounded is To, the one who dies is From.
	wounds(t, nil, link(5, 30, 5, 9, 2, 9, 1, 30, 30, -4, -9, -4), -4, 9, 30)
	deaths(t, nil, link(5, 30, 5, 9, 2, 9, 1, 30, 30, -4, -9, -4), 30)
	wounds(t, nil, link(30, 5, 9, 5, 9, 2, 30, 1, -4, 30, -4, -9), 30)
	deaths(t, nil, link(30, 5, 9, 5, 9, 2, 30, 1, -4, 30, -4, -9), -4, 9, 30)
	// Rising by number, not by ticket.
	wounds(t, []int{1, 9, 8, 7}, link(0, 1, 0, 2, 0, 3), 1, 2, 3)
	deaths(t, []int{1, 9, 8, 7}, link(3, 0, 2, 0, 1, 0), 1, 2, 3)
	// One may be on either side.
	wounds(t, []int{1, 2, 3}, link(0, 1, 1, 2, 0, 2), 1, 2)
	deaths(t, []int{1, 2, 3}, link(0, 1, 1, 2, 0, 2))
	wounds(t, []int{1, 2, 3}, link(1, 0, 2, 1, 2, 0))
	deaths(t, []int{1, 2, 3}, link(1, 0, 2, 1, 2, 0), 1, 2)
}

// chain makes edges from each of n threads to the next one, the lowest first.
func chain(n int) edges {
	var out edges
	for i := range n - 1 {
		out = append(out, table.Edge{From: i, To: i + 1})
	}
	return out
}

func TestAcyclic(t *testing.T) {
	acyclic(t, link(1, 2), true)
	acyclic(t, link(1, 2, 1, 2), true)
	acyclic(t, link(1, 2, 2, 3, 1, 3), true)
	acyclic(t, link(1, 1), false)
	acyclic(t, link(-1, -1), false)
	acyclic(t, link(1, 2, 2, 1), false)
	acyclic(t, link(1, 2, 2, 3, 3, 2), false)
	acyclic(t, link(0, 1, 2, 3, 3, 4, 4, 2), false)
	const n = 20000
	long := chain(n)
	acyclic(t, long, true)
	victims(t, nil, long)
	round := append(long, table.Edge{From: n - 1, To: 0})
	victims(t, nil, round, n-1)
	victims(t, []int{0, 0, 0, 1, 0}, round, 3)
	wounds(t, nil, round, graph.Nodes(long...)[1:]...)
	deaths(t, nil, round, n-1)
}

func TestSixtyFourThatWaitForEachOther(t *testing.T) {
	var l edges
	var falling, rising, tickets []int
	for i := range 64 {
		for j := range 64 {
			if i != j {
				l = append(l, table.Edge{From: i, To: j})
			}
		}
		tickets = append(tickets, 1000-i)
		rising = append(rising, i)
	}
	falling = slices.Clone(rising)
	slices.Reverse(falling)
	// The circle is always of the two lowest that are left.
	victims(t, nil, l, rising[1:]...)
	victims(t, tickets, l, rising[:63]...)
	wounds(t, nil, l, rising[1:]...)
	deaths(t, nil, l, rising[1:]...)
	wounds(t, tickets, l, rising[:63]...)
	deaths(t, tickets, l, rising[:63]...)
	slices.Reverse(l)
	victims(t, falling, l, rising[:63]...)
}

func TestManyCircles(t *testing.T) {
	const n = 300
	var l edges
	var want []int
	for i := range n {
		l = append(l, link(i, 2*n-i, 2*n-i, i)...)
		want = append(want, 2*n-i)
	}
	victims(t, nil, l, want...)
}

func TestEdgesOfATable(t *testing.T) {
	x, _ := table.New(4, 20)
	for _, ask := range [][3]int{
		{1, 0, mode.X}, {2, 1, mode.X}, {3, 2, mode.X}, {1, 1, mode.S}, {2, 2, mode.X},
	} {
		x.Ask(ask[0], ask[1], ask[2])
	}
	tickets := []int{0, 7, 9, 8}
	victims(t, tickets, x.Edges())
	wounds(t, tickets, x.Edges(), 2)
	deaths(t, tickets, x.Edges(), 2)
	x.Ask(3, 0, mode.S)
	victims(t, tickets, x.Edges(), 2)
	wounds(t, tickets, x.Edges(), 2)
	deaths(t, tickets, x.Edges(), 2, 3)
	x.Drop(2)
	victims(t, tickets, x.Edges())
}

// spoil writes into all of a list, its spare room too.
func spoil[T any](l []T, v T) {
	l = l[:cap(l)]
	for i := range l {
		l[i] = v
	}
}

// answers are all that the package answers of the same arguments.
type answers struct {
	victims, wounds, deaths []int
	acyclic                 bool
}

func answer(tickets []int, l edges) answers {
	return answers{
		victims: rule.Victims(tickets, l...), wounds: rule.Wounds(tickets, l...),
		deaths: rule.Deaths(tickets, l...), acyclic: rule.Acyclic(l...),
	}
}

func (a answers) equal(b answers) bool {
	return slices.Equal(a.victims, b.victims) && slices.Equal(a.wounds, b.wounds) &&
		slices.Equal(a.deaths, b.deaths) && a.acyclic == b.acyclic
}

func (a answers) spoil() {
	spoil(a.victims, 77)
	spoil(a.wounds, 77)
	spoil(a.deaths, 77)
}

func TestAnswersAreNewMemory(t *testing.T) {
	for _, l := range []edges{
		nil, link(3, 3), link(1, 2, 2, 1), link(1, 2, 1, 2, 3, 4), link(5, 1, 5, 2, 2, 5, 5, 9, 5, 5, 9, 5, 7, 9, 1, 5),
	} {
		for _, tickets := range [][]int{nil, {1}, {0, 5, 6}, {9, 8, 7, 6, 5, 4, 3, 2, 1, 0}} {
			given, also := slices.Clone(l), slices.Clone(tickets)
			first, second := answer(also, given), answer(also, given)
			first.spoil()
			if !slices.Equal(given, l) || !slices.Equal(also, tickets) {
				t.Fatalf("P0.4: what was handed in shows a change of an answer: %v, %v", given, also)
			}
			if third := answer(also, given); !second.equal(third) {
				t.Fatalf("P0.4: a change of an answer turned %v into %v", second, third)
			}
			spoil(given, table.Edge{From: 88, To: 88})
			spoil(also, 88)
			if third := answer(tickets, l); !second.equal(third) {
				t.Fatalf("P0.4: an answer shows a change of what was handed in")
			}
		}
	}
}

func TestArgumentsStayAsTheyAre(t *testing.T) {
	// Behind the length stands what would make circles, and turn the ages.
	all := link(3, 5, 5, 3, 4, 3, 9, 1, 9, 1, 4, 2, 2, 4, 1, 9, 5, 5)
	tickets := []int{9, -3, 7, 7, 1, -1, 9, 0, 0, 4}
	was, wasTickets := slices.Clone(all), slices.Clone(tickets)
	for long := range len(all) + 1 {
		for many := range len(tickets) + 1 {
			l, some := all[:long], tickets[:many]
			whole := answer(slices.Clone(some), slices.Clone(l))
			if got := answer(some, l); !got.equal(whole) {
				t.Fatalf("P0.4: what lies behind %v, %v was read: %v", l, some, got)
			}
			if !slices.Equal(all, was) || !slices.Equal(tickets, wasTickets) {
				t.Fatalf("P0.4: %v, %v was changed to %v, %v", was, wasTickets, all, tickets)
			}
		}
	}
}

// book does the same in a second way: ages are places in a row of all threads,
// the eldest first.
type book struct {
	l    edges
	ages []int
}

// write makes the book: one thread after the other goes ahead of those that are
// younger.
func write(tickets []int, l edges) book {
	b := book{l: l}
	of := func(n int) int {
		for i, ticket := range tickets {
			if i == n {
				return ticket
			}
		}
		return 0
	}
	for _, n := range b.threads() {
		i := 0
		// Threads come rising: of the same ticket the one that came is elder.
		for i < len(b.ages) && of(b.ages[i]) <= of(n) {
			i++
		}
		b.ages = slices.Insert(b.ages, i, n)
	}
	return b
}

// threads are all that an edge names, rising.
func (b book) threads() []int {
	var out []int
	for _, e := range b.l {
		for _, n := range []int{e.From, e.To} {
			if i, there := slices.BinarySearch(out, n); !there {
				out = slices.Insert(out, i, n)
			}
		}
	}
	return out
}

func (b book) age(n int) int { return slices.Index(b.ages, n) }

// round is the circle that is least as a list, of all from the lowest thread
// that has one, through each at most once; nothing, if there is none.
func (b book) round() []int {
	var least []int
	for _, n := range b.threads() {
		var try func(way []int)
		try = func(way []int) {
			for _, e := range b.l {
				switch {
				case e.From != way[len(way)-1]:
				case e.To == n && (least == nil || slices.Compare(way, least) < 0):
					least = slices.Clone(way)
				case !slices.Contains(way, e.To):
					try(append(slices.Clone(way), e.To))
				}
			}
		}
		try([]int{n})
		if least != nil {
			return least
		}
	}
	return nil
}

// without is the book of the edges that name none of gone.
func (b book) without(gone []int) book {
	var left edges
	for _, e := range b.l {
		if !slices.Contains(gone, e.From) && !slices.Contains(gone, e.To) {
			left = append(left, e)
		}
	}
	return book{left, b.ages}
}

func (b book) victims() []int {
	var out []int
	for {
		circle := b.without(out).round()
		if circle == nil {
			return out
		}
		victim := circle[0]
		for _, n := range circle {
			if b.age(n) > b.age(victim) {
				victim = n
			}
		}
		out = append(out, victim)
	}
}

// those are all threads, rising, of which an edge says so.
func (b book) those(says func(n int, e table.Edge) bool) []int {
	var out []int
	for _, n := range b.threads() {
		if slices.ContainsFunc(b.l, func(e table.Edge) bool { return says(n, e) }) {
			out = append(out, n)
		}
	}
	return out
}

func (b book) wounds() []int {
	return b.those(func(n int, e table.Edge) bool {
		return n == e.To && e.From != n && b.age(e.From) <= b.age(n)
	})
}

func (b book) deaths() []int {
	return b.those(func(n int, e table.Edge) bool {
		return n == e.From && b.age(n) > b.age(e.To)
	})
}

// betweenTwo says whether each edge goes to another one.
func (b book) betweenTwo() bool {
	return !slices.ContainsFunc(b.l, func(e table.Edge) bool { return e.From == e.To })
}

// alike holds all calls against the book, and against what follows.
func alike(t *testing.T, tickets []int, l edges) {
	t.Helper()
	b, a := write(tickets, l), answer(tickets, l)
	want := answers{b.victims(), b.wounds(), b.deaths(), b.round() == nil}
	if !a.equal(want) {
		t.Fatalf("P12.1: of %v, tickets %v, the answers are %v, not %v", l, tickets, a, want)
	}
	follows(t, b, a)
}

// follows holds what is answered against what follows (P12.2).
func follows(t *testing.T, b book, a answers) {
	t.Helper()
	if left := b.without(a.victims).round(); left != nil {
		t.Fatalf("P12.2: of %v, behind the Victims %v there is the circle %v", b.l, a.victims, left)
	}
	for i, n := range a.victims {
		if !graph.On(n, b.l...) || slices.Contains(a.victims[:i], n) {
			t.Fatalf("P12.2: of %v, %d of the Victims %v was on none, or is there twice", b.l, n, a.victims)
		}
	}
	if (len(a.victims) == 0) != a.acyclic {
		t.Fatalf("P12.2: of %v, the Victims are %v, Acyclic %v", b.l, a.victims, a.acyclic)
	}
	all := slices.Concat(a.victims, a.wounds, a.deaths)
	if b.betweenTwo() && len(b.ages) > 0 && slices.Contains(all, b.ages[0]) {
		t.Fatalf("P12.2: of %v, the eldest, %d, is among %v", b.l, b.ages[0], a)
	}
	for _, e := range b.without(a.wounds).l {
		if b.age(e.From) < b.age(e.To) {
			t.Fatalf("P12.2: of %v, without the Wounds %v, %v goes to a younger one", b.l, a.wounds, e)
		}
	}
	for _, e := range b.without(a.deaths).l {
		if b.age(e.From) > b.age(e.To) {
			t.Fatalf("P12.2: of %v, without the Deaths %v, %v goes to an elder one", b.l, a.deaths, e)
		}
	}
}

// each goes through all sets of edges between the threads of l.
func each(l []int, f func(l edges)) {
	for set := range 1 << (len(l) * len(l)) {
		var some edges
		for i := range len(l) * len(l) {
			if set>>i&1 == 1 {
				some = append(some, table.Edge{From: l[i/len(l)], To: l[i%len(l)]})
			}
		}
		f(some)
	}
}

func TestAllEdgesAmongThree(t *testing.T) {
	// Tickets of 0 and of 1; -1, and where they are fewer 1, have none.
	var all [][]int
	for _, a := range []int{-1, 0, 1} {
		all = append(all, []int{a})
		for _, b := range []int{-1, 0, 1} {
			all = append(all, []int{a, b})
		}
	}
	each([]int{-1, 0, 1}, func(l edges) {
		turned := append(slices.Clone(l), l...)
		slices.Reverse(turned)
		for _, tickets := range append(all, nil) {
			alike(t, tickets, l)
			// The order and the doubles of the edges are all one.
			if got := answer(tickets, turned); !got.equal(answer(tickets, l)) {
				t.Fatalf("P12.1: %v, tickets %v: %v", turned, tickets, got)
			}
		}
	})
}

// orders answers all orders of 1 to n.
func orders(n int) [][]int {
	if n == 0 {
		return [][]int{nil}
	}
	var out [][]int
	for _, l := range orders(n - 1) {
		for i := range n {
			out = append(out, slices.Insert(slices.Clone(l), i, n))
		}
	}
	return out
}

func TestAllEdgesBetweenTwoOfFour(t *testing.T) {
	each([]int{0, 1, 2, 3}, func(l edges) {
		if !(book{l: l}).betweenTwo() {
			return
		}
		for i, tickets := range orders(4) {
			// Of each set of edges some of the orders, of all sets all of them.
			if i%5 == len(l)%5 {
				alike(t, tickets, l)
			}
		}
	})
}

// dice is a row of numbers that look like chance, the same each time.
type dice uint64

func (d *dice) roll(n int) int {
	*d = *d*6364136223846793005 + 1442695040888963407
	return int(uint64(*d) >> 33 % uint64(n))
}

func TestManyEdges(t *testing.T) {
	d := dice(12)
	for range 20000 {
		var l edges
		among := 2 + d.roll(6)
		for range d.roll(2 * among) {
			e := table.Edge{From: d.roll(among) - 1, To: d.roll(among) - 1}
			if e.From != e.To || d.roll(4) == 0 {
				l = append(l, e)
			}
		}
		var tickets []int
		for range d.roll(among + 1) {
			tickets = append(tickets, d.roll(6)-2)
		}
		alike(t, tickets, l)
	}
}
