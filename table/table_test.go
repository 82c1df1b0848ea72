package table_test

import (
	"cmp"
	"math"
	"slices"
	"testing"

	"latchkey/api"
	"latchkey/lane"
	"latchkey/mode"
	"latchkey/table"
)

type (
	locks = []table.Lock
	edges = []table.Edge
)

const maxNodes = 10000

// What may not be asked for: None, and what is no mode.
var wrongModes = []int{
	mode.None, -1, 6, -2, 7, 64, 255, 256, 1 << 32, 1<<32 + 3, -(1 << 32),
	math.MinInt32, math.MaxInt32, math.MinInt, math.MaxInt,
}

// Below each who.
var wrongWho = []int{-1, -2, -64, math.MinInt32, -(1 << 32), math.MinInt}

// All that a table tells stands on the table itself, some of it promoted.
var _ interface {
	Ask(who, node, m int) (int, api.Errno)
	Drop(who int) []int
	Holds(who, node int) int
	Held(who int) []table.Lock
	Waits(who int) (table.Lock, bool)
	Edges() []table.Edge
	Lane(node int) *lane.Lane
	Len() int
} = (*table.Table)(nil)

// noNodes are just past the ends of so many nodes, and far off.
func noNodes(nodes int) []int {
	return []int{
		-1, nodes, nodes + 1, -nodes, 1 << 32, -(1 << 32),
		math.MinInt32, math.MaxInt32, math.MinInt, math.MaxInt,
	}
}

func made(t *testing.T, nodes, most int) *table.Table {
	t.Helper()
	x, e := table.New(nodes, most)
	if x == nil || e != api.OK {
		t.Fatalf("P9.1: New(%d, %d) is an error, %d", nodes, most, e)
	}
	return x
}

func ask(t *testing.T, x *table.Table, who, node, m, want int) {
	t.Helper()
	if got, e := x.Ask(who, node, m); got != want || e != api.OK {
		t.Errorf("P9.1: Ask(%d, %d, %d) is %d, %d, not %d, OK", who, node, m, got, e, want)
	}
}

func refuse(t *testing.T, x *table.Table, who, node, m int, want api.Errno) {
	t.Helper()
	if got, e := x.Ask(who, node, m); got != 0 || e != want {
		t.Errorf("P9.1: Ask(%d, %d, %d) is %d, %d, not 0, %d", who, node, m, got, e, want)
	}
}

func drop(t *testing.T, x *table.Table, who int, want ...int) {
	t.Helper()
	if got := x.Drop(who); !slices.Equal(got, want) {
		t.Errorf("P9.2: Drop(%d) is %v, not %v", who, got, want)
	}
}

func long(t *testing.T, x *table.Table, want int) {
	t.Helper()
	if got := x.Len(); got != want {
		t.Errorf("P9.1: Len is %d, not %d", got, want)
	}
}

func holds(t *testing.T, x *table.Table, who, node, want int) {
	t.Helper()
	if got := x.Holds(who, node); got != want {
		t.Errorf("P9.2: Holds(%d, %d) is %d, not %d", who, node, got, want)
	}
}

func held(t *testing.T, x *table.Table, who int, want ...table.Lock) {
	t.Helper()
	if got := x.Held(who); !slices.Equal(got, want) {
		t.Errorf("P9.2: Held(%d) is %v, not %v", who, got, want)
	}
}

func waits(t *testing.T, x *table.Table, who, node, m int) {
	t.Helper()
	if got, ok := x.Waits(who); !ok || got != (table.Lock{Node: node, Mode: m}) {
		t.Errorf("P9.2: Waits(%d) is %v, %v, not {%d %d}", who, got, ok, node, m)
	}
}

func waitsNot(t *testing.T, x *table.Table, who int) {
	t.Helper()
	if got, ok := x.Waits(who); ok || got != (table.Lock{}) {
		t.Errorf("P9.2: Waits(%d) is %v, %v, though it does not wait", who, got, ok)
	}
}

func stands(t *testing.T, x *table.Table, want ...table.Edge) {
	t.Helper()
	if got := x.Edges(); !slices.Equal(got, want) {
		t.Errorf("P9.2: Edges is %v, not %v", got, want)
	}
}

func TestNewBounds(t *testing.T) {
	for _, nodes := range []int{1, 2, 9999, maxNodes} {
		for _, most := range []int{1, 2, api.MaxLocks - 1, api.MaxLocks} {
			x := made(t, nodes, most)
			long(t, x, 0)
			if x.Lane(0) == nil || x.Lane(nodes-1) == nil || x.Lane(nodes) != nil {
				t.Errorf("P9.1: New(%d, %d) has not that many nodes", nodes, most)
			}
		}
	}
	far := []int{0, -1, 1 << 32, 1<<32 + 1, math.MinInt32, math.MaxInt32, math.MinInt, math.MaxInt}
	for _, nodes := range append(far, maxNodes+1) {
		newFails(t, nodes, 1)
		newFails(t, nodes, api.MaxLocks)
		newFails(t, nodes, 0)
	}
	for _, most := range append(far, api.MaxLocks+1) {
		newFails(t, 1, most)
		newFails(t, maxNodes, most)
		newFails(t, maxNodes+1, most)
	}
}

func newFails(t *testing.T, nodes, most int) {
	t.Helper()
	if x, e := table.New(nodes, most); x != nil || e != api.ErrRange {
		t.Errorf("P9.1: New(%d, %d) is %v, %d, not nil, ErrRange", nodes, most, x != nil, e)
	}
}

func TestNewHasNobody(t *testing.T) {
	x := made(t, 3, 2)
	long(t, x, 0)
	stands(t, x)
	for _, who := range []int{math.MinInt, -1, 0, 1, 63, 64, 1 << 32, math.MaxInt} {
		held(t, x, who)
		waitsNot(t, x, who)
		drop(t, x, who)
		for node := -1; node <= 3; node++ {
			holds(t, x, who, node, mode.None)
		}
	}
	for node := range 3 {
		if !x.Lane(node).Empty() {
			t.Errorf("P9.1: the lane %d of a new table is not empty", node)
		}
	}
}

func TestTablesAndNodesAreApart(t *testing.T) {
	x, y := made(t, 3, 1), made(t, 3, 1)
	ask(t, x, 1, 1, mode.X, lane.Granted)
	ask(t, y, 2, 1, mode.X, lane.Granted)
	held(t, x, 1, table.Lock{Node: 1, Mode: mode.X})
	held(t, y, 2, table.Lock{Node: 1, Mode: mode.X})
	held(t, x, 2)
	held(t, y, 1)
	for _, node := range []int{0, 2} {
		holds(t, x, 1, node, mode.None)
		if !x.Lane(node).Empty() {
			t.Errorf("P9.1: somebody is at the node %d", node)
		}
	}
}

// The answer is the lane's for what one holds, asks for and another one holds.
func TestAskIsTheLanesAnswer(t *testing.T) {
	for other := mode.IS; other <= mode.X; other++ {
		for first := mode.IS; first <= mode.X; first++ {
			for m := mode.IS; m <= mode.X; m++ {
				x, l := made(t, 2, 9), lane.New()
				ask(t, x, 7, 1, other, l.Ask(7, other))
				ask(t, x, 5, 1, first, l.Ask(5, first))
				if l.Waits(5) != mode.None {
					refuse(t, x, 5, 1, m, api.ErrState)
					waits(t, x, 5, 1, first)
				} else {
					ask(t, x, 5, 1, m, l.Ask(5, m))
				}
				long(t, x, 2)
				if !slices.Equal(x.Lane(1).Holders(), l.Holders()) || !slices.Equal(x.Lane(1).Queue(), l.Queue()) {
					t.Errorf("P9.1: %d beside %d, then %d: not as in a lane alone", first, other, m)
				}
			}
		}
	}
}

func TestAskOfNoNode(t *testing.T) {
	for _, nodes := range []int{1, 3, maxNodes} {
		x := made(t, nodes, 1)
		for _, node := range noNodes(nodes) {
			refuse(t, x, 0, node, mode.S, api.ErrNone)
		}
		ask(t, x, 0, nodes-1, mode.S, lane.Granted)
		for _, node := range noNodes(nodes) {
			refuse(t, x, 0, node, mode.S, api.ErrNone)
			refuse(t, x, 1, node, mode.S, api.ErrNone) // ahead of ErrFull
		}
		long(t, x, 1)
	}
}

func TestAskOfOneThatWaitsAnywhere(t *testing.T) {
	x := made(t, 3, 9)
	ask(t, x, 1, 1, mode.S, lane.Granted)
	ask(t, x, 1, 0, mode.IS, lane.Granted)
	ask(t, x, 2, 1, mode.S, lane.Granted)
	ask(t, x, 1, 1, mode.X, lane.Waiting) // a conversion
	ask(t, x, 3, 1, mode.S, lane.Waiting) // a new one
	for _, who := range []int{1, 3} {
		for node := range 3 {
			for m := mode.IS; m <= mode.X; m++ {
				refuse(t, x, who, node, m, api.ErrState)
			}
		}
	}
	long(t, x, 4)
	waits(t, x, 1, 1, mode.X)
	waits(t, x, 3, 1, mode.S)
	held(t, x, 1, table.Lock{Node: 0, Mode: mode.IS}, table.Lock{Node: 1, Mode: mode.S})
	held(t, x, 3)
	drop(t, x, 2, 1)
	ask(t, x, 1, 2, mode.S, lane.Granted) // granted, it may ask once more
	ask(t, x, 1, 1, mode.S, lane.Granted)
	refuse(t, x, 3, 2, mode.S, api.ErrState)
	drop(t, x, 3)
	ask(t, x, 3, 2, mode.S, lane.Granted) // gone, too
}

func TestAskOfWhoBelow0(t *testing.T) {
	x := made(t, 2, 2)
	for _, who := range wrongWho {
		for node := range 2 {
			for m := mode.IS; m <= mode.X; m++ {
				refuse(t, x, who, node, m, api.ErrRange)
			}
		}
		held(t, x, who)
		holds(t, x, who, 0, mode.None)
		waitsNot(t, x, who)
		drop(t, x, who)
	}
	long(t, x, 0)
	ask(t, x, 0, 0, mode.X, lane.Granted)
	ask(t, x, math.MaxInt, 0, mode.X, lane.Waiting)
	stands(t, x, table.Edge{From: math.MaxInt, To: 0})
}

func TestAskOfWrongModes(t *testing.T) {
	for _, m := range wrongModes {
		x := made(t, 2, 2)
		refuse(t, x, 0, 0, m, api.ErrRange)
		long(t, x, 0)
		ask(t, x, 0, 0, mode.X, lane.Granted)
		refuse(t, x, 0, 0, m, api.ErrRange)
		refuse(t, x, 1, 0, m, api.ErrRange)
		long(t, x, 1)
		held(t, x, 0, table.Lock{Node: 0, Mode: mode.X})
		stands(t, x)
	}
}

// Of several errors: no node, then one that waits, then what is out of range,
// then no room.
func TestWhichErrorComesFirst(t *testing.T) {
	x := made(t, 3, 3)
	ask(t, x, 1, 1, mode.X, lane.Granted)
	ask(t, x, 2, 1, mode.S, lane.Waiting)
	ask(t, x, 3, 1, mode.S, lane.Waiting)
	for _, m := range append(wrongModes, mode.S) {
		for _, node := range noNodes(3) {
			refuse(t, x, 2, node, m, api.ErrNone)
			refuse(t, x, 4, node, m, api.ErrNone)
			refuse(t, x, -1, node, m, api.ErrNone)
		}
		for node := range 3 {
			refuse(t, x, 2, node, m, api.ErrState)
			refuse(t, x, -1, node, m, api.ErrRange)
		}
	}
	for _, m := range wrongModes {
		refuse(t, x, 1, 0, m, api.ErrRange)
		refuse(t, x, 4, 0, m, api.ErrRange)
	}
	refuse(t, x, 1, 0, mode.S, api.ErrFull)
	refuse(t, x, 4, 0, mode.S, api.ErrFull)
	long(t, x, 3)
	stands(t, x, table.Edge{From: 2, To: 1}, table.Edge{From: 3, To: 1}, table.Edge{From: 3, To: 2})
}

func TestAskWhenFull(t *testing.T) {
	x := made(t, 3, 1)
	ask(t, x, 1, 0, mode.IS, lane.Granted)
	refuse(t, x, 1, 1, mode.S, api.ErrFull) // one that has a lock elsewhere
	refuse(t, x, 2, 0, mode.X, api.ErrFull) // one that would wait
	refuse(t, x, 2, 0, mode.IS, api.ErrFull)
	refuse(t, x, 2, 2, mode.S, api.ErrFull)
	waitsNot(t, x, 2)
	for m := mode.IS; m <= mode.X; m++ { // a lock that it has is no new one
		ask(t, x, 1, 0, m, lane.Granted)
		ask(t, x, 1, 0, mode.IS, lane.Granted)
		long(t, x, 1)
	}
	held(t, x, 1, table.Lock{Node: 0, Mode: mode.X})
	drop(t, x, 1)
	long(t, x, 0)
	ask(t, x, 2, 2, mode.S, lane.Granted) // there is room again
	refuse(t, x, 2, 0, mode.S, api.ErrFull)
}

func TestConversionWhenFullMayWait(t *testing.T) {
	x := made(t, 2, 2)
	ask(t, x, 1, 1, mode.S, lane.Granted)
	ask(t, x, 2, 1, mode.S, lane.Granted)
	refuse(t, x, 3, 1, mode.S, api.ErrFull)
	ask(t, x, 1, 1, mode.X, lane.Waiting)
	long(t, x, 2)
	refuse(t, x, 3, 0, mode.S, api.ErrFull) // a conversion that waits is one lock
	drop(t, x, 2, 1)
	long(t, x, 1)
	ask(t, x, 3, 0, mode.S, lane.Granted)
}

func TestThoseThatWaitTakeRoom(t *testing.T) {
	x := made(t, 2, 3)
	ask(t, x, 1, 0, mode.X, lane.Granted)
	ask(t, x, 2, 0, mode.S, lane.Waiting)
	ask(t, x, 3, 0, mode.S, lane.Waiting)
	refuse(t, x, 4, 1, mode.S, api.ErrFull)
	drop(t, x, 3)
	long(t, x, 2)
	ask(t, x, 4, 1, mode.S, lane.Granted)
	refuse(t, x, 4, 0, mode.S, api.ErrFull)
}

func TestMostLocks(t *testing.T) {
	x := made(t, maxNodes, api.MaxLocks)
	for i := range api.MaxLocks {
		ask(t, x, i%64, maxNodes-1-i, mode.X, lane.Granted)
	}
	long(t, x, api.MaxLocks)
	refuse(t, x, 0, 0, mode.IS, api.ErrFull)
	refuse(t, x, 99, 0, mode.IS, api.ErrFull)
	ask(t, x, 0, maxNodes-1, mode.S, lane.Granted)
	if got := len(x.Held(5)); got != api.MaxLocks/64 {
		t.Errorf("P9.2: Held has %d locks, not %d", got, api.MaxLocks/64)
	}
	drop(t, x, 5)
	long(t, x, api.MaxLocks-api.MaxLocks/64)
	ask(t, x, 99, 0, mode.IS, lane.Granted)
}

func TestMostLocksAtOneNode(t *testing.T) {
	x := made(t, 1, api.MaxLocks)
	ask(t, x, 0, 0, mode.X, lane.Granted)
	var all []int
	for who := 1; who < api.MaxLocks; who++ {
		ask(t, x, who, 0, mode.IS, lane.Waiting)
		all = append(all, who)
	}
	long(t, x, api.MaxLocks)
	refuse(t, x, api.MaxLocks, 0, mode.IS, api.ErrFull)
	drop(t, x, 0, all...)
	long(t, x, api.MaxLocks-1)
}

func TestLen(t *testing.T) {
	x := made(t, 3, 99)
	ask(t, x, 1, 0, mode.S, lane.Granted)
	long(t, x, 1)
	ask(t, x, 1, 0, mode.S, lane.Granted)
	long(t, x, 1) // nothing new
	ask(t, x, 2, 0, mode.S, lane.Granted)
	long(t, x, 2) // another holder of that node
	ask(t, x, 1, 2, mode.S, lane.Granted)
	long(t, x, 3) // another node of that holder
	ask(t, x, 1, 0, mode.X, lane.Waiting)
	long(t, x, 3) // a conversion that waits
	ask(t, x, 2, 0, mode.X, lane.Waiting)
	long(t, x, 3) // another one
	ask(t, x, 3, 0, mode.S, lane.Waiting)
	long(t, x, 4) // a new one that waits
	drop(t, x, 1, 2)
	long(t, x, 2) // the conversion is granted
	drop(t, x, 3)
	long(t, x, 1)
	drop(t, x, 3)
	long(t, x, 1)
	drop(t, x, 2)
	long(t, x, 0)
}

func TestDropOfOneThatHasNothing(t *testing.T) {
	x := made(t, 2, 9)
	ask(t, x, 3, 0, mode.X, lane.Granted)
	ask(t, x, 4, 0, mode.S, lane.Waiting)
	for _, who := range []int{0, 2, 5, 1 << 32, -1, math.MinInt, math.MaxInt} {
		drop(t, x, who)
		long(t, x, 2)
		stands(t, x, table.Edge{From: 4, To: 3})
	}
}

// The last node first, at each one those that waited longest first.
func TestDropOfOneThatHoldsAtSeveralNodes(t *testing.T) {
	x := made(t, 5, 20)
	for _, node := range []int{3, 0, 4, 1} {
		ask(t, x, 9, node, mode.X, lane.Granted)
	}
	for _, c := range [][3]int{
		{1, 0, mode.S}, {2, 4, mode.S}, {3, 1, mode.X}, {8, 3, mode.X}, {4, 0, mode.IS},
		{5, 4, mode.X}, {0, 4, mode.S}, {6, 0, mode.IX}, {7, 3, mode.S},
	} {
		ask(t, x, c[0], c[1], c[2], lane.Waiting)
	}
	ask(t, x, 10, 2, mode.X, lane.Granted)
	ask(t, x, 11, 2, mode.X, lane.Waiting) // where it has nothing nothing is done
	drop(t, x, 9, 2, 8, 3, 1, 4)
	held(t, x, 9)
	for who, want := range []locks{
		nil, {{Node: 0, Mode: mode.S}}, {{Node: 4, Mode: mode.S}}, {{Node: 1, Mode: mode.X}},
		{{Node: 0, Mode: mode.IS}}, nil, nil, nil, {{Node: 3, Mode: mode.X}},
	} {
		held(t, x, who, want...)
	}
	stands(t, x, edges{{0, 5}, {5, 2}, {6, 1}, {7, 8}, {11, 10}}...)
	long(t, x, 11)
	ask(t, x, 9, 2, mode.S, lane.Waiting) // what it held is forgotten
}

func TestDropOfOneThatWaits(t *testing.T) {
	x := made(t, 4, 20)
	ask(t, x, 1, 0, mode.S, lane.Granted)
	ask(t, x, 2, 2, mode.S, lane.Granted)
	ask(t, x, 2, 3, mode.X, lane.Granted)
	ask(t, x, 4, 3, mode.IS, lane.Waiting)
	ask(t, x, 2, 0, mode.X, lane.Waiting)
	ask(t, x, 3, 0, mode.S, lane.Waiting)
	ask(t, x, 5, 2, mode.IX, lane.Waiting)
	// It kept 3 out by waiting, 4 and 5 by holding.
	drop(t, x, 2, 4, 5, 3)
	held(t, x, 2)
	waitsNot(t, x, 2)
	long(t, x, 4)
	stands(t, x)
	ask(t, x, 2, 1, mode.X, lane.Granted)
}

func TestDropOfOneThatConverts(t *testing.T) {
	x := made(t, 2, 9)
	for _, who := range []int{1, 2} {
		ask(t, x, who, 1, mode.S, lane.Granted)
	}
	ask(t, x, 1, 1, mode.X, lane.Waiting)
	ask(t, x, 2, 1, mode.X, lane.Waiting)
	stands(t, x, edges{{1, 2}, {2, 1}}...)
	drop(t, x, 1, 2)
	held(t, x, 2, table.Lock{Node: 1, Mode: mode.X})
	held(t, x, 1)
	waitsNot(t, x, 1)
	waitsNot(t, x, 2)
	long(t, x, 1)
}

func TestHolds(t *testing.T) {
	x := made(t, 3, 9)
	for m := mode.IS; m <= mode.X; m++ {
		ask(t, x, 1, 1, m, lane.Granted)
		holds(t, x, 1, 1, x.Lane(1).Holds(1))
	}
	holds(t, x, 1, 1, mode.X)
	ask(t, x, 2, 1, mode.S, lane.Waiting)
	holds(t, x, 2, 1, mode.None) // it waits, no more
	for _, node := range noNodes(3) {
		holds(t, x, 1, node, mode.None)
	}
	holds(t, x, 1, 0, mode.None)
	holds(t, x, 1, 2, mode.None)
	// A conversion that waits holds what it held.
	ask(t, x, 3, 0, mode.IS, lane.Granted)
	ask(t, x, 4, 0, mode.IX, lane.Granted)
	ask(t, x, 3, 0, mode.S, lane.Waiting)
	holds(t, x, 3, 0, mode.IS)
	held(t, x, 3, table.Lock{Node: 0, Mode: mode.IS})
}

func TestHeldRisesByNodes(t *testing.T) {
	x := made(t, 600, 99)
	order := []int{599, 3, 0, 64, 7, 2, 598, 1}
	for i, node := range order {
		ask(t, x, 1, node, 1+i%5, lane.Granted)
	}
	ask(t, x, 2, 5, mode.X, lane.Granted)
	ask(t, x, 1, 5, mode.S, lane.Waiting) // not held
	held(t, x, 1, locks{
		{0, mode.S}, {1, mode.S}, {2, mode.IS}, {3, mode.IX},
		{7, mode.X}, {64, mode.SIX}, {598, mode.IX}, {599, mode.IS},
	}...)
	held(t, x, 2, table.Lock{Node: 5, Mode: mode.X})
}

func TestWaits(t *testing.T) {
	x := made(t, 3, 9)
	ask(t, x, 1, 2, mode.IX, lane.Granted)
	ask(t, x, 2, 2, mode.IX, lane.Granted)
	waitsNot(t, x, 1)
	ask(t, x, 1, 2, mode.S, lane.Waiting)
	waits(t, x, 1, 2, mode.SIX) // the target, not what it asked for
	ask(t, x, 3, 2, mode.S, lane.Waiting)
	waits(t, x, 3, 2, mode.S)
	waitsNot(t, x, 2)
	waitsNot(t, x, 0)
	waitsNot(t, x, -1)
	ask(t, x, 4, 0, mode.X, lane.Granted)
	ask(t, x, 5, 0, mode.IS, lane.Waiting)
	waits(t, x, 5, 0, mode.IS) // at the node 0
	drop(t, x, 2, 1)
	waitsNot(t, x, 1)
	waits(t, x, 3, 2, mode.S)
}

// By From first, whatever the node, then by To, whatever the order of the queue.
func TestEdgesRise(t *testing.T) {
	x := made(t, 3, 30)
	ask(t, x, 6, 0, mode.X, lane.Granted)
	ask(t, x, 7, 1, mode.S, lane.Granted)
	ask(t, x, 2, 1, mode.S, lane.Granted)
	ask(t, x, 8, 2, mode.X, lane.Granted)
	ask(t, x, 9, 0, mode.S, lane.Waiting)
	ask(t, x, 1, 2, mode.S, lane.Waiting)
	ask(t, x, 5, 1, mode.X, lane.Waiting)
	ask(t, x, 3, 0, mode.S, lane.Waiting)
	ask(t, x, 4, 1, mode.IS, lane.Waiting)
	ask(t, x, 0, 0, mode.S, lane.Waiting)
	stands(t, x, edges{
		{0, 3}, {0, 6}, {0, 9}, {1, 8}, {3, 6}, {3, 9}, {4, 5}, {5, 2}, {5, 7}, {9, 6},
	}...)
	// 10 is behind 9, which it would not be as a text.
	ask(t, x, 10, 1, mode.IS, lane.Waiting)
	stands(t, x, edges{
		{0, 3}, {0, 6}, {0, 9}, {1, 8}, {3, 6}, {3, 9}, {4, 5}, {5, 2}, {5, 7}, {9, 6}, {10, 4}, {10, 5},
	}...)
}

func TestLaneIsTheLaneItself(t *testing.T) {
	x := made(t, 3, 2)
	for node := range 3 {
		for other := range 3 {
			if (x.Lane(node) == x.Lane(other)) != (node == other) {
				t.Errorf("P9.2: the lanes of %d and %d", node, other)
			}
		}
	}
	for _, node := range noNodes(3) {
		if x.Lane(node) != nil {
			t.Errorf("P9.2: there is a lane of the node %d", node)
		}
	}
	l := x.Lane(1)
	ask(t, x, 4, 1, mode.S, lane.Granted)
	if l.Holds(4) != mode.S {
		t.Error("P9.2: the lane does not show what the table was asked for")
	}
	// What is asked of the lane the table shows, counts and drops.
	if l.Ask(5, mode.X) != lane.Waiting {
		t.Error("P9.2: the lane grants what does not fit")
	}
	long(t, x, 2)
	waits(t, x, 5, 1, mode.X)
	stands(t, x, table.Edge{From: 5, To: 4})
	refuse(t, x, 5, 0, mode.S, api.ErrState)
	refuse(t, x, 6, 0, mode.S, api.ErrFull)
	if got := l.Leave(4); !slices.Equal(got, []int{5}) {
		t.Errorf("P9.2: the lane's Leave is %v", got)
	}
	held(t, x, 4)
	held(t, x, 5, table.Lock{Node: 1, Mode: mode.X})
	drop(t, x, 5)
	if !l.Empty() {
		t.Error("P9.2: the lane is not empty behind Drop")
	}
	long(t, x, 0)
}

// spoil writes into all of a list, its spare room too.
func spoil[T any](l []T, v T) {
	l = l[:cap(l)]
	for i := range l {
		l[i] = v
	}
}

func TestAnswersAreNewMemory(t *testing.T) {
	x := made(t, 3, 20)
	for _, node := range []int{0, 1} {
		ask(t, x, 1, node, mode.X, lane.Granted)
	}
	ask(t, x, 2, 1, mode.S, lane.Waiting)
	ask(t, x, 3, 1, mode.S, lane.Waiting)
	ask(t, x, 4, 0, mode.IS, lane.Waiting)
	wantHeld := locks{{0, mode.X}, {1, mode.X}}
	wantEdges := edges{{2, 1}, {3, 1}, {3, 2}, {4, 1}}
	h, g := x.Held(1), x.Edges()
	spoil(x.Held(1), table.Lock{Node: 77, Mode: 77})
	spoil(x.Edges(), table.Edge{From: 77, To: 77})
	spoil(x.Drop(99), 77)
	held(t, x, 1, wantHeld...)
	stands(t, x, wantEdges...)
	long(t, x, 5)
	if !slices.Equal(h, wantHeld) || !slices.Equal(g, wantEdges) {
		t.Error("P0.4: an earlier answer was changed")
	}
	granted := x.Drop(1)
	if !slices.Equal(granted, []int{2, 3, 4}) || !slices.Equal(h, wantHeld) || !slices.Equal(g, wantEdges) {
		t.Error("P0.4: Drop changed an earlier answer")
	}
	spoil(granted, 77)
	spoil(h, table.Lock{Node: 77, Mode: 77})
	spoil(g, table.Edge{From: 77, To: 77})
	held(t, x, 2, table.Lock{Node: 1, Mode: mode.S})
	held(t, x, 3, table.Lock{Node: 1, Mode: mode.S})
	held(t, x, 4, table.Lock{Node: 0, Mode: mode.IS})
	stands(t, x)
}

// book keeps beside its lanes what was answered: who has what where, as it was
// asked for, and who waits where. The table keeps none of that.
type book struct {
	lanes []*lane.Lane
	most  int
	has   map[[2]int]int     // of who and node: what it holds
	waits map[int]table.Lock // of who
}

func newBook(nodes, most int) *book {
	b := &book{most: most, has: map[[2]int]int{}, waits: map[int]table.Lock{}}
	for range nodes {
		b.lanes = append(b.lanes, lane.New())
	}
	return b
}

func (b *book) ask(who, node, m int) (int, api.Errno) {
	if node < 0 || node >= len(b.lanes) {
		return 0, api.ErrNone
	}
	if _, ok := b.waits[who]; ok {
		return 0, api.ErrState
	}
	if who < 0 || slices.Contains(wrongModes, m) {
		return 0, api.ErrRange
	}
	old, ok := b.has[[2]int{who, node}]
	if !ok && len(b.has) == b.most {
		return 0, api.ErrFull
	}
	answer := b.lanes[node].Ask(who, m)
	if answer == lane.Granted {
		b.has[[2]int{who, node}] = mode.Sup(old, m)
		return answer, api.OK
	}
	b.has[[2]int{who, node}] = old
	b.waits[who] = table.Lock{Node: node, Mode: mode.Sup(old, m)}
	return answer, api.OK
}

func (b *book) drop(who int) []int {
	var out []int
	delete(b.waits, who)
	for node := len(b.lanes) - 1; node >= 0; node-- {
		if _, ok := b.has[[2]int{who, node}]; !ok {
			continue
		}
		delete(b.has, [2]int{who, node})
		for _, other := range b.lanes[node].Leave(who) {
			b.has[[2]int{other, node}] = b.waits[other].Mode
			delete(b.waits, other)
			out = append(out, other)
		}
	}
	return out
}

func (b *book) held(who int) locks {
	var out locks
	for at, m := range b.has {
		if at[0] == who && m != mode.None {
			out = append(out, table.Lock{Node: at[1], Mode: m})
		}
	}
	slices.SortFunc(out, func(x, y table.Lock) int { return x.Node - y.Node })
	return out
}

func (b *book) edges() edges {
	var out edges
	for who, at := range b.waits {
		for _, to := range b.lanes[at.Node].Blocks(who) {
			out = append(out, table.Edge{From: who, To: to})
		}
	}
	slices.SortFunc(out, func(x, y table.Edge) int {
		return cmp.Or(cmp.Compare(x.From, y.From), cmp.Compare(x.To, y.To))
	})
	return out
}

// alike holds all that a table tells against the book.
func alike(t *testing.T, x *table.Table, b *book, most int) {
	t.Helper()
	long(t, x, len(b.has))
	stands(t, x, b.edges()...)
	for who := -1; who <= most; who++ {
		held(t, x, who, b.held(who)...)
		if at, ok := b.waits[who]; ok {
			waits(t, x, who, at.Node, at.Mode)
		} else {
			waitsNot(t, x, who)
		}
		for node := -1; node <= len(b.lanes); node++ {
			holds(t, x, who, node, b.has[[2]int{who, node}])
		}
	}
	for node, l := range b.lanes {
		if !slices.Equal(x.Lane(node).Holders(), l.Holders()) || !slices.Equal(x.Lane(node).Queue(), l.Queue()) {
			t.Errorf("P9.2: the lane of the node %d", node)
		}
	}
}

// atOneNode asks for P9.3.
func atOneNode(t *testing.T, x *table.Table, nodes, most int) {
	t.Helper()
	for who := range most {
		places := 0
		for node := range nodes {
			if x.Lane(node).Waits(who) != mode.None {
				places++
			}
		}
		if places > 1 {
			t.Errorf("P9.3: %d waits at %d nodes", who, places)
		}
	}
}

// do makes one call on both: m below 0 is Drop.
func do(t *testing.T, x *table.Table, b *book, who, node, m int) {
	t.Helper()
	if m < 0 {
		drop(t, x, who, b.drop(who)...)
		return
	}
	want, wantErr := b.ask(who, node, m)
	if got, e := x.Ask(who, node, m); got != want || e != wantErr {
		t.Errorf("P9.1: Ask(%d, %d, %d) is %d, %d, not %d, %d", who, node, m, got, e, want, wantErr)
	}
}

// Every short row of calls of two at two nodes, three locks at most: 14 calls,
// four of them behind each other.
func TestEveryShortRow(t *testing.T) {
	var calls [][3]int
	for who := range 2 {
		calls = append(calls, [3]int{who, 0, -1})
		for node := range 2 {
			for _, m := range []int{mode.IX, mode.S, mode.X} {
				calls = append(calls, [3]int{who, node, m})
			}
		}
	}
	for row := range 14 * 14 * 14 * 14 {
		x, b := made(t, 2, 3), newBook(2, 3)
		left := row
		for range 4 {
			c := calls[left%14]
			do(t, x, b, c[0], c[1], c[2])
			left /= 14
		}
		alike(t, x, b, 2)
		atOneNode(t, x, 2, 2)
		if t.Failed() {
			t.Fatalf("in the row %d", row)
		}
	}
}

// Long rows of few and of many, at few nodes and at many, wrong calls among them.
func TestLongRows(t *testing.T) {
	seed := uint64(9)
	pick := func(n int) int {
		seed = seed*6364136223846793005 + 1442695040888963407
		return int(seed >> 33 % uint64(n))
	}
	modes := []int{mode.IS, mode.IS, mode.IX, mode.S, mode.SIX, mode.X, mode.IS, mode.IX, mode.S, mode.None, 6}
	for _, c := range [][3]int{{2, 2, 3}, {3, 1, 99}, {3, 4, 6}, {5, 3, 9}, {8, 12, 30}, {20, 5, 99}} {
		for row := range 20 {
			x, b := made(t, c[1], c[2]), newBook(c[1], c[2])
			for range 120 {
				m := modes[pick(len(modes))]
				if pick(5) == 0 {
					m = -1
				}
				do(t, x, b, pick(c[0]+1)-1, pick(c[1]+2)-1, m)
				alike(t, x, b, c[0])
				atOneNode(t, x, c[1], c[0])
				if t.Failed() {
					t.Fatalf("in the row %d of %v", row, c)
				}
			}
			for who := range c[0] {
				do(t, x, b, who, 0, -1)
			}
			long(t, x, 0)
		}
	}
}
