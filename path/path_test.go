package path_test

import (
	"math"
	"slices"
	"testing"

	"latchkey/api"
	"latchkey/lane"
	"latchkey/mode"
	"latchkey/path"
	"latchkey/shape"
	"latchkey/table"
)

// The heap of most tests: regions 0, 1; objects 2 to 4, 5 to 7; of each four
// stripes, 8 to 11 of the first; two words of each stripe.
const (
	objects = 2  // the first one
	stripes = 8  // the first one
	nodes   = 32 // behind the last one
	words   = 48
)

// none is what Next answers where nothing is left to ask for.
var none = table.Lock{}

var allModes = []int{mode.None, mode.IS, mode.IX, mode.S, mode.SIX, mode.X}

// What no heap has.
var never = []int{
	-1, -2, 4096, 1 << 32, -(1 << 32),
	math.MinInt32, math.MaxInt32, math.MinInt, math.MaxInt,
}

func conf(escalate int) shape.Conf {
	return sized(2, 3, 4, 2, escalate)
}

func sized(regions, objects, stripes, width, escalate int) shape.Conf {
	return shape.Conf{
		Regions: regions, Objects: objects, Stripes: stripes, Width: width, Escalate: escalate,
		Threads: 4, Slots: 2, Regs: 2, Locks: 100, Undo: 5, Tickets: 5,
	}
}

// wrongConfs may not be, one part of each past its bounds.
func wrongConfs() []shape.Conf {
	var l []shape.Conf
	for _, spoil := range []func(c *shape.Conf){
		func(c *shape.Conf) { *c = shape.Conf{} },
		func(c *shape.Conf) { c.Regions = 0 },
		func(c *shape.Conf) { c.Regions = -2 },
		func(c *shape.Conf) { c.Objects = 9 },
		func(c *shape.Conf) { c.Stripes = math.MaxInt },
		func(c *shape.Conf) { c.Width = math.MinInt },
		func(c *shape.Conf) { c.Escalate = -1 },
		func(c *shape.Conf) { c.Escalate = 65 },
		func(c *shape.Conf) { c.Threads = 0 },
		func(c *shape.Conf) { c.Policy = 3 },
	} {
		c := conf(1)
		spoil(&c)
		l = append(l, c)
	}
	return l
}

func made(t *testing.T) *table.Table {
	t.Helper()
	return madeOf(t, nodes)
}

func madeOf(t *testing.T, nodes int) *table.Table {
	t.Helper()
	x, e := table.New(nodes, api.MaxLocks)
	if e != api.OK {
		t.Fatalf("New(%d) is an error, %d", nodes, e)
	}
	return x
}

// hold has who hold all of l, which nobody hinders: None is nothing.
func hold(t *testing.T, x *table.Table, who int, l ...table.Lock) {
	t.Helper()
	for _, k := range l {
		if k.Mode == mode.None {
			continue
		}
		if got, e := x.Ask(who, k.Node, k.Mode); got != lane.Granted || e != api.OK {
			t.Fatalf("Ask(%d, %d, %d) is %d, %d, not granted", who, k.Node, k.Mode, got, e)
		}
	}
}

// picture is all that a table tells of its nodes.
func picture(x *table.Table, nodes int) [][2][]lane.Entry {
	var out [][2][]lane.Entry
	for node := range nodes {
		out = append(out, [2][]lane.Entry{x.Lane(node).Holders(), x.Lane(node).Queue()})
	}
	return out
}

func same(a, b [][2][]lane.Entry) bool {
	return slices.EqualFunc(a, b, func(x, y [2][]lane.Entry) bool {
		return slices.Equal(x[0], y[0]) && slices.Equal(x[1], y[1])
	})
}

// next holds one call against what is wanted: none, if nothing is left.
func next(t *testing.T, c shape.Conf, x *table.Table, who, a int, write bool, want table.Lock) {
	t.Helper()
	got, ok, e := path.Next(c, x, who, a, write)
	if got != want || ok != (want != none) || e != api.OK {
		t.Errorf("P10.1: Next(%d, %d, %v) is %v, %v, %d, not %v", who, a, write, got, ok, e, want)
	}
}

func refuse(t *testing.T, c shape.Conf, x *table.Table, who, a int) {
	t.Helper()
	for _, write := range []bool{false, true} {
		if got, ok, e := path.Next(c, x, who, a, write); got != none || ok || e != api.ErrRange {
			t.Errorf("P10.1: Next(%d, %d, %v) is %v, %v, %d, not ErrRange", who, a, write, got, ok, e)
		}
	}
}

func count(t *testing.T, c shape.Conf, x *table.Table, who, object, want int) {
	t.Helper()
	if got := path.Stripes(c, x, who, object); got != want {
		t.Errorf("P10.1: Stripes(%d, %d) is %d, not %d", who, object, got, want)
	}
}

func lock(node, m int) table.Lock {
	return table.Lock{Node: node, Mode: m}
}

func TestNextOfNoWord(t *testing.T) {
	x := made(t)
	for range 2 {
		for _, a := range append([]int{words, words + 1, -words}, never...) {
			refuse(t, conf(0), x, 1, a)
			refuse(t, conf(1), x, -1, a)
		}
		next(t, conf(0), x, 2, words-1, false, lock(1, mode.IS)) // the last one
		next(t, conf(0), x, 2, 0, false, lock(0, mode.IS))
		hold(t, x, 1, lock(0, mode.X), lock(1, mode.X), lock(objects, mode.X), lock(stripes, mode.X))
	}
	if len(x.Held(1)) != 4 {
		t.Errorf("P10.1: Next of no word has changed the table: %v", x.Held(1))
	}
}

func TestNextAndStripesOfAConfThatMayNotBe(t *testing.T) {
	x := made(t)
	for node := range nodes {
		hold(t, x, 1, lock(node, mode.S))
	}
	for _, c := range wrongConfs() {
		for a := -1; a < words+1; a++ {
			refuse(t, c, x, 1, a)
		}
		for object := -1; object <= nodes; object++ {
			count(t, c, x, 1, object, 0)
		}
	}
}

// Each word of several heaps: the region comes first.
func TestNothingHeld(t *testing.T) {
	for _, c := range []shape.Conf{
		conf(0), conf(1), sized(1, 1, 1, 1, 0), sized(8, 8, 8, 8, 64), sized(3, 1, 2, 5, 2), sized(1, 3, 1, 1, 1),
	} {
		x := madeOf(t, shape.Nodes(c))
		for a := range shape.Words(c) {
			region := a / (c.Objects * c.Stripes * c.Width)
			for _, who := range []int{0, 1, 63, math.MaxInt} {
				next(t, c, x, who, a, false, lock(region, mode.IS))
				next(t, c, x, who, a, true, lock(region, mode.IX))
			}
		}
	}
}

// A number below 0 holds nothing anywhere.
func TestWhoBelow0(t *testing.T) {
	x := made(t)
	hold(t, x, 1, lock(0, mode.IX), lock(objects, mode.IX), lock(stripes, mode.X))
	for _, who := range []int{-1, -2, math.MinInt32, math.MinInt} {
		next(t, conf(1), x, who, 0, false, lock(0, mode.IS))
		next(t, conf(1), x, who, 0, true, lock(0, mode.IX))
		count(t, conf(1), x, who, objects, 0)
	}
}

// By modes that are held: what is next to read, and to write.
func TestRegionInEachMode(t *testing.T) {
	region, object := 1, objects+5
	want := [][2]table.Lock{
		{lock(region, mode.IS), lock(region, mode.IX)},
		{lock(object, mode.IS), lock(region, mode.IX)},
		{lock(object, mode.IS), lock(object, mode.IX)},
		{lock(object, mode.IS), lock(region, mode.IX)},
		{lock(object, mode.IS), lock(object, mode.IX)},
		{lock(object, mode.IS), lock(object, mode.IX)},
	}
	for _, m := range allModes {
		x := made(t)
		hold(t, x, 1, lock(region, m), lock(0, mode.X), lock(objects, mode.X))
		for _, a := range []int{40, 47} {
			next(t, conf(0), x, 1, a, false, want[m][0])
			next(t, conf(0), x, 1, a, true, want[m][1])
			next(t, conf(2), x, 1, a, false, want[m][0])
			next(t, conf(2), x, 1, a, true, want[m][1])
		}
	}
}

// The region is asked for whatever is held below it.
func TestRegionComesAheadOfWhatLiesBelow(t *testing.T) {
	for _, m := range allModes[1:] {
		x := made(t)
		hold(t, x, 1, lock(objects, m), lock(stripes, m), lock(stripes+1, m))
		for _, escalate := range []int{0, 1, 2, 64} {
			next(t, conf(escalate), x, 1, 0, false, lock(0, mode.IS))
			next(t, conf(escalate), x, 1, 0, true, lock(0, mode.IX))
		}
	}
}

func TestObjectInEachMode(t *testing.T) {
	object, stripe := objects+1, stripes+6
	want := [][2]table.Lock{
		{lock(object, mode.IS), lock(object, mode.IX)},
		{lock(stripe, mode.S), lock(object, mode.IX)},
		{lock(stripe, mode.S), lock(stripe, mode.X)},
		{none, lock(object, mode.IX)},
		{none, lock(stripe, mode.X)},
		{none, none},
	}
	for _, region := range []int{mode.IX, mode.SIX, mode.X} {
		for _, m := range allModes {
			x := made(t)
			// The objects and the stripes beside it do not help.
			hold(t, x, 1, lock(0, region), lock(object, m), lock(objects, mode.X), lock(objects+2, mode.X))
			hold(t, x, 1, lock(stripe-1, mode.X), lock(stripe+1, mode.X))
			for _, a := range []int{12, 13} {
				for _, escalate := range []int{0, 3, 64} {
					next(t, conf(escalate), x, 1, a, false, want[m][0])
					next(t, conf(escalate), x, 1, a, true, want[m][1])
				}
			}
		}
	}
}

// A region that is held for reading lets read, though its object must be asked
// for; for writing it must itself be asked for.
func TestObjectBelowARegionForReading(t *testing.T) {
	for _, region := range []int{mode.IS, mode.S} {
		for _, m := range allModes {
			x := made(t)
			hold(t, x, 1, lock(0, region), lock(objects, m))
			want := [...]table.Lock{
				lock(objects, mode.IS), lock(stripes, mode.S), lock(stripes, mode.S), none, none, none,
			}
			next(t, conf(0), x, 1, 0, false, want[m])
			next(t, conf(0), x, 1, 0, true, lock(0, mode.IX))
		}
	}
}

func TestStripeInEachMode(t *testing.T) {
	stripe := stripes + 3
	want := [][2]table.Lock{
		{lock(stripe, mode.S), lock(stripe, mode.X)},
		{lock(stripe, mode.S), lock(stripe, mode.X)},
		{lock(stripe, mode.S), lock(stripe, mode.X)},
		{none, lock(stripe, mode.X)},
		{none, lock(stripe, mode.X)},
		{none, none},
	}
	for _, m := range allModes {
		x := made(t)
		hold(t, x, 1, lock(0, mode.IX), lock(objects, mode.IX), lock(stripe, m))
		for _, a := range []int{6, 7} {
			for _, escalate := range []int{0, 2, 64} {
				next(t, conf(escalate), x, 1, a, false, want[m][0])
				next(t, conf(escalate), x, 1, a, true, want[m][1])
			}
		}
	}
}

// The object is asked for, though the stripe is held already.
func TestStripeDoesNotStandForItsObject(t *testing.T) {
	for _, escalate := range []int{0, 1, 2} {
		x := made(t)
		hold(t, x, 1, lock(0, mode.IX), lock(stripes, mode.X))
		next(t, conf(escalate), x, 1, 0, false, lock(objects, mode.IS))
		next(t, conf(escalate), x, 1, 0, true, lock(objects, mode.IX))
		hold(t, x, 1, lock(objects, mode.IS))
		next(t, conf(escalate), x, 1, 0, false, none)
		next(t, conf(escalate), x, 1, 0, true, lock(objects, mode.IX))
		hold(t, x, 1, lock(objects, mode.S))
		next(t, conf(escalate), x, 1, 0, false, none)
		next(t, conf(escalate), x, 1, 0, true, lock(objects, mode.IX)) // SIX by that
		hold(t, x, 1, lock(objects, mode.IX))
		next(t, conf(escalate), x, 1, 0, true, none)
	}
}

// Escalate 0 never is reached: all stripes but one, and all of them.
func TestEscalate0(t *testing.T) {
	x := made(t)
	hold(t, x, 1, lock(0, mode.IX), lock(objects, mode.IX))
	next(t, conf(0), x, 1, 0, false, lock(stripes, mode.S)) // none, which is 0
	for i := 1; i < 4; i++ {
		hold(t, x, 1, lock(stripes+i, mode.S))
	}
	next(t, conf(0), x, 1, 0, false, lock(stripes, mode.S))
	next(t, conf(0), x, 1, 0, true, lock(stripes, mode.X))
	hold(t, x, 1, lock(stripes, mode.S))
	next(t, conf(0), x, 1, 0, false, none)
	next(t, conf(0), x, 1, 0, true, lock(stripes, mode.X))
}

// So many stripes, the word's stripe not among them.
func TestEscalateBesideTheStripe(t *testing.T) {
	for n := 0; n < 4; n++ {
		x := made(t)
		hold(t, x, 1, lock(0, mode.IX), lock(objects, mode.IX))
		for i := range n {
			hold(t, x, 1, lock(stripes+1+i, allModes[1+i]))
		}
		for escalate := 1; escalate <= 64; escalate++ {
			want := [2]table.Lock{lock(stripes, mode.S), lock(stripes, mode.X)}
			if n >= escalate {
				want = [2]table.Lock{lock(objects, mode.S), lock(objects, mode.X)}
			}
			next(t, conf(escalate), x, 1, 1, false, want[0])
			next(t, conf(escalate), x, 1, 1, true, want[1])
		}
	}
}

// So many stripes, the word's stripe among them: what it has stays enough; for
// more it takes the object.
func TestEscalateWithTheStripe(t *testing.T) {
	for _, m := range allModes[1:] {
		for n := 1; n <= 4; n++ {
			x := made(t)
			hold(t, x, 1, lock(0, mode.IX), lock(objects, mode.IX), lock(stripes, m))
			for i := 1; i < n; i++ {
				hold(t, x, 1, lock(stripes+i, mode.X))
			}
			for escalate := 1; escalate <= 5; escalate++ {
				more := [2]table.Lock{lock(stripes, mode.S), lock(stripes, mode.X)}
				if n >= escalate {
					more = [2]table.Lock{lock(objects, mode.S), lock(objects, mode.X)}
				}
				if m >= mode.S {
					more[0] = none
				}
				if m == mode.X {
					more[1] = none
				}
				next(t, conf(escalate), x, 1, 0, false, more[0])
				next(t, conf(escalate), x, 1, 0, true, more[1])
			}
		}
	}
}

// The object in each mode, when there are stripes enough.
func TestEscalateWithTheObjectInEachMode(t *testing.T) {
	want := [][2]table.Lock{
		{lock(objects, mode.S), lock(objects, mode.X)},
		{lock(objects, mode.S), lock(objects, mode.X)},
		{lock(objects, mode.S), lock(objects, mode.X)},
		{none, lock(objects, mode.X)},
		{none, lock(objects, mode.X)},
		{none, none},
	}
	for _, m := range allModes {
		x := made(t)
		hold(t, x, 1, lock(0, mode.IX), lock(objects, m), lock(stripes+2, mode.X), lock(stripes+3, mode.X))
		for _, escalate := range []int{1, 2} {
			next(t, conf(escalate), x, 1, 0, false, want[m][0])
			next(t, conf(escalate), x, 1, 0, true, want[m][1])
			next(t, conf(escalate), x, 1, 2, false, want[m][0])
		}
	}
}

func TestStripesOfNoneSomeAndAll(t *testing.T) {
	for _, m := range allModes[1:] {
		x := made(t)
		for object := range 6 {
			count(t, conf(0), x, 1, objects+object, 0)
		}
		for i := range 4 {
			hold(t, x, 1, lock(stripes+8+i, m))
			count(t, conf(0), x, 1, objects+2, i+1)
			count(t, conf(i), x, 1, objects+2, i+1)
			hold(t, x, 1, lock(stripes+8+i, m)) // once more is none more
			count(t, conf(0), x, 1, objects+2, i+1)
		}
		for _, object := range []int{0, 1, 3, 4, 5} {
			count(t, conf(0), x, 1, objects+object, 0)
		}
		x.Drop(1)
		count(t, conf(0), x, 1, objects+2, 0)
	}
}

// Each object of several heaps, by the Parent of each stripe.
func TestStripesOfEachObject(t *testing.T) {
	for _, c := range []shape.Conf{
		conf(0), sized(1, 1, 1, 1, 0), sized(8, 8, 8, 8, 64), sized(3, 1, 2, 5, 2), sized(1, 3, 1, 1, 1), sized(7, 5, 3, 2, 0),
	} {
		x := madeOf(t, shape.Nodes(c))
		want := map[int]int{}
		for node := range shape.Nodes(c) {
			if shape.Level(c, node) != 2 || node%3 == 0 {
				continue
			}
			hold(t, x, 5, lock(node, mode.IX))
			want[shape.Parent(c, node)]++
		}
		for node := range shape.Nodes(c) {
			count(t, c, x, 5, node, want[node])
		}
	}
}

// The regions and the stripes are no objects, nor is what there is not, though
// all is held.
func TestStripesOfWhatIsNoObject(t *testing.T) {
	x := madeOf(t, 5000)
	for node := range 100 {
		hold(t, x, 1, lock(node, mode.S))
	}
	for _, no := range append([]int{0, 1, stripes, stripes + 1, nodes - 1, nodes, nodes + 1}, never...) {
		count(t, conf(1), x, 1, no, 0)
	}
	count(t, conf(1), x, 1, objects, 4)
	count(t, conf(1), x, 1, stripes-1, 4) // the last object
}

// Neither the stripes of other objects nor those of others count, nor the
// object itself, nor the region.
func TestStripesOfOthersAreNotCounted(t *testing.T) {
	x := made(t)
	hold(t, x, 1, lock(0, mode.IX), lock(objects, mode.IS), lock(objects+1, mode.IX))
	hold(t, x, 2, lock(0, mode.IX), lock(objects, mode.IX), lock(objects+1, mode.IX))
	hold(t, x, 1, lock(stripes+4, mode.S), lock(stripes+5, mode.S))
	hold(t, x, 2, lock(stripes, mode.S), lock(stripes+1, mode.S), lock(stripes+4, mode.S))
	count(t, conf(2), x, 1, objects, 0)
	count(t, conf(2), x, 1, objects+1, 2)
	count(t, conf(2), x, 2, objects, 2)
	count(t, conf(2), x, 2, objects+1, 1)
	count(t, conf(2), x, 3, objects, 0)
	next(t, conf(1), x, 1, 0, false, lock(stripes, mode.S))
	next(t, conf(2), x, 1, 12, false, lock(objects+1, mode.S))
	next(t, conf(2), x, 2, 12, false, lock(stripes+6, mode.S))
	next(t, conf(2), x, 2, 4, true, lock(objects, mode.X))
}

// Whoever waits for a thing doesn't hold it; a conversion holds what it held.
func TestWaitingIsNotHolding(t *testing.T) {
	x := made(t)
	hold(t, x, 2, lock(0, mode.IX), lock(objects, mode.IX), lock(stripes, mode.X), lock(stripes+1, mode.S))
	hold(t, x, 1, lock(0, mode.IX), lock(objects, mode.IX), lock(stripes+1, mode.S))
	x.Ask(1, stripes, mode.S)
	count(t, conf(2), x, 1, objects, 1)
	next(t, conf(2), x, 1, 0, false, lock(stripes, mode.S))
	x.Drop(2)
	count(t, conf(2), x, 1, objects, 2) // it was granted
	next(t, conf(2), x, 1, 0, false, none)

	hold(t, x, 2, lock(0, mode.IS), lock(objects, mode.IS), lock(stripes, mode.S))
	x.Ask(1, stripes, mode.X)
	count(t, conf(2), x, 1, objects, 2)
	next(t, conf(3), x, 1, 0, false, none)
	next(t, conf(3), x, 1, 0, true, lock(stripes, mode.X))
	next(t, conf(2), x, 1, 0, true, lock(objects, mode.X))

	x.Ask(3, 0, mode.X) // behind the two
	next(t, conf(0), x, 3, 0, true, lock(0, mode.IX))
	next(t, conf(0), x, 3, 47, true, lock(1, mode.IX))
}

// What others hold does not count, even if nothing fits beside it.
func TestOthersDoNotCount(t *testing.T) {
	x := made(t)
	for node := range nodes {
		hold(t, x, 2, lock(node, mode.X))
	}
	for a := range words {
		next(t, conf(1), x, 1, a, false, lock(a/24, mode.IS))
		next(t, conf(1), x, 1, a, true, lock(a/24, mode.IX))
		next(t, conf(1), x, 2, a, true, none)
	}
}

// A table with fewer nodes than the heap holds nothing there.
func TestTableOfOtherSize(t *testing.T) {
	x := madeOf(t, 1)
	hold(t, x, 1, lock(0, mode.IX))
	next(t, conf(1), x, 1, 0, true, lock(objects, mode.IX))
	next(t, conf(1), x, 1, 47, true, lock(1, mode.IX))
	count(t, conf(1), x, 1, objects, 0)
	x = madeOf(t, stripes+2)
	hold(t, x, 1, lock(0, mode.IX), lock(objects, mode.IX), lock(stripes+1, mode.S))
	count(t, conf(1), x, 1, objects, 1)
	count(t, conf(1), x, 1, stripes-1, 0)
	next(t, conf(2), x, 1, 4, true, lock(stripes+2, mode.X))
	next(t, conf(1), x, 1, 4, true, lock(objects, mode.X))
}

func TestTheTableStaysAsItIs(t *testing.T) {
	x := made(t)
	hold(t, x, 1, lock(0, mode.IX), lock(objects, mode.IX), lock(stripes, mode.S), lock(stripes+1, mode.X))
	hold(t, x, 2, lock(0, mode.IX), lock(objects, mode.IX), lock(stripes, mode.S))
	x.Ask(2, stripes+1, mode.X)
	x.Ask(1, 0, mode.S)
	before := picture(x, nodes)
	for escalate := range 5 {
		for who := -1; who < 4; who++ {
			for a := -1; a <= words; a++ {
				path.Next(conf(escalate), x, who, a, false)
				path.Next(conf(escalate), x, who, a, true)
			}
			for object := -1; object <= nodes; object++ {
				path.Stripes(conf(escalate), x, who, object)
			}
		}
	}
	if !same(before, picture(x, nodes)) {
		t.Errorf("P10.1: Next or Stripes has changed the table")
	}
}

// The example of the document: three stripes of one object written, Escalate 2.
func TestTheThirdStripeIsTheObject(t *testing.T) {
	c, x := conf(2), made(t)
	for _, step := range []struct {
		a    int
		want table.Lock
	}{
		{1, lock(0, mode.IX)}, {1, lock(objects, mode.IX)}, {1, lock(stripes, mode.X)}, {1, none}, {0, none},
		{2, lock(stripes+1, mode.X)}, {2, none},
		{4, lock(objects, mode.X)}, {4, none}, {6, none}, {7, none},
		{8, lock(objects+1, mode.IX)}, {8, lock(stripes+4, mode.X)}, {8, none},
		{24, lock(1, mode.IX)},
	} {
		next(t, c, x, 1, step.a, true, step.want)
		hold(t, x, 1, step.want)
	}
	if got := x.Holds(1, objects); got != mode.X {
		t.Errorf("P10.1: it holds the object in %d, not X", got)
	}
}

func TestReadThenWrite(t *testing.T) {
	c, x := conf(0), made(t)
	for _, step := range []struct {
		write bool
		want  table.Lock
	}{
		{false, lock(1, mode.IS)}, {false, lock(objects+5, mode.IS)}, {false, lock(nodes-1, mode.S)}, {false, none},
		{true, lock(1, mode.IX)}, {true, lock(objects+5, mode.IX)}, {true, lock(nodes-1, mode.X)}, {true, none}, {false, none},
	} {
		next(t, c, x, 1, words-1, step.write, step.want)
		hold(t, x, 1, step.want)
	}
}

// bits are the rights that a mode gives, a mode covers another one where it has
// all of its rights: 1 to ask below for reading, 2 for writing, 4 to read
// all, 8 to write all.
var bits = [...]int{0, 1, 3, 5, 7, 15}

func lacks(held, want int) bool {
	return bits[want]&^bits[held] != 0
}

// wanted tells by rights what Next says of the last word of the heap, whose
// region, object and stripe are held so, n stripes of the object in all.
func wanted(region, object, stripe, n, escalate int, write bool) table.Lock {
	all, intent := mode.S, mode.IS
	if write {
		all, intent = mode.X, mode.IX
	}
	below := lacks(object, all) && lacks(stripe, all)
	switch {
	case lacks(region, intent):
		return lock(1, intent)
	case below && escalate > 0 && n >= escalate:
		return lock(stripes-1, all)
	case lacks(object, intent):
		// Whoever has the rights to all has those to ask below, too.
		return lock(stripes-1, intent)
	case below:
		return lock(nodes-1, all)
	}
	return none
}

// each goes through all ways to hold a region, an object, its last stripe and
// others of them.
func each(t *testing.T, f func(c shape.Conf, x *table.Table, want [2]table.Lock)) {
	t.Helper()
	for i := range 6 * 6 * 6 * 4 * 6 {
		region, object, stripe, others, escalate := i%6, i/6%6, i/36%6, i/216%4, i/864
		x := made(t)
		hold(t, x, 1, lock(1, region), lock(stripes-1, object), lock(nodes-1, stripe))
		for k := range others {
			hold(t, x, 1, lock(nodes-2-k, allModes[1+(i+k)%5]))
		}
		n := others + min(stripe, 1)
		count(t, conf(escalate), x, 1, stripes-1, n)
		f(conf(escalate), x, [2]table.Lock{
			wanted(region, object, stripe, n, escalate, false),
			wanted(region, object, stripe, n, escalate, true),
		})
		if t.Failed() {
			t.Fatalf("held: %v, Escalate %d", x.Held(1), escalate)
		}
	}
}

func TestEveryWayToHold(t *testing.T) {
	each(t, func(c shape.Conf, x *table.Table, want [2]table.Lock) {
		next(t, c, x, 1, words-1, false, want[0])
		next(t, c, x, 1, words-2, true, want[1])
	})
}

// Asking again and again comes to an end, from wherever it begins: then it may
// read (write) the word, and has what it had.
func TestAskingComesToAnEnd(t *testing.T) {
	each(t, func(c shape.Conf, x *table.Table, _ [2]table.Lock) {
		before := x.Held(1)
		for _, write := range []bool{false, true} {
			if !follow(t, c, x, 1, words-1, write) {
				t.Errorf("P10.2: it waits, though it is alone")
			}
			if !may(c, x, 1, words-1, write) {
				t.Errorf("P10.2: it has asked for all of it and may not: %v", x.Held(1))
			}
		}
		for _, l := range before {
			if !mode.Covers(x.Holds(1, l.Node), l.Mode) {
				t.Errorf("P10.1: what it had is gone: %v", l)
			}
		}
	})
}

// follow asks for what is next till nothing is left: false, if it waits.
func follow(t *testing.T, c shape.Conf, x *table.Table, who, a int, write bool) bool {
	t.Helper()
	region, object, stripe, _ := shape.Path(c, a)
	for range 4 {
		l, ok, e := path.Next(c, x, who, a, write)
		if e != api.OK {
			t.Errorf("P10.1: Next(%d, %d, %v) is an error, %d", who, a, write, e)
		}
		if !ok {
			return true
		}
		if l.Node != region && l.Node != object && l.Node != stripe || mode.Covers(x.Holds(who, l.Node), l.Mode) {
			t.Errorf("P10.1: Next(%d, %d, %v) is %v: not on the way, or held", who, a, write, l)
		}
		if got, _ := x.Ask(who, l.Node, l.Mode); got != lane.Granted {
			return false
		}
	}
	t.Errorf("P10.2: Next(%d, %d, %v) does not end", who, a, write)
	return true
}

// may says whether what who holds lets it read (write) the word.
func may(c shape.Conf, x *table.Table, who, a int, write bool) bool {
	_, object, stripe, _ := shape.Path(c, a)
	o, s := x.Holds(who, object), x.Holds(who, stripe)
	if write {
		return mode.Writes(o) || mode.Writes(s)
	}
	return mode.Reads(o) || mode.Reads(s)
}

// apart asks for P10.2: where one has asked for all of it, it may, and nobody
// else holds what does not fit with that: nobody else may write the word, nor
// read it, if one may write it.
func apart(t *testing.T, c shape.Conf, x *table.Table, whos int) {
	t.Helper()
	for i := range whos * shape.Words(c) * 2 {
		who, a, write := i%whos, i/whos%shape.Words(c), i/whos/shape.Words(c) == 1
		if _, ok, _ := path.Next(c, x, who, a, write); ok {
			continue
		}
		if !may(c, x, who, a, write) {
			t.Errorf("P10.2: %d has asked for all of %d (%v) and may not", who, a, write)
		}
		for other := range whos {
			if other != who && (may(c, x, other, a, true) || write && may(c, x, other, a, false)) {
				t.Errorf("P10.2: %d has asked for all of %d (%v), and %d may, too", who, a, write, other)
			}
		}
	}
}

// access has who, unless it waits, ask for all that the word needs.
func access(t *testing.T, c shape.Conf, x *table.Table, who, a int, write bool) {
	t.Helper()
	if _, waits := x.Waits(who); !waits {
		follow(t, c, x, who, a, write)
	}
}

// Every short row of calls of two at the two stripes of one object: each reads
// or writes a word, or drops all; five of them behind each other.
func TestEveryShortRow(t *testing.T) {
	for escalate := range 3 {
		c := sized(1, 1, 2, 1, escalate)
		for row := range 10 * 10 * 10 * 10 * 10 {
			x, left := madeOf(t, 4), row
			for range 5 {
				who, call := left%2, left%10/2
				if call == 4 {
					x.Drop(who)
				} else {
					access(t, c, x, who, call%2, call/2 == 1)
				}
				left /= 10
			}
			apart(t, c, x, 2)
			if t.Failed() {
				t.Fatalf("in the row %d, Escalate %d", row, escalate)
			}
		}
	}
}

// Long rows of a few on larger heaps; those that wait go on when they are
// granted.
func TestLongRows(t *testing.T) {
	seed := uint64(10)
	pick := func(n int) int {
		seed = seed*6364136223846793005 + 1442695040888963407
		return int(seed >> 33 % uint64(n))
	}
	for _, c := range []shape.Conf{
		conf(0), conf(1), conf(2), conf(3), sized(1, 1, 4, 1, 2), sized(1, 2, 3, 1, 3), sized(2, 1, 8, 2, 5),
	} {
		for row := range 10 {
			x := madeOf(t, shape.Nodes(c))
			whos := 2 + row%3
			for range 60 {
				who := pick(whos)
				if pick(6) == 0 {
					x.Drop(who)
				} else {
					access(t, c, x, who, pick(shape.Words(c)), pick(3) == 0)
				}
				apart(t, c, x, whos)
				if t.Failed() {
					t.Fatalf("in the row %d of %+v", row, c)
				}
			}
		}
	}
}
