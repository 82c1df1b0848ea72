package shape_test

import (
	"math"
	"testing"

	"latchkey/api"
	"latchkey/shape"
)

// Words and nodes that no Conf has.
var never = []int{-1, -2, math.MinInt, math.MaxInt, 1 << 20}

func oneOfEach() shape.Conf {
	return shape.Conf{Regions: 1, Objects: 1, Stripes: 1, Width: 1, Threads: 1, Regs: 1, Locks: 1, Undo: 1, Tickets: 1}
}

func sized(regions, objects, stripes, width int) shape.Conf {
	c := oneOfEach()
	c.Regions, c.Objects, c.Stripes, c.Width = regions, objects, stripes, width
	return c
}

func largest() shape.Conf {
	return shape.Conf{Regions: 8, Objects: 8, Stripes: 8, Width: 8, Threads: 64, Slots: 48, Regs: 8, Locks: 4096, Undo: 1000, Escalate: 64, Tickets: 10000, Policy: api.Die}
}

// part is one of Conf's parts with its bounds.
type part struct {
	name        string
	least, most int
	in          func(c *shape.Conf) *int
}

func parts() []part {
	return []part{
		{"Regions", 1, 8, func(c *shape.Conf) *int { return &c.Regions }},
		{"Objects", 1, 8, func(c *shape.Conf) *int { return &c.Objects }},
		{"Stripes", 1, 8, func(c *shape.Conf) *int { return &c.Stripes }},
		{"Width", 1, 8, func(c *shape.Conf) *int { return &c.Width }},
		{"Threads", 1, 64, func(c *shape.Conf) *int { return &c.Threads }},
		{"Slots", 0, 48, func(c *shape.Conf) *int { return &c.Slots }},
		{"Regs", 1, 8, func(c *shape.Conf) *int { return &c.Regs }},
		{"Locks", 1, 4096, func(c *shape.Conf) *int { return &c.Locks }},
		{"Undo", 1, 1000, func(c *shape.Conf) *int { return &c.Undo }},
		{"Escalate", 0, 64, func(c *shape.Conf) *int { return &c.Escalate }},
		{"Tickets", 1, 10000, func(c *shape.Conf) *int { return &c.Tickets }},
		{"Policy", 0, 2, func(c *shape.Conf) *int { return &c.Policy }},
	}
}

// with sets one part of a Conf, which is a copy: the caller's stays as it was.
func with(c shape.Conf, p part, n int) shape.Conf {
	*p.in(&c) = n
	return c
}

// wrongConfs are the Confs with one part past its bounds, and some that have
// several.
func wrongConfs() map[string]shape.Conf {
	l := map[string]shape.Conf{
		"the zero Conf":    {},
		"a region of none": sized(1, 0, 1, 1),
		"two below 0":      sized(-2, -2, 1, 1),
		"four below 0":     sized(-1, -1, -1, -1),
		"running round":    sized(1<<32, 1<<32, 1<<32, 1<<32),
	}
	for _, p := range parts() {
		l[p.name+" below"] = with(largest(), p, p.least-1)
		l[p.name+" above"] = with(largest(), p, p.most+1)
		l[p.name+" far below"] = with(oneOfEach(), p, math.MinInt)
		l[p.name+" far above"] = with(oneOfEach(), p, math.MaxInt)
	}
	return l
}

func checkSizes(t *testing.T, c shape.Conf, words, nodes, cells int) {
	t.Helper()
	if w, n, k := shape.Words(c), shape.Nodes(c), shape.Cells(c); w != words || n != nodes || k != cells {
		t.Errorf("%+v: Words %d, Nodes %d, Cells %d; want %d, %d, %d", c, w, n, k, words, nodes, cells)
	}
}

func checkPath(t *testing.T, c shape.Conf, a, region, object, stripe int) {
	t.Helper()
	if r, o, s, e := shape.Path(c, a); r != region || o != object || s != stripe || e != api.OK {
		t.Errorf("%+v: Path(%d): %d, %d, %d, %d; want %d, %d, %d, OK", c, a, r, o, s, e, region, object, stripe)
	}
}

func checkNoWord(t *testing.T, c shape.Conf, a int) {
	t.Helper()
	if r, o, s, e := shape.Path(c, a); r != 0 || o != 0 || s != 0 || e != api.ErrRange {
		t.Errorf("%+v: Path(%d): %d, %d, %d, %d; want 0, 0, 0, ErrRange", c, a, r, o, s, e)
	}
}

func checkNode(t *testing.T, c shape.Conf, node, level, parent, latch int) {
	t.Helper()
	if v, p, k := shape.Level(c, node), shape.Parent(c, node), shape.Latch(c, node); v != level || p != parent || k != latch {
		t.Errorf("%+v: node %d: Level %d, Parent %d, Latch %d; want %d, %d, %d", c, node, v, p, k, level, parent, latch)
	}
}

// P3.1, Check.
func TestCheckTakesEachPartWithinItsBounds(t *testing.T) {
	for _, p := range parts() {
		for _, base := range []shape.Conf{oneOfEach(), largest()} {
			for n := p.least; n <= p.most; n++ {
				if e := shape.Check(with(base, p, n)); e != api.OK {
					t.Errorf("%s %d: %d; want OK", p.name, n, e)
				}
			}
		}
	}
}

func TestCheckRefusesEachPartPastItsBounds(t *testing.T) {
	for name, c := range wrongConfs() {
		if e := shape.Check(c); e != api.ErrRange {
			t.Errorf("%s: %d; want ErrRange", name, e)
		}
	}
}

func TestCheckTakesTheThreePoliciesAlone(t *testing.T) {
	want := map[int]api.Errno{
		api.Detect: api.OK, api.Wound: api.OK, api.Die: api.OK,
		-1: api.ErrRange, 3: api.ErrRange, 4: api.ErrRange, math.MinInt: api.ErrRange, math.MaxInt: api.ErrRange,
	}
	for n, e := range want {
		c := oneOfEach()
		c.Policy = n
		if got := shape.Check(c); got != e {
			t.Errorf("Policy %d: %d; want %d", n, got, e)
		}
	}
}

// P3.1, Words, Nodes, Cells.
func TestSizes(t *testing.T) {
	checkSizes(t, oneOfEach(), 1, 3, 9)
	checkSizes(t, sized(2, 3, 5, 7), 210, 2+6+30, 210+8*30)
	checkSizes(t, sized(7, 5, 3, 2), 210, 7+35+105, 210+8*105)
	checkSizes(t, sized(8, 1, 1, 1), 8, 24, 8+64)
	checkSizes(t, sized(1, 8, 1, 1), 8, 17, 8+64)
	checkSizes(t, sized(1, 1, 8, 1), 8, 10, 8+64)
	checkSizes(t, sized(1, 1, 1, 8), 8, 3, 8+8)
	checkSizes(t, largest(), 4096, 8+64+512, 4096+8*512)
}

func TestSizesHangOnTheHeapAlone(t *testing.T) {
	c := largest()
	c.Regions, c.Objects, c.Stripes, c.Width = 2, 3, 5, 7
	checkSizes(t, c, 210, 38, 450)
	checkPath(t, c, 209, 1, 7, 37)
	checkNode(t, c, 37, 2, 7, 210+8*29)
}

func TestAConfThatMayNotBeHasNothing(t *testing.T) {
	for name, c := range wrongConfs() {
		t.Run(name, func(t *testing.T) {
			checkSizes(t, c, 0, 0, 0)
			for _, n := range append([]int{0, 1, 2, 3, 8, 72, 583, 4095}, never...) {
				checkNoWord(t, c, n)
				checkNode(t, c, n, -1, -1, -1)
			}
		})
	}
}

// P3.1, Path.
func TestPathAtTheEdgesOfParts(t *testing.T) {
	c := sized(2, 3, 5, 7)
	checkPath(t, c, 0, 0, 2, 8)
	checkPath(t, c, 6, 0, 2, 8)
	checkPath(t, c, 7, 0, 2, 9)
	checkPath(t, c, 34, 0, 2, 12)
	checkPath(t, c, 35, 0, 3, 13)
	checkPath(t, c, 104, 0, 4, 22)
	checkPath(t, c, 105, 1, 5, 23)
	checkPath(t, c, 209, 1, 7, 37)
	checkPath(t, oneOfEach(), 0, 0, 1, 2)
	checkPath(t, largest(), 0, 0, 8, 72)
	checkPath(t, largest(), 4095, 7, 71, 583)
}

func TestPathOfNoWord(t *testing.T) {
	for _, c := range []shape.Conf{oneOfEach(), sized(2, 3, 5, 7), largest()} {
		checkNoWord(t, c, shape.Words(c))
		checkNoWord(t, c, shape.Cells(c)-1)
		for _, a := range never {
			checkNoWord(t, c, a)
		}
	}
}

// P3.1, Level, Parent, Latch.
func TestNodesAtTheEdgesOfLevels(t *testing.T) {
	c := sized(2, 3, 5, 7)
	checkNode(t, c, 0, 0, -1, -1)
	checkNode(t, c, 1, 0, -1, -1)
	checkNode(t, c, 2, 1, 0, -1)
	checkNode(t, c, 4, 1, 0, -1)
	checkNode(t, c, 5, 1, 1, -1)
	checkNode(t, c, 7, 1, 1, -1)
	checkNode(t, c, 8, 2, 2, 210)
	checkNode(t, c, 9, 2, 2, 218)
	checkNode(t, c, 12, 2, 2, 242)
	checkNode(t, c, 13, 2, 3, 250)
	checkNode(t, c, 37, 2, 7, 442)

	checkNode(t, oneOfEach(), 0, 0, -1, -1)
	checkNode(t, oneOfEach(), 1, 1, 0, -1)
	checkNode(t, oneOfEach(), 2, 2, 1, 1)

	checkNode(t, largest(), 0, 0, -1, -1)
	checkNode(t, largest(), 7, 0, -1, -1)
	checkNode(t, largest(), 8, 1, 0, -1)
	checkNode(t, largest(), 71, 1, 7, -1)
	checkNode(t, largest(), 72, 2, 8, 4096)
	checkNode(t, largest(), 583, 2, 71, 4096+8*511)
}

func TestNoNode(t *testing.T) {
	for _, c := range []shape.Conf{oneOfEach(), sized(2, 3, 5, 7), largest()} {
		checkNode(t, c, shape.Nodes(c), -1, -1, -1)
		for _, node := range never {
			checkNode(t, c, node, -1, -1, -1)
		}
	}
}

// P3.1 and P3.2 of every heap that may be: what is held against is counted up
// part by part, without a product or a division.
func TestEveryHeapIsLaidOutPartByPart(t *testing.T) {
	for regions := 1; regions <= 8; regions++ {
		for objects := 1; objects <= 8; objects++ {
			for stripes := 1; stripes <= 8; stripes++ {
				for width := 1; width <= 8; width++ {
					checkLayout(t, sized(regions, objects, stripes, width))
				}
			}
			if t.Failed() {
				t.FailNow()
			}
		}
	}
}

func checkLayout(t *testing.T, c shape.Conf) {
	t.Helper()
	node := 0
	for range c.Regions {
		checkNode(t, c, node, 0, -1, -1)
		node++
	}
	firstObject := node
	for region := range c.Regions {
		for range c.Objects {
			checkNode(t, c, node, 1, region, -1)
			node++
		}
	}
	firstStripe := node
	latch := shape.Words(c)
	a := 0
	for object := firstObject; object < firstStripe; object++ {
		for range c.Stripes {
			checkNode(t, c, node, 2, object, latch)
			for range c.Width {
				checkPath(t, c, a, shape.Parent(c, object), object, node)
				a++
			}
			latch += 8
			node++
		}
	}
	checkSizes(t, c, a, node, latch)
}

// P3.2.
func TestEachWordIsInItsStripeThatInItsObjectThatInItsRegion(t *testing.T) {
	for _, c := range []shape.Conf{oneOfEach(), sized(2, 3, 5, 7), sized(7, 5, 3, 2), sized(8, 1, 8, 1), largest()} {
		for a := range shape.Words(c) {
			region, object, stripe, e := shape.Path(c, a)
			if e != api.OK {
				t.Fatalf("%+v: Path(%d): %d; want OK", c, a, e)
			}
			if shape.Level(c, region) != 0 || shape.Level(c, object) != 1 || shape.Level(c, stripe) != 2 {
				t.Fatalf("%+v: Path(%d): %d, %d, %d are not of the levels 0, 1, 2", c, a, region, object, stripe)
			}
			if shape.Parent(c, stripe) != object || shape.Parent(c, object) != region {
				t.Fatalf("%+v: Path(%d): %d, %d, %d do not lie in one another", c, a, region, object, stripe)
			}
		}
	}
}

// The latches must not lie over the words, nor over one another.
func TestTheLatchesFillTheCellsBehindTheWords(t *testing.T) {
	for _, c := range []shape.Conf{oneOfEach(), sized(2, 3, 5, 7), largest()} {
		next := shape.Words(c)
		for node := range shape.Nodes(c) {
			latch := shape.Latch(c, node)
			if latch == -1 {
				continue
			}
			if latch != next {
				t.Fatalf("%+v: Latch(%d): %d; want %d", c, node, latch, next)
			}
			next += api.LatchWords
		}
		if next != shape.Cells(c) {
			t.Errorf("%+v: the latches end at %d; want Cells, %d", c, next, shape.Cells(c))
		}
	}
}

// A machine makes its cells by cell.New, which takes no more than MaxCells.
func TestTheLargestConfHasRoomInTheCells(t *testing.T) {
	if n := shape.Cells(largest()); n > api.MaxCells {
		t.Errorf("Cells: %d; want at most %d", n, api.MaxCells)
	}
}
