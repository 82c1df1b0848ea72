package mode_test

import (
	"math"
	"slices"
	"testing"

	"latchkey/mode"
)

var allModes = []int{mode.None, mode.IS, mode.IX, mode.S, mode.SIX, mode.X}

// What is no mode: just below None, just above X, and far off.
var noModes = []int{
	-1, 6, -2, 7, -5, 8, 64, 255, 256, 1 << 32, 1<<32 + 3, -(1 << 32),
	math.MinInt32, math.MaxInt32, math.MinInt, math.MinInt + 5, math.MaxInt,
}

// The promise's words, mode by mode.
var fitting = map[int][]int{
	mode.None: {mode.None, mode.IS, mode.IX, mode.S, mode.SIX, mode.X},
	mode.IS:   {mode.None, mode.IS, mode.IX, mode.S, mode.SIX},
	mode.IX:   {mode.None, mode.IS, mode.IX},
	mode.S:    {mode.None, mode.IS, mode.S},
	mode.SIX:  {mode.None, mode.IS},
	mode.X:    {mode.None},
}

// What each mode is at least.
var below = map[int][]int{
	mode.None: {mode.None},
	mode.IS:   {mode.None, mode.IS},
	mode.IX:   {mode.None, mode.IS, mode.IX},
	mode.S:    {mode.None, mode.IS, mode.S},
	mode.SIX:  {mode.None, mode.IS, mode.IX, mode.S, mode.SIX},
	mode.X:    {mode.None, mode.IS, mode.IX, mode.S, mode.SIX, mode.X},
}

func isAbove(m int, l []int) bool {
	for _, one := range l {
		if !slices.Contains(below[m], one) {
			return false
		}
	}
	return true
}

// leastAbove looks for the one mode above all of l that every other such
// mode is above.
func leastAbove(t *testing.T, l []int) int {
	t.Helper()
	above := slices.DeleteFunc(slices.Clone(allModes), func(m int) bool { return !isAbove(m, l) })
	for _, m := range above {
		if !slices.ContainsFunc(above, func(other int) bool { return !slices.Contains(below[other], m) }) {
			return m
		}
	}
	t.Fatalf("%v have no least mode above them", l)
	return 0
}

// eachList calls f with every list of n modes, in every order.
func eachList(n int, f func(l []int)) {
	l := make([]int, n)
	var fill func(at int)
	fill = func(at int) {
		if at == n {
			f(slices.Clone(l))
			return
		}
		for _, m := range allModes {
			l[at] = m
			fill(at + 1)
		}
	}
	fill(0)
}

func TestModesHaveTheirNumbers(t *testing.T) {
	for i, m := range allModes {
		if i != m {
			t.Errorf("mode %d has the number %d", i, m)
		}
	}
}

func TestKnown(t *testing.T) {
	for _, m := range allModes {
		if !mode.Known(m) {
			t.Errorf("Known(%d): false", m)
		}
	}
	for _, m := range noModes {
		if mode.Known(m) {
			t.Errorf("Known(%d): true", m)
		}
	}
}

// P4.1 and P4.2: every pair, both ways round.
func TestFitsOfEveryPair(t *testing.T) {
	for _, a := range allModes {
		for _, b := range allModes {
			want := slices.Contains(fitting[a], b)
			if got := mode.Fits(a, b); got != want {
				t.Errorf("Fits(%d, %d): %t", a, b, got)
			}
			if got := mode.Fits(b, a); got != want {
				t.Errorf("Fits(%d, %d): %t, but not so the other way round", b, a, got)
			}
		}
	}
}

// checkNoMode holds that f is false wherever one of its two is no mode.
func checkNoMode(t *testing.T, name string, f func(a, b int) bool) {
	t.Helper()
	for _, no := range noModes {
		for _, m := range slices.Concat(allModes, noModes) {
			if f(no, m) || f(m, no) {
				t.Errorf("%s of %d and %d: true", name, no, m)
			}
		}
	}
}

func TestFitsOfWhatIsNoMode(t *testing.T) {
	checkNoMode(t, "Fits", mode.Fits)
}

func TestSupOfNone(t *testing.T) {
	if got := mode.Sup(); got != mode.None {
		t.Errorf("Sup(): %d", got)
	}
	if got := mode.Sup(nil...); got != mode.None {
		t.Errorf("Sup of nil: %d", got)
	}
	if got := mode.Sup([]int{mode.X, 9}[:0]...); got != mode.None {
		t.Errorf("Sup of an empty list: %d", got)
	}
}

func TestSupOfIXAndS(t *testing.T) {
	cases := []struct {
		l    []int
		want int
	}{
		{[]int{mode.IX, mode.S}, mode.SIX},
		{[]int{mode.S, mode.IX}, mode.SIX},
		{[]int{mode.S, mode.None, mode.IX}, mode.SIX},
		{[]int{mode.IX, mode.IS, mode.IS, mode.S}, mode.SIX},
		{[]int{mode.IX, mode.S, mode.IX, mode.S}, mode.SIX},
		{[]int{mode.IX, mode.S, mode.X}, mode.X},
		{[]int{mode.X, mode.S, mode.IX}, mode.X},
		{[]int{mode.IX, mode.IX}, mode.IX},
		{[]int{mode.S, mode.IS, mode.S}, mode.S},
	}
	for _, c := range cases {
		if got := mode.Sup(c.l...); got != c.want {
			t.Errorf("Sup(%v): %d, want %d", c.l, got, c.want)
		}
	}
}

// P4.1: every list of up to five modes, in every order.
func TestSupIsTheLeastAbove(t *testing.T) {
	for n := range 6 {
		eachList(n, func(l []int) {
			if got, want := mode.Sup(l...), leastAbove(t, l); got != want {
				t.Errorf("Sup(%v): %d, want %d", l, got, want)
			}
		})
	}
}

func TestSupOfMany(t *testing.T) {
	l := slices.Repeat([]int{mode.None, mode.IS, mode.IX}, 1000)
	if got := mode.Sup(l...); got != mode.IX {
		t.Errorf("Sup of many: %d", got)
	}
	l[0] = mode.S
	if got := mode.Sup(l...); got != mode.SIX {
		t.Errorf("Sup of many and S: %d", got)
	}
}

// P4.1: one that is none makes Sup X, wherever it stands.
func TestSupOfWhatIsNoMode(t *testing.T) {
	for _, no := range noModes {
		if got := mode.Sup(no); got != mode.X {
			t.Errorf("Sup(%d): %d", no, got)
		}
		for n := range 4 {
			eachList(n, func(l []int) {
				for at := range n + 1 {
					among := slices.Insert(slices.Clone(l), at, no)
					if got := mode.Sup(among...); got != mode.X {
						t.Errorf("Sup(%v): %d", among, got)
					}
				}
			})
		}
		for _, other := range noModes {
			if got := mode.Sup(no, other); got != mode.X {
				t.Errorf("Sup(%d, %d): %d", no, other, got)
			}
		}
	}
}

// P0.4: what is handed in is not changed, what lies behind is not read.
func TestSupLeavesItsListAlone(t *testing.T) {
	room := []int{mode.S, mode.IX, mode.IS, mode.X, 9}
	before := slices.Clone(room)
	if got := mode.Sup(room[:3]...); got != mode.SIX {
		t.Errorf("Sup(%v): %d", room[:3], got)
	}
	if !slices.Equal(room, before) {
		t.Errorf("Sup made %v of %v", room, before)
	}
}

func TestCoversOfEveryPair(t *testing.T) {
	for _, held := range allModes {
		for _, want := range allModes {
			if got := mode.Covers(held, want); got != slices.Contains(below[held], want) {
				t.Errorf("Covers(%d, %d): %t", held, want, got)
			}
		}
	}
}

func TestCoversOfWhatIsNoMode(t *testing.T) {
	checkNoMode(t, "Covers", mode.Covers)
}

// holding is what a mode asks of what lies above it, and gives below it.
type holding struct {
	m, intent     int
	reads, writes bool
}

func TestIntentReadsWrites(t *testing.T) {
	cases := []holding{
		{mode.None, mode.None, false, false},
		{mode.IS, mode.IS, false, false},
		{mode.IX, mode.IX, false, false},
		{mode.S, mode.IS, true, false},
		{mode.SIX, mode.IX, true, false},
		{mode.X, mode.IX, true, true},
	}
	for _, no := range noModes {
		cases = append(cases, holding{m: no, intent: mode.None})
	}
	for _, c := range cases {
		if got := mode.Intent(c.m); got != c.intent {
			t.Errorf("Intent(%d): %d, want %d", c.m, got, c.intent)
		}
		if got := mode.Reads(c.m); got != c.reads {
			t.Errorf("Reads(%d): %t", c.m, got)
		}
		if got := mode.Writes(c.m); got != c.writes {
			t.Errorf("Writes(%d): %t", c.m, got)
		}
	}
}

// P4.2: what fits with the Sup of two fits with both.
func TestWhatFitsWithSupFitsWithBoth(t *testing.T) {
	eachList(3, func(l []int) {
		a, b, c := l[0], l[1], l[2]
		if mode.Fits(c, mode.Sup(a, b)) && !(mode.Fits(c, a) && mode.Fits(c, b)) {
			t.Errorf("%d fits with the Sup of %d and %d, but not with both", c, a, b)
		}
	})
}
