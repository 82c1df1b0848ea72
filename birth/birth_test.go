package birth_test

import (
	"math"
	"slices"
	"testing"

	"latchkey/api"
	"latchkey/birth"
)

// Numbers of tickets that no desk has: just past the ends, such as are within
// them once their upper bits are cut off or their sign is lost, and the ends of
// int.
var noMost = []int{
	0, -1, -2, -7, -api.MaxTickets, -api.MaxTickets - 1,
	api.MaxTickets + 1, api.MaxTickets + 2, 2 * api.MaxTickets, 1 << 14, 1 << 16,
	1<<8 - 1<<16, 1<<16 + 1, 1<<32 + 1, 1<<32 + api.MaxTickets, 1<<63 - 1<<32 + 1,
	math.MaxInt32, math.MinInt32, math.MaxInt, math.MaxInt - 1, math.MinInt, math.MinInt + 1,
}

// dice throws numbers that are the same in each run.
type dice uint64

func (d *dice) upTo(n int) int {
	*d = *d*6364136223846793005 + 1442695040888963407
	return int(uint64(*d) >> 33 % uint64(n))
}

func made(t *testing.T, most int) *birth.Desk {
	t.Helper()
	d, e := birth.New(most)
	if d == nil || e != api.OK {
		t.Fatalf("P13.1: New(%d): %v, %d; want a desk, OK", most, d, e)
	}
	return d
}

func checkGiven(t *testing.T, d *birth.Desk, want int) {
	t.Helper()
	// Twice, as to look gives nothing.
	for range 2 {
		if got := d.Given(); got != want {
			t.Fatalf("P13.1: Given: %d; want %d", got, want)
		}
	}
}

func checkNext(t *testing.T, d *birth.Desk, want int) {
	t.Helper()
	if n, e := d.Next(); n != want || e != api.OK {
		t.Fatalf("P13.1: Next: %d, %d; want %d, OK", n, e, want)
	}
}

func checkNoMore(t *testing.T, d *birth.Desk) {
	t.Helper()
	if n, e := d.Next(); n != 0 || e != api.ErrTickets {
		t.Fatalf("P13.1: Next behind the last: %d, %d; want 0, ErrTickets", n, e)
	}
}

// play takes all tickets of a desk of most, and asks for more then.
func play(t *testing.T, most int) {
	t.Helper()
	d := made(t, most)
	checkGiven(t, d, 0)
	for k := 1; k <= most; k++ {
		checkNext(t, d, k)
		checkGiven(t, d, k)
	}
	for range 50 {
		checkNoMore(t, d)
		checkGiven(t, d, most)
	}
}

// The chapter's example.
func TestDeskOfOne(t *testing.T) {
	d := made(t, 1)
	checkNext(t, d, 1)
	checkNoMore(t, d)
}

// P13.1: New of the least, of the greatest and of what lies between.
func TestDeskPlayedToItsEnd(t *testing.T) {
	for most := 1; most <= 300; most++ {
		play(t, most)
	}
	for _, most := range []int{1000, 4096, api.MaxTickets - 1, api.MaxTickets} {
		play(t, most)
	}
}

func TestDeskOfEachNumber(t *testing.T) {
	for most := 1; most <= api.MaxTickets; most++ {
		d := made(t, most)
		checkGiven(t, d, 0)
		checkNext(t, d, 1)
		checkGiven(t, d, 1)
	}
}

// P13.1, wrong inputs: no desk stands beside the error (P0.3).
func TestNewOfWrongNumbers(t *testing.T) {
	for _, most := range noMost {
		if d, e := birth.New(most); d != nil || e != api.ErrRange {
			t.Errorf("P13.1: New(%d): %v, %d; want nil, ErrRange", most, d, e)
		}
	}
	for far := range 2000 {
		for _, most := range []int{-far, api.MaxTickets + 1 + far} {
			if d, e := birth.New(most); d != nil || e != api.ErrRange {
				t.Fatalf("P13.1: New(%d): %v, %d; want nil, ErrRange", most, d, e)
			}
		}
	}
}

// P0.2, P0.5: what was refused leaves nothing for the desks behind it.
func TestNewBehindARefusal(t *testing.T) {
	for _, most := range noMost {
		birth.New(most)
		play(t, 3)
	}
}

// P13.1: behind the last ticket nothing comes any more, however often it is
// asked, and what found none counts for nothing.
func TestNoMoreStays(t *testing.T) {
	d := made(t, 2)
	checkNext(t, d, 1)
	checkNext(t, d, 2)
	for range 3 * api.MaxTickets {
		checkNoMore(t, d)
	}
	checkGiven(t, d, 2)
}

// P13.1, P0.5: each desk counts by itself, whatever the others give.
func TestDesksAreApart(t *testing.T) {
	one, other := made(t, 3), made(t, 2)
	checkNext(t, one, 1)
	checkNext(t, one, 2)
	checkGiven(t, other, 0)
	checkNext(t, other, 1)
	checkGiven(t, one, 2)
	checkGiven(t, other, 1)
	checkNext(t, other, 2)
	checkNoMore(t, other)
	checkGiven(t, one, 2)
	checkNext(t, one, 3)
	checkNoMore(t, one)
	checkGiven(t, other, 2)

	late := made(t, 1)
	checkGiven(t, late, 0)
	checkNext(t, late, 1)
	checkNoMore(t, late)
	checkNoMore(t, one)
	checkGiven(t, one, 3)
	checkGiven(t, other, 2)
}

// P13.1: many desks in turns that no order rules, each held against its own
// count.
func TestManyDesksInAnyTurn(t *testing.T) {
	var throws dice = 13
	for range 100 {
		var desks []*birth.Desk
		var most, given []int
		for range 400 {
			if len(desks) == 0 || throws.upTo(20) == 0 {
				most = append(most, 1+throws.upTo(30))
				given = append(given, 0)
				desks = append(desks, made(t, most[len(most)-1]))
			}
			i := throws.upTo(len(desks))
			if given[i] == most[i] {
				checkNoMore(t, desks[i])
			} else {
				given[i]++
				checkNext(t, desks[i], given[i])
			}
			for j, d := range desks {
				checkGiven(t, d, given[j])
			}
		}
	}
}

// P13.2: of as many calls as one likes, no two that give a ticket give the same
// one, and there are just so many that do.
func TestNoTicketTwice(t *testing.T) {
	for _, most := range []int{1, 2, 3, 64, 255, 256, 257, 1000, api.MaxTickets} {
		d := made(t, most)
		seen := map[int]int{}
		for range 3*most + 5 {
			n, e := d.Next()
			if e != api.OK {
				continue
			}
			seen[n]++
			if seen[n] > 1 {
				t.Fatalf("P13.2: the ticket %d of %d is given twice", n, most)
			}
		}
		if len(seen) != most || d.Given() != most {
			t.Errorf("P13.2: %d tickets of %d, Given %d", len(seen), most, d.Given())
		}
	}
}

// P13.2: the tickets rise, so that Least of those given is always the first.
func TestFirstTicketStaysTheLeast(t *testing.T) {
	d := made(t, 500)
	var l []int
	for range 500 {
		n, e := d.Next()
		if e != api.OK || len(l) > 0 && n <= l[len(l)-1] {
			t.Fatalf("P13.2: %d, %d behind %v", n, e, l)
		}
		l = append(l, n)
		if least, ok := birth.Least(l...); least != 1 || !ok {
			t.Fatalf("P13.1: Least of the tickets given: %d, %v; want 1, true", least, ok)
		}
	}
}

func checkLeast(t *testing.T, want int, l ...int) {
	t.Helper()
	if n, ok := birth.Least(l...); n != want || !ok {
		t.Errorf("P13.1: Least(%v): %d, %v; want %d, true", l, n, ok, want)
	}
}

// P13.1: of none; nil and the empty list are the same (P0.4), whatever lies
// behind it.
func TestLeastOfNone(t *testing.T) {
	room := []int{4, -9}
	for _, none := range [][]int{nil, {}, room[:0], room[2:]} {
		if n, ok := birth.Least(none...); n != 0 || ok {
			t.Errorf("P13.1: Least of none: %d, %v; want 0, false", n, ok)
		}
	}
	if n, ok := birth.Least(); n != 0 || ok {
		t.Errorf("P13.1: Least(): %d, %v; want 0, false", n, ok)
	}
}

func TestLeastOfOne(t *testing.T) {
	for _, n := range append([]int{5, 7, -5, api.MaxTickets}, noMost...) {
		checkLeast(t, n, n)
	}
}

func TestLeastOfSeveral(t *testing.T) {
	checkLeast(t, 1, 1, 2, 3)
	checkLeast(t, 1, 3, 2, 1)
	checkLeast(t, 1, 2, 1, 3)
	checkLeast(t, 4, 4, 4)
	checkLeast(t, 4, 9, 4, 9, 4)
	checkLeast(t, 0, 0, 7)
	checkLeast(t, 0, 7, 0)
	checkLeast(t, -2, 3, -2, 9)
	checkLeast(t, -9, -2, -9, -3)
	checkLeast(t, -1, 0, -1)
	checkLeast(t, -1, -1, 0, 1)
	checkLeast(t, 1<<32, 1<<32, 1<<33, 1<<32+1)
	checkLeast(t, math.MinInt, math.MaxInt, math.MinInt)
	checkLeast(t, math.MinInt, math.MinInt, math.MaxInt)
	checkLeast(t, math.MinInt, math.MinInt+1, math.MinInt, math.MinInt)
	checkLeast(t, math.MaxInt, math.MaxInt, math.MaxInt)
	checkLeast(t, math.MaxInt-1, math.MaxInt, math.MaxInt-1)
}

// leastBySorting finds the least in a way of its own.
func leastBySorting(l []int) int {
	sorted := slices.Clone(l)
	slices.Sort(sorted)
	return sorted[0]
}

// P13.1: all lists of up to five numbers out of some, so that the least stands
// at each place, alone and several times.
func TestLeastOfAllShortLists(t *testing.T) {
	few := []int{math.MinInt, -1, 0, 1, 2, math.MaxInt}
	var grow func(l []int)
	grow = func(l []int) {
		if len(l) > 0 {
			checkLeast(t, leastBySorting(l), l...)
		}
		if len(l) == 5 {
			return
		}
		for _, n := range few {
			grow(append(slices.Clone(l), n))
		}
	}
	grow(nil)
}

// P13.1: the least at each place of a long list.
func TestLeastAtEachPlace(t *testing.T) {
	for length := 1; length <= 70; length++ {
		for at := range length {
			l := make([]int, length)
			for i := range l {
				l[i] = 100 + (i*7)%11
			}
			l[at] = 99
			checkLeast(t, 99, l...)
		}
	}
}

func TestLeastOfLongLists(t *testing.T) {
	var throws dice = 31
	for range 300 {
		l := make([]int, 1+throws.upTo(2000))
		for i := range l {
			l[i] = throws.upTo(1<<20) - 1<<19
		}
		checkLeast(t, leastBySorting(l), l...)
	}
	great := make([]int, 1<<21)
	for i := range great {
		great[i] = len(great) - i
	}
	checkLeast(t, 1, great...)
}

// P0.4: what is handed in is not changed, and what lies behind its length is
// neither read nor written.
func TestLeastLeavesItsNumbers(t *testing.T) {
	room := []int{3, -1, 2, -1, -100, 100}
	for length := range len(room) {
		before := slices.Clone(room)
		n, ok := birth.Least(room[:length]...)
		fresh, freshOk := birth.Least(slices.Clone(room[:length])...)
		if n != fresh || ok != freshOk {
			t.Errorf("P0.4: Least with room behind: %d, %v; want %d, %v", n, ok, fresh, freshOk)
		}
		if !slices.Equal(room, before) {
			t.Errorf("P0.4: Least changed its numbers: %v; they were %v", room, before)
		}
	}
	checkLeast(t, -1, room[:4]...)
}

// P0.5: Least hangs on its numbers alone, and the desks not on it.
func TestLeastKeepsNothing(t *testing.T) {
	d := made(t, 2)
	checkLeast(t, -8, 4, -8)
	checkLeast(t, 9, 9)
	checkNext(t, d, 1)
	birth.Least()
	checkLeast(t, 9, 9)
	checkNext(t, d, 2)
	checkGiven(t, d, 2)
}
