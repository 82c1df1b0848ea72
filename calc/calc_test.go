package calc_test

import (
	"math"
	"slices"
	"testing"

	"latchkey/api"
	"latchkey/calc"
)

var allKinds = []int{
	calc.Add, calc.Sub, calc.Mul, calc.Less, calc.Equal,
	calc.And, calc.Or, calc.Max, calc.Min,
}

type evalCase struct {
	kind int
	l    []int
	want int
}

func checkEval(t *testing.T, cases []evalCase) {
	t.Helper()
	for _, c := range cases {
		got, e := calc.Eval(c.kind, c.l...)
		if got != c.want || e != api.OK {
			t.Errorf("Eval(%d, %v): %d, %d; want %d, OK", c.kind, c.l, got, e, c.want)
		}
	}
}

func TestKindsHaveTheirNumbers(t *testing.T) {
	for i, k := range allKinds {
		if i != k {
			t.Errorf("kind %d has the number %d", i, k)
		}
	}
}

// P1.1, ordinary inputs.
func TestEvalOfSeveral(t *testing.T) {
	checkEval(t, []evalCase{
		{calc.Add, []int{1, 2, 3}, 6},
		{calc.Add, []int{5, -9}, -4},
		{calc.Sub, []int{9, 2, 3}, 4},
		{calc.Sub, []int{2, 9, -3}, -4},
		{calc.Mul, []int{2, 3, 4}, 24},
		{calc.Mul, []int{2, -3, 0}, 0},
		{calc.Mul, []int{-2, -3}, 6},
		{calc.Less, []int{1, 2, 3}, 1},
		{calc.Less, []int{-3, -2, 7}, 1},
		{calc.Less, []int{1, 2, 2}, 0},
		{calc.Less, []int{1, 1, 2}, 0},
		{calc.Less, []int{3, 1, 2}, 0},
		{calc.Less, []int{1, 3, 2}, 0},
		{calc.Equal, []int{4, 4, 4}, 1},
		{calc.Equal, []int{4, 4, 5}, 0},
		{calc.Equal, []int{5, 4, 4}, 0},
		{calc.Equal, []int{4, 5, 4}, 0},
		{calc.And, []int{14, 7, 22}, 6},
		{calc.And, []int{-1, 5}, 5},
		{calc.And, []int{1, 2}, 0},
		{calc.Or, []int{1, 2, 8}, 11},
		{calc.Or, []int{12, 10}, 14},
		{calc.Or, []int{-8, 1}, -7},
		{calc.Max, []int{3, 9, -2}, 9},
		{calc.Max, []int{-3, -9}, -3},
		{calc.Min, []int{3, 9, -2}, -2},
		{calc.Min, []int{9, 3}, 3},
	})
}

// P1.1, one number.
func TestEvalOfOne(t *testing.T) {
	for _, n := range []int{0, 1, -1, 7, -7, math.MaxInt, math.MinInt} {
		l := []int{n}
		checkEval(t, []evalCase{
			{calc.Add, l, n}, {calc.Sub, l, n}, {calc.Mul, l, n},
			{calc.Less, l, 1}, {calc.Equal, l, 1},
			{calc.And, l, n}, {calc.Or, l, n},
			{calc.Max, l, n}, {calc.Min, l, n},
		})
	}
}

// P1.1, no numbers: nil and the empty list are the same (P0.4).
func TestEvalOfNone(t *testing.T) {
	for _, none := range [][]int{nil, {}} {
		checkEval(t, []evalCase{
			{calc.Add, none, 0}, {calc.Sub, none, 0}, {calc.Mul, none, 1},
			{calc.Less, none, 1}, {calc.Equal, none, 1},
			{calc.And, none, -1}, {calc.Or, none, 0},
		})
		for _, k := range []int{calc.Max, calc.Min} {
			if got, e := calc.Eval(k, none...); got != 0 || e != api.ErrRange {
				t.Errorf("Eval(%d) of none: %d, %d; want 0, ErrRange", k, got, e)
			}
		}
	}
}

// P1.1: Add, Sub and Mul run round; the others do not reckon past the ends.
func TestEvalAtTheEnds(t *testing.T) {
	checkEval(t, []evalCase{
		{calc.Add, []int{math.MaxInt, 1}, math.MinInt},
		{calc.Add, []int{math.MinInt, -1}, math.MaxInt},
		{calc.Add, []int{math.MaxInt, math.MaxInt, 2}, 0},
		{calc.Sub, []int{math.MinInt, 1}, math.MaxInt},
		{calc.Sub, []int{math.MaxInt, -1}, math.MinInt},
		{calc.Sub, []int{0, math.MinInt}, math.MinInt},
		{calc.Sub, []int{0, math.MaxInt, math.MaxInt}, 2},
		{calc.Mul, []int{math.MaxInt, 2}, -2},
		{calc.Mul, []int{math.MinInt, -1}, math.MinInt},
		{calc.Mul, []int{math.MinInt, 2}, 0},
		{calc.Less, []int{math.MinInt, math.MaxInt}, 1},
		{calc.Less, []int{math.MaxInt, math.MinInt}, 0},
		{calc.Equal, []int{math.MinInt, math.MaxInt}, 0},
		{calc.And, []int{math.MinInt, math.MaxInt}, 0},
		{calc.Or, []int{math.MinInt, math.MaxInt}, -1},
		{calc.Max, []int{math.MinInt, math.MaxInt}, math.MaxInt},
		{calc.Min, []int{math.MaxInt, math.MinInt}, math.MinInt},
	})
}

// P1.1: what is no kind; nothing stands beside the error (P0.3).
func TestNoKind(t *testing.T) {
	for _, k := range []int{-1, 9, 10, 256, math.MaxInt, math.MinInt} {
		if calc.Known(k) {
			t.Errorf("Known(%d)", k)
		}
		for _, l := range [][]int{nil, {3}, {3, 4, 5}} {
			if got, e := calc.Eval(k, l...); got != 0 || e != api.ErrRange {
				t.Errorf("Eval(%d, %v): %d, %d; want 0, ErrRange", k, l, got, e)
			}
		}
	}
}

func TestKnownAndEvalAgree(t *testing.T) {
	for k := -20; k < 40; k++ {
		_, e := calc.Eval(k, 1, 2)
		if calc.Known(k) != (e == api.OK) || calc.Known(k) != slices.Contains(allKinds, k) {
			t.Errorf("Known(%d): %t, Eval: %d", k, calc.Known(k), e)
		}
	}
}

// P0.4: what is handed in is neither changed, nor read behind its length.
func TestEvalLeavesItsNumbers(t *testing.T) {
	for _, k := range allKinds {
		room := []int{3, -1, 2, 100, -100}
		got, _ := calc.Eval(k, room[:3]...)
		if want, _ := calc.Eval(k, 3, -1, 2); got != want {
			t.Errorf("Eval(%d) with room behind: %d, want %d", k, got, want)
		}
		if !slices.Equal(room, []int{3, -1, 2, 100, -100}) {
			t.Errorf("Eval(%d) changed its numbers: %v", k, room)
		}
	}
}

// P1.1 Wrap, ordinary inputs and n below 0.
func TestWrap(t *testing.T) {
	for _, c := range []struct{ n, m, want int }{
		{7, 5, 2}, {4, 5, 4}, {5, 5, 0}, {0, 5, 0}, {9, 1, 0},
		{-1, 5, 4}, {-5, 5, 0}, {-6, 5, 4}, {-9, 1, 0},
		{math.MaxInt, 2, 1}, {math.MinInt, 2, 0}, {math.MinInt, 3, 1},
		{math.MaxInt, math.MaxInt, 0}, {math.MaxInt - 1, math.MaxInt, math.MaxInt - 1},
		{-1, math.MaxInt, math.MaxInt - 1}, {math.MinInt, math.MaxInt, math.MaxInt - 1},
	} {
		if got := calc.Wrap(c.n, c.m); got != c.want {
			t.Errorf("Wrap(%d, %d): %d, want %d", c.n, c.m, got, c.want)
		}
	}
}

func TestWrapStaysInItsBounds(t *testing.T) {
	for m := 1; m < 12; m++ {
		for n := -40; n <= 40; n++ {
			got := calc.Wrap(n, m)
			if got < 0 || got >= m || (n-got)%m != 0 {
				t.Errorf("Wrap(%d, %d): %d", n, m, got)
			}
		}
	}
}

// P1.1 Wrap of m below 1.
func TestWrapByNothing(t *testing.T) {
	for _, m := range []int{0, -1, -5, math.MinInt} {
		for _, n := range []int{0, 3, -3, math.MaxInt, math.MinInt} {
			if got := calc.Wrap(n, m); got != 0 {
				t.Errorf("Wrap(%d, %d): %d, want 0", n, m, got)
			}
		}
	}
}

// eachOrder hands every order of l to visit.
func eachOrder(l []int, visit func([]int)) {
	var place func(k int)
	place = func(k int) {
		if k == len(l) {
			visit(l)
			return
		}
		for i := k; i < len(l); i++ {
			l[k], l[i] = l[i], l[k]
			place(k + 1)
			l[k], l[i] = l[i], l[k]
		}
	}
	place(0)
}

// P1.2: the order changes nothing, but for Sub and Less.
func TestOrderChangesNothing(t *testing.T) {
	lists := [][]int{
		{1, 2}, {4, 4, 4}, {4, 4, 5}, {5, 4, 5, 4}, {-8, 1, 3, 7, 0},
		{12, 10, -1}, {math.MaxInt, 1, math.MinInt, -1}, {1 << 40, 1 << 40, 3, -5},
	}
	for _, k := range []int{calc.Add, calc.Mul, calc.Equal, calc.And, calc.Or, calc.Max, calc.Min} {
		for _, l := range lists {
			want, wantErr := calc.Eval(k, l...)
			eachOrder(slices.Clone(l), func(turned []int) {
				if got, e := calc.Eval(k, turned...); got != want || e != wantErr {
					t.Errorf("Eval(%d, %v): %d, %d; in the order %v: %d, %d", k, turned, got, e, l, want, wantErr)
				}
			})
		}
	}
}

// P1.2 leaves Sub and Less out: there the order counts.
func TestOrderCountsForSubAndLess(t *testing.T) {
	checkEval(t, []evalCase{
		{calc.Sub, []int{9, 2}, 7}, {calc.Sub, []int{2, 9}, -7},
		{calc.Less, []int{2, 9}, 1}, {calc.Less, []int{9, 2}, 0},
	})
}
