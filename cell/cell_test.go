package cell_test

import (
	"math"
	"slices"
	"testing"

	"latchkey/api"
	"latchkey/cell"
)

// Words that none of the arrays made here has, whatever their length.
var noWords = []int{-1, -8, api.MaxCells, math.MaxInt, math.MinInt}

func made(t *testing.T, n int) *cell.Cells {
	t.Helper()
	c, e := cell.New(n)
	if c == nil || e != api.OK {
		t.Fatalf("New(%d): %v, %d; want an object, OK", n, c, e)
	}
	return c
}

func filled(t *testing.T, words ...int) *cell.Cells {
	t.Helper()
	c := made(t, len(words))
	for a, v := range words {
		if e := c.Store(a, v); e != api.OK {
			t.Fatalf("Store(%d, %d): %d", a, v, e)
		}
	}
	return c
}

func checkWords(t *testing.T, c *cell.Cells, want ...int) {
	t.Helper()
	got := make([]int, c.Len())
	for a := range got {
		got[a] = c.Peek(a)
	}
	if !slices.Equal(got, want) {
		t.Errorf("the words are %v; want %v", got, want)
	}
}

func checkCount(t *testing.T, c *cell.Cells, want int) {
	t.Helper()
	if got := c.Count(); got != want {
		t.Errorf("Count: %d; want %d", got, want)
	}
}

// bytesOf is reckoned by division, so that it doesn't lean on the shifts that
// it is held against.
func bytesOf(v int) [8]int {
	var l [8]int
	rest := uint64(v)
	for k := range l {
		l[k] = int(rest % 256)
		rest /= 256
	}
	return l
}

// P2.1, New.
func TestNewHasWordsAllZero(t *testing.T) {
	for _, n := range []int{0, 1, 2, 7, api.MaxCells - 1, api.MaxCells} {
		c := made(t, n)
		if c.Len() != n {
			t.Errorf("New(%d): Len %d", n, c.Len())
		}
		checkCount(t, c, 0)
		for a := range n {
			if v, e := c.Load(a); v != 0 || e != api.OK {
				t.Fatalf("New(%d): Load(%d): %d, %d; want 0, OK", n, a, v, e)
			}
		}
		if _, e := c.Load(n); e != api.ErrRange {
			t.Errorf("New(%d): Load(%d): %d; want ErrRange", n, n, e)
		}
	}
}

func TestNewOfWrongNumbers(t *testing.T) {
	for _, n := range []int{-1, api.MaxCells + 1, math.MinInt, math.MaxInt} {
		if c, e := cell.New(n); c != nil || e != api.ErrRange {
			t.Errorf("New(%d): %v, %d; want nil, ErrRange", n, c, e)
		}
	}
}

func TestLastWordOfTheLargest(t *testing.T) {
	c := made(t, api.MaxCells)
	last := api.MaxCells - 1
	if e := c.Store(last, 9); e != api.OK {
		t.Errorf("Store(%d, 9): %d", last, e)
	}
	if v, e := c.Load(last); v != 9 || e != api.OK {
		t.Errorf("Load(%d): %d, %d; want 9, OK", last, v, e)
	}
}

// P0.5: one object doesn't show what is written into another one.
func TestObjectsAreApart(t *testing.T) {
	one, other := filled(t, 1, 2), filled(t, 3, 4)
	one.Store(0, 7)
	other.StoreByte(1, 0, 8)
	checkWords(t, one, 7, 2)
	checkWords(t, other, 3, 8)
	checkCount(t, one, 3)
	checkCount(t, other, 3)
}

// P2.1, Load and Store.
func TestLoadWhatWasStored(t *testing.T) {
	c := made(t, 3)
	for _, v := range []int{5, -5, 0, 1, -1, math.MaxInt, math.MinInt} {
		for a := range 3 {
			if e := c.Store(a, v); e != api.OK {
				t.Errorf("Store(%d, %d): %d", a, v, e)
			}
			if got, e := c.Load(a); got != v || e != api.OK {
				t.Errorf("Load(%d): %d, %d; want %d, OK", a, got, e, v)
			}
		}
	}
}

func TestStoreTouchesOneWord(t *testing.T) {
	c := filled(t, 1, 2, 3)
	c.Store(1, 20)
	checkWords(t, c, 1, 20, 3)
	c.Store(0, 10)
	checkWords(t, c, 10, 20, 3)
	c.Store(2, 30)
	checkWords(t, c, 10, 20, 30)
}

// P2.1, Swap.
func TestSwap(t *testing.T) {
	cases := []struct {
		word, old, v int
		swapped      bool
		want         int
	}{
		{0, 0, 7, true, 7},
		{7, 7, 7, true, 7},
		{7, 7, 0, true, 0},
		{7, 8, 9, false, 7},
		{7, 9, 7, false, 7},
		{7, 8, 8, false, 7},
		{-7, 7, 1, false, -7},
		{-7, -7, 1, true, 1},
		{0, 256, 1, false, 0},
		{math.MinInt, math.MinInt, math.MaxInt, true, math.MaxInt},
		{math.MinInt, math.MaxInt, 0, false, math.MinInt},
	}
	for _, x := range cases {
		c := filled(t, 0, x.word, 7)
		ok, e := c.Swap(1, x.old, x.v)
		if ok != x.swapped || e != api.OK {
			t.Errorf("Swap(1, %d, %d) of %d: %v, %d; want %v, OK", x.old, x.v, x.word, ok, e, x.swapped)
		}
		checkWords(t, c, 0, x.want, 7)
	}
}

// P2.1, Add.
func TestAdd(t *testing.T) {
	cases := []struct{ word, n, want int }{
		{0, 0, 0},
		{0, 1, 1},
		{5, 7, 12},
		{5, -7, -2},
		{-5, 5, 0},
		{math.MaxInt, 0, math.MaxInt},
		{math.MaxInt, 1, math.MinInt},
		{math.MinInt, -1, math.MaxInt},
		{math.MaxInt, math.MaxInt, -2},
		{math.MinInt, math.MinInt, 0},
		{math.MaxInt, math.MinInt, -1},
	}
	for _, x := range cases {
		c := filled(t, 1, x.word, 3)
		got, e := c.Add(1, x.n)
		if got != x.want || e != api.OK {
			t.Errorf("Add(1, %d) to %d: %d, %d; want %d, OK", x.n, x.word, got, e, x.want)
		}
		checkWords(t, c, 1, x.want, 3)
	}
}

// The chapter's example.
func TestSecondByteIs256(t *testing.T) {
	c := made(t, 1)
	if e := c.StoreByte(0, 1, 1); e != api.OK {
		t.Errorf("StoreByte(0, 1, 1): %d", e)
	}
	if v, e := c.Load(0); v != 256 || e != api.OK {
		t.Errorf("Load(0): %d, %d; want 256, OK", v, e)
	}
}

// P2.1, LoadByte.
func TestLoadByte(t *testing.T) {
	words := []int{
		0, 1, -1, 255, 256, -256, 0x0102030405060708, -0x0102030405060708,
		math.MaxInt, math.MinInt,
	}
	c := filled(t, words...)
	for a, v := range words {
		for k, want := range bytesOf(v) {
			if b, e := c.LoadByte(a, k); b != want || e != api.OK {
				t.Errorf("LoadByte(%d, %d) of %d: %d, %d; want %d, OK", a, k, v, b, e, want)
			}
		}
	}
	checkWords(t, c, words...)
}

func TestLoadByteWrittenOut(t *testing.T) {
	c := filled(t, 0x0102030405060708, -2)
	for a, want := range [][8]int{
		{8, 7, 6, 5, 4, 3, 2, 1},
		{254, 255, 255, 255, 255, 255, 255, 255},
	} {
		for k, b := range want {
			if got, e := c.LoadByte(a, k); got != b || e != api.OK {
				t.Errorf("LoadByte(%d, %d): %d, %d; want %d, OK", a, k, got, e, b)
			}
		}
	}
}

// P2.1, StoreByte: it sets and clears, and leaves the other bytes be.
func TestStoreByte(t *testing.T) {
	for _, v := range []int{0, -1, 0x0102030405060708, math.MaxInt, math.MinInt} {
		for k := range 8 {
			for _, b := range []int{0, 1, 127, 128, 255} {
				c := filled(t, v, v, v)
				if e := c.StoreByte(1, k, b); e != api.OK {
					t.Errorf("StoreByte(1, %d, %d): %d", k, b, e)
				}
				want := bytesOf(v)
				want[k] = b
				if got := bytesOf(c.Peek(1)); got != want {
					t.Errorf("StoreByte(1, %d, %d) in %d: %v; want %v", k, b, v, got, want)
				}
				if c.Peek(0) != v || c.Peek(2) != v {
					t.Errorf("StoreByte(1, %d, %d) changed another word", k, b)
				}
			}
		}
	}
}

func TestEighthByteHasTheSign(t *testing.T) {
	c := made(t, 1)
	for _, x := range []struct{ b, want int }{
		{128, math.MinInt},
		{255, -1 << 56},
		{127, 127 << 56},
		{0, 0},
	} {
		if e := c.StoreByte(0, 7, x.b); e != api.OK {
			t.Errorf("StoreByte(0, 7, %d): %d", x.b, e)
		}
		checkWords(t, c, x.want)
		if b, e := c.LoadByte(0, 7); b != x.b || e != api.OK {
			t.Errorf("LoadByte(0, 7): %d, %d; want %d, OK", b, e, x.b)
		}
	}
}

// P2.1, P0.3, wrong inputs: what is refused changes no word, and counts one.
func TestNoSuchWord(t *testing.T) {
	c := filled(t, 11, 12, 13)
	n := c.Count()
	for _, a := range append([]int{3}, noWords...) {
		if v, e := c.Load(a); v != 0 || e != api.ErrRange {
			t.Errorf("Load(%d): %d, %d; want 0, ErrRange", a, v, e)
		}
		if e := c.Store(a, 1); e != api.ErrRange {
			t.Errorf("Store(%d, 1): %d; want ErrRange", a, e)
		}
		if ok, e := c.Swap(a, 0, 1); ok || e != api.ErrRange {
			t.Errorf("Swap(%d, 0, 1): %v, %d; want false, ErrRange", a, ok, e)
		}
		if v, e := c.Add(a, 5); v != 0 || e != api.ErrRange {
			t.Errorf("Add(%d, 5): %d, %d; want 0, ErrRange", a, v, e)
		}
		if b, e := c.LoadByte(a, 0); b != 0 || e != api.ErrRange {
			t.Errorf("LoadByte(%d, 0): %d, %d; want 0, ErrRange", a, b, e)
		}
		if e := c.StoreByte(a, 0, 1); e != api.ErrRange {
			t.Errorf("StoreByte(%d, 0, 1): %d; want ErrRange", a, e)
		}
		n += 6
		checkCount(t, c, n)
		if v := c.Peek(a); v != 0 {
			t.Errorf("Peek(%d): %d; want 0", a, v)
		}
		checkCount(t, c, n)
	}
	checkWords(t, c, 11, 12, 13)
}

func TestNoWordsAtAll(t *testing.T) {
	c := made(t, 0)
	if v, e := c.Load(0); v != 0 || e != api.ErrRange {
		t.Errorf("Load(0): %d, %d; want 0, ErrRange", v, e)
	}
	if e := c.Store(0, 1); e != api.ErrRange {
		t.Errorf("Store(0, 1): %d; want ErrRange", e)
	}
	if v := c.Peek(0); v != 0 || c.Len() != 0 {
		t.Errorf("Peek(0) %d, Len %d; want 0, 0", v, c.Len())
	}
	checkCount(t, c, 2)
}

func TestNoSuchByte(t *testing.T) {
	c := filled(t, -1, 0x0102030405060708)
	n := c.Count()
	for _, k := range []int{-1, -8, 8, 9, 64, math.MaxInt, math.MinInt, math.MinInt / 8} {
		if b, e := c.LoadByte(0, k); b != 0 || e != api.ErrRange {
			t.Errorf("LoadByte(0, %d): %d, %d; want 0, ErrRange", k, b, e)
		}
		if e := c.StoreByte(1, k, 0); e != api.ErrRange {
			t.Errorf("StoreByte(1, %d, 0): %d; want ErrRange", k, e)
		}
		n += 2
		checkCount(t, c, n)
	}
	checkWords(t, c, -1, 0x0102030405060708)
}

func TestStoreByteOfWhatIsNoByte(t *testing.T) {
	c := filled(t, 7, -1)
	n := c.Count()
	for _, b := range []int{-1, 256, 257, 512, math.MaxInt, math.MinInt} {
		for k := range 8 {
			if e := c.StoreByte(0, k, b); e != api.ErrRange {
				t.Errorf("StoreByte(0, %d, %d): %d; want ErrRange", k, b, e)
			}
			n++
			checkCount(t, c, n)
		}
	}
	checkWords(t, c, 7, -1)
}

func TestAllWrongAtOnceCountsOne(t *testing.T) {
	c := filled(t, 7)
	if e := c.StoreByte(-1, 8, 256); e != api.ErrRange {
		t.Errorf("StoreByte(-1, 8, 256): %d; want ErrRange", e)
	}
	if b, e := c.LoadByte(1, -1); b != 0 || e != api.ErrRange {
		t.Errorf("LoadByte(1, -1): %d, %d; want 0, ErrRange", b, e)
	}
	checkCount(t, c, 3)
	checkWords(t, c, 7)
}

// P2.1, Count.
func TestEachOfTheSixCountsOne(t *testing.T) {
	c := made(t, 1)
	calls := []func(){
		func() { c.Load(0) },
		func() { c.Store(0, 5) },
		func() { c.Swap(0, 5, 6) },
		func() { c.Swap(0, 5, 7) },
		func() { c.Add(0, 0) },
		func() { c.LoadByte(0, 7) },
		func() { c.StoreByte(0, 7, 1) },
	}
	for i, call := range calls {
		call()
		checkCount(t, c, i+1)
	}
}

func TestLookingCountsNothing(t *testing.T) {
	c := filled(t, 4, 5)
	for range 3 {
		if c.Peek(0) != 4 || c.Peek(1) != 5 || c.Peek(2) != 0 || c.Peek(-1) != 0 {
			t.Error("Peek is not the word")
		}
		if c.Len() != 2 {
			t.Errorf("Len: %d; want 2", c.Len())
		}
		checkCount(t, c, 2)
	}
}

// P2.2: whichever call wrote last, each byte is what it wrote.
func TestWordIsWhatWasWrittenLast(t *testing.T) {
	c := filled(t, 0x1111111111111111, 0x2222222222222222)
	c.StoreByte(0, 3, 0xab)
	checkWords(t, c, 0x11111111ab111111, 0x2222222222222222)
	c.StoreByte(0, 3, 0xcd)
	checkWords(t, c, 0x11111111cd111111, 0x2222222222222222)
	c.Add(0, 1)
	checkWords(t, c, 0x11111111cd111112, 0x2222222222222222)
	c.Swap(0, 0, 5)
	checkWords(t, c, 0x11111111cd111112, 0x2222222222222222)
	c.Swap(0, 0x11111111cd111112, 0x10)
	checkWords(t, c, 0x10, 0x2222222222222222)
	c.StoreByte(0, 0, 0xff)
	c.Add(0, 1)
	checkWords(t, c, 0x100, 0x2222222222222222)
	c.Store(0, -1)
	checkWords(t, c, -1, 0x2222222222222222)
	c.StoreByte(0, 7, 0x7f)
	checkWords(t, c, math.MaxInt, 0x2222222222222222)
}

func TestWordBuiltOfItsBytes(t *testing.T) {
	for _, v := range []int{0, 1, -1, 0x0102030405060708, -0x0102030405060708, math.MaxInt, math.MinInt} {
		rising, falling := made(t, 1), filled(t, ^v)
		l := bytesOf(v)
		for k := range l {
			rising.StoreByte(0, k, l[k])
			falling.StoreByte(0, 7-k, l[7-k])
		}
		checkWords(t, rising, v)
		checkWords(t, falling, v)
	}
}
