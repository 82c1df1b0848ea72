package undo_test

import (
	"math"
	"slices"
	"testing"

	"latchkey/api"
	"latchkey/plain"
	"latchkey/undo"
)

// Numbers of entries that no log has: just past the ends, such as are within
// them once their upper bits are cut off or their sign is lost, and the ends of
// int.
var noMost = []int{
	0, -1, -2, -7, -api.MaxUndo, -api.MaxUndo - 1,
	api.MaxUndo + 1, api.MaxUndo + 2, 2 * api.MaxUndo, 1 << 10, 1 << 16,
	1<<8 - 1<<16, 1<<16 + 1, 1<<32 + 1, 1<<32 + api.MaxUndo, 1<<63 - 1<<32 + 1,
	math.MaxInt32, math.MinInt32, math.MaxInt, math.MaxInt - 1, math.MinInt, math.MinInt + 1,
}

// Addresses and words that lie far from one another, neighbours among them: no
// difference of two of them that wraps tells their order.
var far = []int{
	math.MinInt, math.MinInt + 1, math.MinInt32 - 1, math.MinInt32, -1 << 16, -2, -1,
	0, 1, 2, 1 << 16, math.MaxInt32, 1 << 32, 1<<32 + 1, math.MaxInt - 1, math.MaxInt,
}

// dice throws numbers that are the same in each run.
type dice uint64

func (d *dice) upTo(n int) int {
	*d = *d*6364136223846793005 + 1442695040888963407
	return int(uint64(*d) >> 33 % uint64(n))
}

// book is a log told in a second way: each entry leads to the one ahead of it,
// so that what is gone from one book is still there in another.
type book struct {
	last *entry
	most int
}

type entry struct {
	at, old, nth int
	ahead        *entry
}

func (b book) length() int {
	if b.last == nil {
		return 0
	}
	return b.last.nth
}

func (b book) full() bool { return b.length() == b.most }

func (b book) push(at, old int) book {
	return book{last: &entry{at: at, old: old, nth: b.length() + 1, ahead: b.last}, most: b.most}
}

func (b book) pop() book { return book{last: b.last.ahead, most: b.most} }

func (b book) clear() book { return book{most: b.most} }

// first goes from the last entry to the eldest one: what an address gets last
// stays.
func (b book) first() []plain.Access {
	words := map[int]int{}
	for e := b.last; e != nil; e = e.ahead {
		words[e.at] = e.old
	}
	var addresses []int
	for at := range words {
		addresses = append(addresses, at)
	}
	slices.Sort(addresses)
	var l []plain.Access
	for _, at := range addresses {
		l = append(l, plain.Access{At: at, Value: words[at]})
	}
	return l
}

// pair is a log and the book that tells of it.
type pair struct {
	log  *undo.Log
	book book
}

func made(t *testing.T, most int) *pair {
	t.Helper()
	l, e := undo.New(most)
	if l == nil || e != api.OK {
		t.Fatalf("P14.1: New(%d): %v, %d; want a log, OK", most, l, e)
	}
	p := &pair{log: l, book: book{most: most}}
	p.check(t)
	return p
}

// check holds all that only looks against the book, twice, as to look turns
// nothing.
func (p *pair) check(t *testing.T) {
	t.Helper()
	want := p.book.first()
	for range 2 {
		p.checkCounts(t)
		if got := p.log.First(); !slices.Equal(got, want) {
			t.Fatalf("P14.1: First: %v; want %v", got, want)
		}
	}
}

func (p *pair) checkCounts(t *testing.T) {
	t.Helper()
	n, room := p.book.length(), p.book.most-p.book.length()
	if got := p.log.Len(); got != n {
		t.Fatalf("P14.1: Len: %d; want %d", got, n)
	}
	if got := p.log.Room(); got != room {
		t.Fatalf("P14.1: Room: %d; want %d", got, room)
	}
	if p.log.Len()+p.log.Room() != p.book.most {
		t.Fatalf("P14.1: Len and Room are not %d", p.book.most)
	}
}

func (p *pair) push(t *testing.T, at, old int) {
	t.Helper()
	want := api.ErrUndo
	if !p.book.full() {
		want = api.OK
		p.book = p.book.push(at, old)
	}
	if e := p.log.Push(at, old); e != want {
		t.Fatalf("P14.1: Push(%d, %d): %d; want %d", at, old, e, want)
	}
	p.checkCounts(t)
}

func (p *pair) pop(t *testing.T) {
	t.Helper()
	var want plain.Access
	there := p.book.last != nil
	if there {
		want = plain.Access{At: p.book.last.at, Value: p.book.last.old}
		p.book = p.book.pop()
	}
	if got, ok := p.log.Pop(); got != want || ok != there {
		t.Fatalf("P14.1: Pop: %v, %v; want %v, %v", got, ok, want, there)
	}
	p.checkCounts(t)
}

func (p *pair) clear(t *testing.T) {
	t.Helper()
	p.log.Clear()
	p.book = p.book.clear()
	p.checkCounts(t)
}

// drain takes all back, the last one first, and asks for more then.
func (p *pair) drain(t *testing.T) {
	t.Helper()
	for p.book.last != nil {
		p.pop(t)
	}
	p.pop(t)
	p.pop(t)
	p.check(t)
}

// spoil writes into all of l, its spare room too.
func spoil(l []plain.Access) {
	l = l[:cap(l)]
	for i := range l {
		l[i] = plain.Access{At: -77, Value: -78}
	}
}

// The chapter's example.
func TestLogOfOne(t *testing.T) {
	l, e := undo.New(1)
	if l == nil || e != api.OK {
		t.Fatalf("P14.1: New(1): %v, %d", l, e)
	}
	if e := l.Push(0, 0); e != api.OK {
		t.Errorf("P14.1: the first Push: %d; want OK", e)
	}
	if e := l.Push(0, 0); e != api.ErrUndo {
		t.Errorf("P14.1: the second Push: %d; want ErrUndo", e)
	}
}

// P14.1: what is answered, told in numbers.
func TestLogTold(t *testing.T) {
	l, _ := undo.New(4)
	if l.Len() != 0 || l.Room() != 4 || len(l.First()) != 0 {
		t.Error("P14.1: an empty log")
	}
	l.Push(7, 70)
	l.Push(3, 30)
	l.Push(7, 71)
	if l.Len() != 3 || l.Room() != 1 {
		t.Errorf("P14.1: Len %d, Room %d; want 3, 1", l.Len(), l.Room())
	}
	want := []plain.Access{{At: 3, Value: 30}, {At: 7, Value: 70}}
	if got := l.First(); !slices.Equal(got, want) {
		t.Errorf("P14.1: First: %v; want %v", got, want)
	}
	for _, want := range []plain.Access{{At: 7, Value: 71}, {At: 3, Value: 30}, {At: 7, Value: 70}} {
		if got, ok := l.Pop(); got != want || !ok {
			t.Errorf("P14.1: Pop: %v, %v; want %v, true", got, ok, want)
		}
	}
	if got, ok := l.Pop(); got != (plain.Access{}) || ok {
		t.Errorf("P14.1: Pop of none: %v, %v", got, ok)
	}
}

// P14.1: logs of the least room, of the most, and of each between: just so many
// entries, no more.
func TestLogOfEachRoom(t *testing.T) {
	for most := 1; most <= api.MaxUndo; most++ {
		p := made(t, most)
		for i := range most {
			p.push(t, i%5, i)
		}
		for range 3 {
			p.push(t, 5, 5)
		}
		p.check(t)
		p.drain(t)
	}
}

// P14.1, wrong inputs: no log stands beside the error (P0.3).
func TestNewOfWrongNumbers(t *testing.T) {
	for _, most := range noMost {
		if l, e := undo.New(most); l != nil || e != api.ErrRange {
			t.Errorf("P14.1: New(%d): %v, %d; want nil, ErrRange", most, l, e)
		}
	}
	for past := range 2000 {
		for _, most := range []int{-past, api.MaxUndo + 1 + past} {
			if l, e := undo.New(most); l != nil || e != api.ErrRange {
				t.Fatalf("P14.1: New(%d): %v, %d; want nil, ErrRange", most, l, e)
			}
		}
	}
}

// P0.2, P0.5: what was refused leaves nothing for the logs behind it.
func TestNewBehindARefusal(t *testing.T) {
	for _, most := range noMost {
		undo.New(most)
		p := made(t, 2)
		p.push(t, 1, 2)
		p.push(t, 1, 3)
		p.push(t, 1, 4)
		p.check(t)
		p.drain(t)
	}
}

// P14.1, P0.2: a full log refuses again and again, whatever is pushed, and is
// then as it was.
func TestPushOfAFullLog(t *testing.T) {
	for most := 1; most <= 40; most++ {
		p := made(t, most)
		for i := range most {
			p.push(t, i/2, 100+i)
		}
		for _, at := range far {
			p.push(t, at, -at)
			p.push(t, at, at)
		}
		for range 3 * api.MaxUndo {
			p.push(t, 0, 1)
		}
		p.check(t)
		p.drain(t)
	}
}

// P14.1: a Pop of a full log makes room for just one Push, at the same place.
func TestPushBehindAPop(t *testing.T) {
	for most := 1; most <= 20; most++ {
		for gone := 1; gone <= most; gone++ {
			p := made(t, most)
			for i := range most {
				p.push(t, i%3, i)
			}
			for range gone {
				p.pop(t)
			}
			p.check(t)
			for i := range gone {
				p.push(t, (i+1)%3, -i)
				p.check(t)
			}
			p.push(t, 9, 9)
			p.check(t)
			p.drain(t)
		}
	}
}

// P14.1: Clear of an empty log, of a full one and of each between; behind it
// there is all the room again.
func TestClear(t *testing.T) {
	for most := 1; most <= 20; most++ {
		for there := 0; there <= most; there++ {
			p := made(t, most)
			for i := range there {
				p.push(t, i%3, i)
			}
			p.clear(t)
			p.check(t)
			p.pop(t)
			p.clear(t)
			p.check(t)
			for i := range most {
				p.push(t, i%2, 50+i)
				p.check(t)
			}
			p.push(t, 9, 9)
			p.check(t)
			p.drain(t)
		}
	}
}

// P14.1: Pop of an empty log finds nothing, however often, and counts for
// nothing.
func TestPopOfAnEmptyLog(t *testing.T) {
	p := made(t, 2)
	for range 3 * api.MaxUndo {
		p.pop(t)
	}
	p.check(t)
	p.push(t, 4, 40)
	p.push(t, 4, 41)
	p.push(t, 4, 42)
	p.check(t)
	p.drain(t)
	for range 100 {
		p.pop(t)
	}
	p.push(t, 5, 50)
	p.check(t)
	p.drain(t)
}

// P14.1: an entry that is all 0 is there, and is told from none by true alone.
func TestEntryOfZeros(t *testing.T) {
	p := made(t, 3)
	p.push(t, 0, 0)
	if got := p.log.First(); !slices.Equal(got, []plain.Access{{}}) {
		t.Errorf("P14.1: First of an entry of zeros: %v", got)
	}
	if got, ok := p.log.Pop(); got != (plain.Access{}) || !ok {
		t.Errorf("P14.1: Pop of an entry of zeros: %v, %v", got, ok)
	}
	if got, ok := p.log.Pop(); got != (plain.Access{}) || ok {
		t.Errorf("P14.1: Pop of none: %v, %v", got, ok)
	}
}

// P14.1: one address again and again, with the same word and with others: each
// is an entry of its own, the eldest is its First.
func TestOneAddressOften(t *testing.T) {
	for _, at := range far {
		for _, words := range [][]int{
			{4, 4}, {4, 5}, {5, 4}, {4, 4, 4}, {4, 5, 4}, {4, 4, 5}, {5, 4, 4}, {0, 1, 0, 1}, {1, 0, 0}, {0, 0, 1},
			{math.MaxInt, math.MinInt}, {math.MinInt, math.MaxInt}, {-1, 0, 1}, {1, 0, -1},
		} {
			p := made(t, len(words))
			for _, old := range words {
				p.push(t, at, old)
				want := []plain.Access{{At: at, Value: words[0]}}
				if got := p.log.First(); !slices.Equal(got, want) {
					t.Fatalf("P14.1: First of %v at %d: %v; want %v", words, at, got, want)
				}
			}
			p.drain(t)
		}
	}
}

// P14.1: any int is an address and a word: the log knows of no heap.
func TestAnyAddressAndWord(t *testing.T) {
	for _, at := range far {
		for _, old := range far {
			p := made(t, 1)
			p.push(t, at, old)
			p.check(t)
			p.drain(t)
		}
	}
}

// P14.1: First is by addresses, rising, each two of them in both orders, and
// all of them whichever comes first.
func TestFirstByAddresses(t *testing.T) {
	for _, a := range far {
		for _, b := range far {
			p := made(t, 3)
			p.push(t, a, 1)
			p.push(t, b, 2)
			p.push(t, a, 3)
			p.check(t)
			p.drain(t)
		}
	}
	for turn := range far {
		for step := 1; step < len(far); step += 2 {
			p := made(t, 3*len(far))
			for i := range 3 * len(far) {
				p.push(t, far[(turn+i*step)%len(far)], i)
			}
			p.check(t)
			if got := p.log.First(); len(got) != len(far) {
				t.Fatalf("P14.1: First tells of %d addresses; want %d", len(got), len(far))
			}
			p.drain(t)
		}
	}
}

// P14.1: behind each Pop First says what it said ahead of the Push: of the
// addresses that are left.
func TestFirstBehindPops(t *testing.T) {
	var throws dice = 14
	for range 200 {
		p := made(t, 1+throws.upTo(60))
		said := [][]plain.Access{p.log.First()}
		for !p.book.full() {
			p.push(t, throws.upTo(12)-6, throws.upTo(50))
			said = append(said, p.log.First())
		}
		for p.book.last != nil {
			p.pop(t)
			if got, want := p.log.First(), said[p.log.Len()]; !slices.Equal(got, want) {
				t.Fatalf("P14.1: First behind a Pop: %v; it was %v", got, want)
			}
		}
	}
}

// P14.1: all rows of some calls, of logs that are soon full.
func TestAllShortRows(t *testing.T) {
	type row []func(p *pair)
	calls := row{
		func(p *pair) { p.push(t, 1, 1) },
		func(p *pair) { p.push(t, 1, 2) },
		func(p *pair) { p.push(t, 0, 3) },
		func(p *pair) { p.pop(t) },
		func(p *pair) { p.clear(t) },
	}
	var grow func(most int, r row)
	grow = func(most int, r row) {
		p := made(t, most)
		for _, call := range r {
			call(p)
		}
		p.check(t)
		p.drain(t)
		if len(r) == 6 {
			return
		}
		for _, call := range calls {
			grow(most, append(slices.Clone(r), call))
		}
	}
	for most := 1; most <= 4; most++ {
		grow(most, nil)
	}
}

// P14.1: long rows of calls in no order, held against the book all the way.
func TestLongRows(t *testing.T) {
	var throws dice = 41
	for range 60 {
		p := made(t, 1+throws.upTo(80))
		addresses, shift := 1+throws.upTo(30), throws.upTo(30)
		// Of 20 calls so many are no Push: some logs stay full, some empty.
		others := 3 + throws.upTo(14)
		for range 500 {
			switch n := throws.upTo(20); {
			case n == 0 && throws.upTo(10) == 0:
				p.clear(t)
			case n < others:
				p.pop(t)
			default:
				p.push(t, throws.upTo(addresses)-shift, throws.upTo(40)-20)
			}
			p.check(t)
		}
		p.drain(t)
	}
}

// P0.5: each log keeps its own, whatever is pushed to the others, popped or
// cleared there.
func TestLogsAreApart(t *testing.T) {
	var throws dice = 8
	for range 30 {
		var all []*pair
		for range 300 {
			if len(all) == 0 || throws.upTo(40) == 0 {
				all = append(all, made(t, 1+throws.upTo(12)))
			}
			p := all[throws.upTo(len(all))]
			switch n := throws.upTo(12); {
			case n == 0:
				p.clear(t)
			case n < 5:
				p.pop(t)
			default:
				p.push(t, throws.upTo(4), throws.upTo(9))
			}
			for _, q := range all {
				q.check(t)
			}
		}
		for _, p := range all {
			p.drain(t)
		}
	}
}

// P0.4: what First answers is new memory each time: what is written into it, or
// behind it, no later answer shows, and no earlier one.
func TestFirstIsNewMemory(t *testing.T) {
	for there := 0; there <= 33; there++ {
		p := made(t, 40)
		for i := range there {
			p.push(t, i%7, i)
		}
		kept, other := p.log.First(), p.log.First()
		spoil(other)
		_ = append(other, plain.Access{At: 5, Value: 5})
		if want := p.book.first(); !slices.Equal(kept, want) {
			t.Fatalf("P0.4: First behind a change of another: %v; want %v", kept, want)
		}
		p.check(t)
		p.push(t, 90, 91)
		p.check(t)
		p.pop(t)
		spoil(kept)
		p.check(t)
		p.drain(t)
	}
}

// P0.4: an answer of First stays as it was, whatever comes behind it.
func TestFirstStays(t *testing.T) {
	p := made(t, 10)
	for i := range 10 {
		p.push(t, 10-i, i)
	}
	got, want := p.log.First(), p.book.first()
	p.drain(t)
	for i := range 10 {
		p.push(t, 50+i, 60+i)
	}
	p.clear(t)
	p.push(t, 1, 1)
	if !slices.Equal(got, want) {
		t.Errorf("P0.4: an answer of First is %v; it was %v", got, want)
	}
}

// takeBack pops all, each word back to its address, and answers what there is
// at last.
func takeBack(l *undo.Log, words map[int]int) map[int]int {
	for x, ok := l.Pop(); ok; x, ok = l.Pop() {
		words[x.At] = x.Value
	}
	return words
}

func checkAtLast(t *testing.T, words map[int]int, first []plain.Access) {
	t.Helper()
	for _, x := range first {
		if v, ok := words[x.At]; !ok || v != x.Value {
			t.Fatalf("P14.2: at last %d is %d, %v; First says %d", x.At, v, ok, x.Value)
		}
	}
	if len(words) != len(first) {
		t.Fatalf("P14.2: %d addresses were taken back; First tells of %d", len(words), len(first))
	}
}

// P14.2: taken back one by one, each address is as its First says, whatever was
// pushed.
func TestTakenBackOneByOne(t *testing.T) {
	var throws dice = 2
	for range 500 {
		p := made(t, 1+throws.upTo(100))
		addresses := 1 + throws.upTo(len(far))
		for !p.book.full() && throws.upTo(60) > 0 {
			if throws.upTo(5) == 0 {
				p.pop(t)
			}
			p.push(t, far[throws.upTo(addresses)], throws.upTo(9))
		}
		first := p.log.First()
		checkAtLast(t, takeBack(p.log, map[int]int{}), first)
	}
}

// P14.2: of a heap whose words are pushed ahead of each write, all is in the end
// as it was, and First tells the words ahead of the first writes.
func TestHeapTakenBack(t *testing.T) {
	var throws dice = 142
	for range 300 {
		heap := make([]int, 1+throws.upTo(30))
		for i := range heap {
			heap[i] = throws.upTo(1000)
		}
		before := slices.Clone(heap)
		l, e := undo.New(api.MaxUndo)
		if e != api.OK {
			t.Fatalf("P14.1: New: %d", e)
		}
		for range throws.upTo(200) {
			at := throws.upTo(len(heap))
			if e := l.Push(at, heap[at]); e != api.OK {
				t.Fatalf("P14.1: Push: %d", e)
			}
			heap[at] = throws.upTo(1000)
		}
		for _, x := range l.First() {
			if before[x.At] != x.Value {
				t.Fatalf("P14.2: First says that %d was %d; it was %d", x.At, x.Value, before[x.At])
			}
		}
		for x, ok := l.Pop(); ok; x, ok = l.Pop() {
			heap[x.At] = x.Value
		}
		if !slices.Equal(heap, before) {
			t.Fatalf("P14.2: at last the heap is %v; it was %v", heap, before)
		}
	}
}

// P14.1: the greatest log, of one address and of as many as there are entries,
// filled and emptied often.
func TestGreatestLog(t *testing.T) {
	for _, addresses := range []int{1, 2, 999, api.MaxUndo} {
		p := made(t, api.MaxUndo)
		for range 20 {
			for i := range api.MaxUndo {
				p.push(t, (addresses-i)%addresses, i)
			}
			p.push(t, 1, 1)
			p.check(t)
			p.drain(t)
		}
	}
}
