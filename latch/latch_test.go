package latch_test

import (
	"math"
	"math/rand"
	"slices"
	"testing"

	"latchkey/api"
	"latchkey/cell"
	"latchkey/latch"
	"latchkey/shape"
)

// The heap of these tests: 24 words, the nodes 0 and 1 regions, 2 to 5
// objects, 6 to 13 stripes, and the latch of the stripe 8 from the cell 40 on.
const (
	node      = 8
	base      = 40
	heapCells = 88
)

// canary stands in each cell that is not of the latch: none of them changes.
const canary = -77

// words are the eight cells of a latch: the owner, six of slots, the counter.
type words [8]int

func conf(threads, slots int) shape.Conf {
	return shape.Conf{
		Regions: 2, Objects: 2, Stripes: 2, Width: 3,
		Threads: threads, Slots: slots, Regs: 1, Locks: 10, Undo: 5, Tickets: 5,
	}
}

func cells(t *testing.T, n int) *cell.Cells {
	t.Helper()
	s, e := cell.New(n)
	if e != api.OK {
		t.Fatalf("cell.New(%d): %d", n, e)
	}
	return s
}

// heap makes cells whose latch of the node is w.
func heap(t *testing.T, w words) *cell.Cells {
	t.Helper()
	s := cells(t, heapCells)
	for a := range heapCells {
		s.Store(a, canary)
	}
	set(s, w)
	return s
}

func set(s *cell.Cells, w words) {
	for k, v := range w {
		s.Store(base+k, v)
	}
}

func latchOf(s *cell.Cells) words {
	var w words
	for k := range w {
		w[k] = s.Peek(base + k)
	}
	return w
}

func checkHeap(t *testing.T, s *cell.Cells, want words) {
	t.Helper()
	if got := latchOf(s); got != want {
		t.Fatalf("the latch is %v; want %v", got, want)
	}
	for a := range heapCells {
		if (a < base || a >= base+len(want)) && s.Peek(a) != canary {
			t.Fatalf("the cell %d is %d, and is not of the latch", a, s.Peek(a))
		}
	}
}

// owned is w with the thread as owner.
func (w words) owned(thread int) words {
	w[0] = thread + 1
	return w
}

// with is w with n in the byte of the slot, which was 0 there.
func (w words) with(slot, n int) words {
	v := n
	for range slot % 8 {
		v *= 256
	}
	w[1+slot/8] += v
	return w
}

// counted is w with n readers more that have no slot.
func (w words) counted(n int) words {
	w[7] += n
	return w
}

// read is w with the thread as one more reader.
func (w words) read(thread, slots int) words {
	if thread < slots {
		return w.with(thread, 1)
	}
	return w.counted(1)
}

// crowd is a latch at which all slots but one, and some without a slot, read.
func crowd(but int) words {
	var w words
	for slot := range 48 {
		if slot != but {
			w = w.with(slot, 1)
		}
	}
	return w.counted(5)
}

// checkStep does the k-th step: one access, whether it is Done by it, and what
// the latch is then.
func checkStep(t *testing.T, l *latch.Latch, s *cell.Cells, k int, done bool, want words) {
	t.Helper()
	n := s.Count()
	if answer := l.Step(s); answer != done || l.Done() != done {
		t.Fatalf("step %d: %t, Done %t; want %t (%v)", k, answer, l.Done(), done, latchOf(s))
	}
	if s.Count() != n+1 {
		t.Fatalf("step %d: %d accesses", k, s.Count()-n)
	}
	if l.Steps() != k {
		t.Fatalf("step %d: Steps %d", k, l.Steps())
	}
	if l.Errno() != api.OK || !done && l.Got() {
		t.Fatalf("step %d: Errno %d, Got %t", k, l.Errno(), l.Got())
	}
	checkHeap(t, s, want)
}

// checkEnd holds how it ended, and that a step more does nothing.
func checkEnd(t *testing.T, l *latch.Latch, s *cell.Cells, got bool, errno api.Errno, steps int) {
	t.Helper()
	was := latchOf(s)
	for range 3 {
		if !l.Done() || l.Got() != got || l.Errno() != errno || l.Steps() != steps {
			t.Fatalf("Done %t, Got %t, Errno %d, Steps %d; want true, %t, %d, %d", l.Done(), l.Got(), l.Errno(), l.Steps(), got, errno, steps)
		}
		n := s.Count()
		if !l.Step(s) || s.Count() != n {
			t.Fatalf("a step of one that is Done: %d accesses", s.Count()-n)
		}
		if latchOf(s) != was {
			t.Fatalf("a step of one that is Done: %v; it was %v", latchOf(s), was)
		}
	}
}

func checkNew(t *testing.T, l *latch.Latch) {
	t.Helper()
	if l == nil || l.Done() || l.Got() || l.Errno() != api.OK || l.Steps() != 0 {
		t.Fatalf("a new one: %+v", l)
	}
}

// checkRun does all steps of a new one: what the latch is behind each of them.
func checkRun(t *testing.T, l *latch.Latch, s *cell.Cells, got bool, behind ...words) {
	t.Helper()
	checkNew(t, l)
	for i, w := range behind {
		checkStep(t, l, s, i+1, i == len(behind)-1, w)
	}
	checkEnd(t, l, s, got, api.OK, len(behind))
}

// finish does all steps of one that nobody keeps waiting.
func finish(t *testing.T, l *latch.Latch, s *cell.Cells) {
	t.Helper()
	for range 9 {
		if l.Step(s) {
			return
		}
	}
	t.Fatalf("not Done behind 9 steps: %v", latchOf(s))
}

// eachThread goes through all threads with many numbers of slots.
func eachThread(f func(c shape.Conf, thread, slots int)) {
	for _, slots := range []int{0, 1, 7, 8, 9, 47, 48} {
		for thread := range 64 {
			f(conf(64, slots), thread, slots)
		}
	}
}

// others are owners that are not the thread.
func others(thread int) []int {
	return []int{thread, thread + 2, 64, 1, -1, 1 << 40}
}

func isOwn(owner, thread int) bool {
	return owner == 0 || owner == thread+1
}

// P5.2.
func TestReadWithoutAWriter(t *testing.T) {
	eachThread(func(c shape.Conf, thread, slots int) {
		for _, w := range []words{{}, words{}.owned(thread), crowd(thread), crowd(thread).owned(thread)} {
			now := w.read(thread, slots)
			checkRun(t, latch.Read(c, node, thread), heap(t, w), true, now, now)
		}
	})
}

// P5.2.
func TestReadBesideAWriter(t *testing.T) {
	eachThread(func(c shape.Conf, thread, slots int) {
		for _, owner := range others(thread) {
			if isOwn(owner, thread) {
				continue
			}
			w := crowd(thread)
			w[0] = owner
			now := w.read(thread, slots)
			checkRun(t, latch.Read(c, node, thread), heap(t, w), false, now, now, w)
		}
	})
}

// P5.2: the owner is looked at behind the thread's own mark, not ahead of it.
func TestReadLooksAtItsSecondStep(t *testing.T) {
	for _, thread := range []int{0, 47, 48, 63} {
		c, w := conf(64, 48), words{}.read(thread, 48)

		s := heap(t, words{}.owned(5))
		l := latch.Read(c, node, thread)
		checkStep(t, l, s, 1, false, w.owned(5))
		set(s, w)
		checkStep(t, l, s, 2, true, w)
		checkEnd(t, l, s, true, api.OK, 2)

		s = heap(t, words{})
		l = latch.Read(c, node, thread)
		checkStep(t, l, s, 1, false, w)
		set(s, w.owned(5))
		checkStep(t, l, s, 2, false, w.owned(5))
		set(s, w)
		checkStep(t, l, s, 3, true, words{})
		checkEnd(t, l, s, false, api.OK, 3)
	}
}

// P5.2, P5.4: a byte is set, whatever it was; the counter is one more or less.
func TestByteIsSetAndCounterReckoned(t *testing.T) {
	c := conf(64, 48)
	for _, slot := range []int{0, 7, 20, 47} {
		for _, n := range []int{1, 2, 127, 128, 255} {
			w := words{}.with(slot, n)
			now := words{}.with(slot, 1)
			checkRun(t, latch.Read(c, node, slot), heap(t, w), true, now, now)
			checkRun(t, latch.EndRead(c, node, slot), heap(t, w), true, words{})
		}
	}
	for _, n := range []int{-1, 0, 1, 15, 1 << 40} {
		w := words{}.counted(n)
		checkRun(t, latch.Read(c, node, 48), heap(t, w), true, w.counted(1), w.counted(1))
		checkRun(t, latch.EndRead(c, node, 63), heap(t, w), true, w.counted(-1))
	}
}

// P5.4: the owner is neither looked at nor changed.
func TestEndRead(t *testing.T) {
	eachThread(func(c shape.Conf, thread, slots int) {
		for _, owner := range append(others(thread), 0, thread+1) {
			w := crowd(thread)
			w[0] = owner
			checkRun(t, latch.EndRead(c, node, thread), heap(t, w.read(thread, slots)), true, w)
		}
		if thread < slots {
			checkRun(t, latch.EndRead(c, node, thread), heap(t, crowd(thread)), true, crowd(thread))
		}
	})
}

// P5.4.
func TestEndWrite(t *testing.T) {
	eachThread(func(c shape.Conf, thread, slots int) {
		for _, owner := range append(others(thread), 0, thread+1) {
			w := crowd(-1)
			w[0] = owner
			free := crowd(-1)
			checkRun(t, latch.EndWrite(c, node, thread), heap(t, w), true, free)
		}
	})
}

// P5.3: with nobody there eight steps, and one more of who reads there.
func TestWriteWithNobodyThere(t *testing.T) {
	eachThread(func(c shape.Conf, thread, slots int) {
		now := words{}.owned(thread)
		checkRun(t, latch.Write(c, node, thread, false), heap(t, words{}), true, slices.Repeat([]words{now}, 8)...)

		mine := words{}.read(thread, slots)
		behind := append(slices.Repeat([]words{mine.owned(thread)}, 8), now)
		checkRun(t, latch.Write(c, node, thread, true), heap(t, mine), true, behind...)
	})
}

// P5.3: whoever is the owner, the thread itself too, a Write is lost.
func TestWriteBesideAnOwner(t *testing.T) {
	eachThread(func(c shape.Conf, thread, slots int) {
		for _, owner := range append(others(thread), thread+1) {
			if owner == 0 {
				continue
			}
			for _, w := range []words{{}, crowd(-1)} {
				w[0] = owner
				checkRun(t, latch.Write(c, node, thread, false), heap(t, w), false, w)
				checkRun(t, latch.Write(c, node, thread, true), heap(t, w), false, w)
			}
		}
	})
}

// checkWaits holds that a Write waits at the k-th word of the latch while w is
// there, and at none other; clear is what lets it go on.
func checkWaits(t *testing.T, c shape.Conf, thread int, reading bool, k int, w, clear words) {
	t.Helper()
	s := heap(t, w)
	l := latch.Write(c, node, thread, reading)
	steps := 0
	for range k + 5 {
		steps++
		checkStep(t, l, s, steps, false, w.owned(thread))
	}
	set(s, clear.owned(thread))
	for range 7 - k {
		steps++
		checkStep(t, l, s, steps, false, clear.owned(thread))
	}
	steps++
	if reading {
		checkStep(t, l, s, steps, false, clear.owned(thread))
		steps++
	}
	checkStep(t, l, s, steps, true, words{}.owned(thread))
	checkEnd(t, l, s, true, api.OK, steps)
}

// P5.3, the drain: each byte of each word keeps it waiting at that word, its
// own one too, if it does not read.
func TestDrainWaitsForEachSlot(t *testing.T) {
	for _, thread := range []int{0, 7, 8, 20, 46, 47, 48, 63} {
		c := conf(64, 48)
		mine := words{}.read(thread, 48)
		for slot := range 48 {
			for _, n := range []int{1, 128, 255} {
				checkWaits(t, c, thread, false, 1+slot/8, words{}.with(slot, n), words{})
				if slot != thread {
					checkWaits(t, c, thread, true, 1+slot/8, mine.with(slot, n), mine)
				}
			}
		}
	}
}

// P5.3, the drain: bytes of slots that no thread has are looked at too.
func TestDrainWaitsForBytesPastTheSlots(t *testing.T) {
	c := conf(3, 2)
	for _, thread := range []int{0, 2} {
		mine := words{}.read(thread, 2)
		for _, slot := range []int{2, 7, 8, 47} {
			checkWaits(t, c, thread, false, 1+slot/8, words{}.with(slot, 1), words{})
			checkWaits(t, c, thread, true, 1+slot/8, mine.with(slot, 1), mine)
		}
	}
}

// P5.3, the drain: the counter is 0, or 1 of who reads without a slot.
func TestDrainWaitsForTheCounter(t *testing.T) {
	for _, thread := range []int{0, 47, 48, 63} {
		c := conf(64, 48)
		mine := words{}.read(thread, 48)
		for _, n := range []int{-1, 1, 2, 15, 256, 1 << 40} {
			checkWaits(t, c, thread, false, 7, words{}.counted(n), words{})
			checkWaits(t, c, thread, true, 7, mine.counted(n), mine)
		}
	}
}

// P5.3, the drain: with reading its own byte is left out, whatever it is.
func TestDrainLeavesItsOwnByteOut(t *testing.T) {
	c := conf(64, 48)
	for _, slot := range []int{0, 7, 20, 47} {
		for _, n := range []int{0, 1, 2, 128, 255} {
			mine := words{}.with(slot, n)
			behind := append(slices.Repeat([]words{mine.owned(slot)}, 8), words{}.owned(slot))
			checkRun(t, latch.Write(c, node, slot, true), heap(t, mine), true, behind...)
		}
	}
}

// P5.3, the drain: each step looks at one word, and never again at those that
// it has left behind.
func TestDrainLooksAtOneWordAStep(t *testing.T) {
	for _, thread := range []int{3, 50} {
		for _, reading := range []bool{false, true} {
			mine := words{}
			if reading {
				mine = mine.read(thread, 48)
			}
			full := crowd(thread).owned(thread)
			s := heap(t, words{})
			l := latch.Write(conf(64, 48), node, thread, reading)
			checkStep(t, l, s, 1, false, words{}.owned(thread))
			for k := 1; k < 8; k++ {
				w := full
				w[k] = mine[k]
				set(s, w)
				checkStep(t, l, s, k+1, k == 7 && !reading, w)
			}
			if reading {
				set(s, full.read(thread, 48))
				checkStep(t, l, s, 9, true, full)
			}
			if !l.Got() {
				t.Errorf("thread %d, reading %t: not Got", thread, reading)
			}
		}
	}
}

// P5.3, Cancel: ahead of the first step, whatever is there.
func TestCancelAheadOfTheFirstStep(t *testing.T) {
	for _, owner := range []int{0, 10, 11} {
		for _, reading := range []bool{false, true} {
			for _, c := range []shape.Conf{conf(64, 48), conf(64, 0), conf(5, 48), {}} {
				w := crowd(-1)
				w[0] = owner
				s := heap(t, w)
				n := s.Count()
				l := latch.Write(c, node, 9, reading)
				l.Cancel()
				checkEnd(t, l, s, false, api.OK, 0)
				l.Cancel()
				checkEnd(t, l, s, false, api.OK, 0)
				checkHeap(t, s, w)
				if s.Count() != n {
					t.Errorf("%d accesses", s.Count()-n)
				}
			}
		}
	}
}

// cancelled does so many steps of a Write, cancels it so many times, and holds
// that the next step makes the owner 0 and nothing else.
func cancelled(t *testing.T, w words, thread int, reading bool, steps, times int) {
	t.Helper()
	s := heap(t, w)
	l := latch.Write(conf(64, 48), node, thread, reading)
	for k := range steps {
		checkStep(t, l, s, k+1, false, w.owned(thread))
	}
	n := s.Count()
	for range times {
		l.Cancel()
	}
	if l.Done() || l.Got() || l.Errno() != api.OK || l.Steps() != steps || s.Count() != n {
		t.Fatalf("behind %d steps: Cancel is no step", steps)
	}
	checkHeap(t, s, w.owned(thread))
	checkStep(t, l, s, steps+1, true, w)
	checkEnd(t, l, s, false, api.OK, steps+1)
}

// P5.3, Cancel: behind each step up to the end of the drain. With reading, the
// Read stays.
func TestCancelInTheDrain(t *testing.T) {
	for _, thread := range []int{0, 9, 47, 48, 63} {
		mine := words{}.read(thread, 48)
		for steps := 1; steps < 8; steps++ {
			for times := 1; times < 3; times++ {
				cancelled(t, words{}, thread, false, steps, times)
				cancelled(t, mine, thread, true, steps, times)
			}
		}
		for _, slot := range []int{3, 45} {
			cancelled(t, words{}.with(slot, 1), thread, false, 20, 1)
			cancelled(t, mine.with(slot, 1), thread, true, 20, 1)
		}
		cancelled(t, words{}.counted(2), thread, false, 20, 1)
		cancelled(t, mine.counted(2), thread, true, 20, 1)
	}
}

// P5.3, Cancel: the next step stores 0, whoever is the owner by then.
func TestCancelledStoresNobody(t *testing.T) {
	for _, owner := range []int{0, 10, 11, 77} {
		s := heap(t, words{})
		l := latch.Write(conf(64, 48), node, 9, false)
		checkStep(t, l, s, 1, false, words{}.owned(9))
		l.Cancel()
		s.Store(base, owner)
		checkStep(t, l, s, 2, true, words{})
		checkEnd(t, l, s, false, api.OK, 2)
	}
}

// P5.3, Cancel: behind the drain it does nothing.
func TestCancelBehindTheDrain(t *testing.T) {
	for _, thread := range []int{0, 9, 47, 48, 63} {
		mine := words{}.read(thread, 48)
		s := heap(t, mine)
		l := latch.Write(conf(64, 48), node, thread, true)
		for k := range 8 {
			checkStep(t, l, s, k+1, false, mine.owned(thread))
		}
		l.Cancel()
		checkStep(t, l, s, 9, true, words{}.owned(thread))
		l.Cancel()
		checkEnd(t, l, s, true, api.OK, 9)
	}
}

// P5.3, Cancel: of one that is Done it does nothing, however it ended.
func TestCancelOfOneThatIsDone(t *testing.T) {
	c := conf(64, 48)
	s := heap(t, words{})
	l := latch.Write(c, node, 9, false)
	finish(t, l, s)
	l.Cancel()
	checkEnd(t, l, s, true, api.OK, 8)
	checkHeap(t, s, words{}.owned(9))

	l = latch.Write(c, node, 10, false)
	l.Step(s)
	l.Cancel()
	checkEnd(t, l, s, false, api.OK, 1)
	checkHeap(t, s, words{}.owned(9))

	l = latch.Write(c, 0, 10, false)
	l.Step(s)
	l.Cancel()
	checkEnd(t, l, s, false, api.ErrCorrupt, 1)
}

// P5.3, Cancel: of all but Write it does nothing, at whatever step.
func TestCancelOfOthers(t *testing.T) {
	c := conf(64, 48)
	for _, thread := range []int{9, 50} {
		mine := words{}.read(thread, 48)
		for _, x := range []struct {
			l      *latch.Latch
			w      words
			got    bool
			behind []words
		}{
			{latch.Read(c, node, thread), words{}, true, []words{mine, mine}},
			{latch.Read(c, node, thread), words{}.owned(1), false, []words{mine.owned(1), mine.owned(1), words{}.owned(1)}},
			{latch.EndRead(c, node, thread), mine, true, []words{{}}},
			{latch.EndWrite(c, node, thread), words{}.owned(thread), true, []words{{}}},
		} {
			s := heap(t, x.w)
			for i, w := range x.behind {
				x.l.Cancel()
				checkStep(t, x.l, s, i+1, i == len(x.behind)-1, w)
			}
			x.l.Cancel()
			checkEnd(t, x.l, s, x.got, api.OK, len(x.behind))
		}
	}
}

// all makes one of each kind.
func all(c shape.Conf, node, thread int) []*latch.Latch {
	return []*latch.Latch{
		latch.Read(c, node, thread),
		latch.Write(c, node, thread, false),
		latch.Write(c, node, thread, true),
		latch.EndRead(c, node, thread),
		latch.EndWrite(c, node, thread),
	}
}

// checkCorrupt holds that the first step, with no access, is the last one.
func checkCorrupt(t *testing.T, c shape.Conf, node, thread int) {
	t.Helper()
	for kind := range all(c, node, thread) {
		for _, s := range []*cell.Cells{heap(t, crowd(-1).owned(3)), heap(t, words{}), cells(t, 0)} {
			l := all(c, node, thread)[kind]
			checkNew(t, l)
			n, was := s.Count(), latchOf(s)
			if !l.Step(s) || s.Count() != n {
				t.Fatalf("node %d, thread %d: Done %t, %d accesses", node, thread, l.Done(), s.Count()-n)
			}
			checkEnd(t, l, s, false, api.ErrCorrupt, 1)
			if latchOf(s) != was {
				t.Fatalf("node %d, thread %d: %v; it was %v", node, thread, latchOf(s), was)
			}
		}
	}
}

// P5.1: a Conf that may not be, whichever part of it is wrong.
func TestCorruptConf(t *testing.T) {
	checkCorrupt(t, shape.Conf{}, node, 0)
	for i, spoil := range []func(c *shape.Conf){
		func(c *shape.Conf) { c.Regions = 9 },
		func(c *shape.Conf) { c.Objects = 0 },
		func(c *shape.Conf) { c.Stripes = -1 },
		func(c *shape.Conf) { c.Width = 9 },
		func(c *shape.Conf) { c.Threads = 65 },
		func(c *shape.Conf) { c.Slots = -1 },
		func(c *shape.Conf) { c.Slots = 49 },
		func(c *shape.Conf) { c.Regs = 0 },
		func(c *shape.Conf) { c.Locks = 0 },
		func(c *shape.Conf) { c.Undo = 0 },
		func(c *shape.Conf) { c.Escalate = 65 },
		func(c *shape.Conf) { c.Tickets = math.MaxInt },
		func(c *shape.Conf) { c.Policy = 3 },
	} {
		c := conf(64, 48)
		spoil(&c)
		if shape.Check(c) == api.OK {
			t.Fatalf("the Conf %d may be", i)
		}
		checkCorrupt(t, c, node, 0)
		checkCorrupt(t, c, node, 48)
	}
}

// P5.1: regions, objects and what is no node.
func TestCorruptNode(t *testing.T) {
	for _, n := range []int{0, 1, 2, 5, 14, -1, math.MaxInt, math.MinInt} {
		checkCorrupt(t, conf(64, 48), n, 0)
		checkCorrupt(t, conf(64, 48), n, 63)
	}
}

// P5.1: a thread from Threads on is none, one with a slot too.
func TestCorruptThread(t *testing.T) {
	for _, x := range []struct{ threads, slots, thread int }{
		{64, 48, 64}, {64, 48, -1}, {64, 0, -1}, {64, 48, math.MaxInt}, {64, 48, math.MinInt},
		{4, 48, 4}, {4, 48, 47}, {4, 2, 4}, {4, 4, 4}, {1, 0, 1}, {1, 1, 1}, {1, 48, -1},
	} {
		checkCorrupt(t, conf(x.threads, x.slots), node, x.thread)
	}
}

// P5.1: the first and the last of the stripes and of the threads are some.
func TestEdgesThatAreNotCorrupt(t *testing.T) {
	for _, x := range []struct{ node, first int }{{6, 24}, {7, 32}, {13, 80}} {
		for _, threads := range []int{1, 48, 49, 64} {
			for _, slots := range []int{0, 1, 48} {
				s := cells(t, heapCells)
				c, thread := conf(threads, slots), threads-1
				l := latch.Write(c, x.node, thread, false)
				finish(t, l, s)
				if !l.Got() || s.Peek(x.first) != threads {
					t.Errorf("node %d, thread %d: Got %t, Errno %d, owner %d", x.node, thread, l.Got(), l.Errno(), s.Peek(x.first))
				}
			}
		}
	}
}

// P5.1: at each of the accesses, the word that it asks for is not there, or is
// just there.
func TestCorruptWord(t *testing.T) {
	c := conf(64, 48)
	drain := []int{0, 1, 2, 3, 4, 5, 6, 7}
	for _, x := range []struct {
		begin func() *latch.Latch
		w     words
		asks  []int // the word of the latch that each step asks for
	}{
		{func() *latch.Latch { return latch.Read(c, node, 9) }, words{}.owned(1), []int{2, 0, 2}},
		{func() *latch.Latch { return latch.Read(c, node, 47) }, words{}, []int{6, 0}},
		{func() *latch.Latch { return latch.Read(c, node, 48) }, words{}.owned(1), []int{7, 0, 7}},
		{func() *latch.Latch { return latch.Read(c, node, 63) }, words{}, []int{7, 0}},
		{func() *latch.Latch { return latch.Write(c, node, 9, false) }, words{}, drain},
		{func() *latch.Latch { return latch.Write(c, node, 9, true) }, words{}.with(9, 1), append(slices.Clip(drain), 2)},
		{func() *latch.Latch { return latch.Write(c, node, 48, true) }, words{}.counted(1), append(slices.Clip(drain), 7)},
		{func() *latch.Latch { return latch.Write(c, node, 9, false) }, words{}.owned(1), []int{0}},
		{func() *latch.Latch { return latch.EndRead(c, node, 0) }, words{}, []int{1}},
		{func() *latch.Latch { return latch.EndRead(c, node, 63) }, words{}, []int{7}},
		{func() *latch.Latch { return latch.EndWrite(c, node, 0) }, words{}, []int{0}},
	} {
		for k, word := range x.asks {
			for _, n := range []int{0, 1, base, base + word} {
				checkMissing(t, x.begin(), heap(t, x.w), cells(t, n), k)
			}
			l, s := x.begin(), heap(t, x.w)
			for range k {
				l.Step(s)
			}
			l.Step(cells(t, base+word+1))
			if l.Errno() != api.OK {
				t.Errorf("step %d asks for another word than %d", k+1, word)
			}
		}
	}
}

// checkMissing does so many steps, and then one on cells that lack its word.
func checkMissing(t *testing.T, l *latch.Latch, s, short *cell.Cells, steps int) {
	t.Helper()
	for k := range steps {
		if l.Step(s) {
			t.Fatalf("Done by step %d", k+1)
		}
	}
	if !l.Step(short) || short.Count() != 1 {
		t.Fatalf("step %d on %d cells: Done %t, %d accesses", steps+1, short.Len(), l.Done(), short.Count())
	}
	checkEnd(t, l, short, false, api.ErrCorrupt, steps+1)
	checkEnd(t, l, s, false, api.ErrCorrupt, steps+1)
	l.Cancel()
	checkEnd(t, l, s, false, api.ErrCorrupt, steps+1)
}

// P5.1: the step of one that was cancelled asks for the owner.
func TestCorruptWordOfOneThatIsCancelled(t *testing.T) {
	for steps := 1; steps < 8; steps++ {
		for _, n := range []int{base, base + 1} {
			s, short := heap(t, words{}), cells(t, n)
			l := latch.Write(conf(64, 48), node, 9, false)
			for range steps {
				l.Step(s)
			}
			l.Cancel()
			if !l.Step(short) || short.Count() != 1 {
				t.Errorf("behind %d steps: Done %t, %d accesses", steps, l.Done(), short.Count())
			}
			want := api.ErrCorrupt
			if n > base {
				want = api.OK
			}
			checkEnd(t, l, short, false, want, steps+1)
		}
	}
}

// P0.5: two at work over one heap, and one over two, have nothing in common
// but the cells.
func TestLatchesAreApart(t *testing.T) {
	c := conf(64, 48)
	a, b := heap(t, words{}), heap(t, words{}.with(9, 1))
	first, second := latch.Write(c, node, 3, false), latch.Write(c, node, 4, false)
	checkStep(t, first, a, 1, false, words{}.owned(3))
	checkStep(t, second, b, 1, false, words{}.owned(4).with(9, 1))
	first.Cancel()
	checkStep(t, second, b, 2, false, words{}.owned(4).with(9, 1))
	checkStep(t, first, a, 2, true, words{})
	checkEnd(t, first, a, false, api.OK, 2)
	if second.Done() || second.Steps() != 2 {
		t.Errorf("the other one: Done %t, Steps %d", second.Done(), second.Steps())
	}
}

// What a thread has, or wants, of the latch.
const (
	nothing = iota
	aRead
	aWrite
)

type user struct {
	l          *latch.Latch
	has, wants int
}

// many are threads at work over one latch. Each runs one at a time.
type many struct {
	c     shape.Conf
	slots int
	s     *cell.Cells
	us    []user
}

func newMany(t *testing.T, threads, slots int) *many {
	t.Helper()
	return &many{conf(threads, slots), slots, heap(t, words{}), make([]user, threads)}
}

// begin makes what leads the thread from what it has to what it wants.
func (m *many) begin(thread, wants int) {
	u := &m.us[thread]
	u.wants = wants
	switch {
	case wants == aRead:
		u.l = latch.Read(m.c, node, thread)
	case wants == aWrite:
		u.l = latch.Write(m.c, node, thread, u.has == aRead)
	case u.has == aRead:
		u.l = latch.EndRead(m.c, node, thread)
	default:
		u.l = latch.EndWrite(m.c, node, thread)
	}
}

// step goes on with the thread: whether it is Done by that.
func (m *many) step(thread int) bool {
	u := &m.us[thread]
	if !u.l.Step(m.s) {
		return false
	}
	if u.l.Got() {
		u.has = u.wants
	}
	u.l = nil
	return true
}

// alone holds P5.6.
func (m *many) alone() bool {
	readers, writers := 0, 0
	for _, u := range m.us {
		switch u.has {
		case aRead:
			readers++
		case aWrite:
			writers++
		}
	}
	return writers == 0 || writers == 1 && readers == 0
}

// told says whether the latch tells who has what; it is asked where nobody is
// at work.
func (m *many) told() bool {
	var w words
	for thread, u := range m.us {
		switch {
		case u.l != nil:
			return true
		case u.has == aRead:
			w = w.read(thread, m.slots)
		case u.has == aWrite:
			w = w.owned(thread)
		}
	}
	return w == latchOf(m.s)
}

// wish picks what a thread that is at rest wants.
func wish(r *rand.Rand, has int) int {
	switch {
	case has == nothing:
		return aRead + r.Intn(2)
	case has == aRead && r.Intn(2) == 0:
		return aWrite
	}
	return nothing
}

// crew picks who is at work: few enough to meet, next to each other or far
// apart, with many slots or few.
func crew(r *rand.Rand) (threads []int, slots int) {
	size := 2 + r.Intn(6)
	if r.Intn(2) == 0 {
		return r.Perm(8)[:size], r.Intn(10)
	}
	return r.Perm(64)[:size], 48 - r.Intn(2)*r.Intn(49)
}

// P5.6: any steps of any threads, some of them cancelled.
func TestWriterIsAloneInAnyOrder(t *testing.T) {
	r := rand.New(rand.NewSource(56))
	var reads, writes, turned, refused, cancels int
	for run := range 1000 {
		threads, slots := crew(r)
		m := newMany(t, 64, slots)
		for range 500 {
			thread := threads[r.Intn(len(threads))]
			u := &m.us[thread]
			if u.l == nil {
				m.begin(thread, wish(r, u.has))
			}
			if r.Intn(12) == 0 {
				u.l.Cancel()
				cancels++
			}
			had := u.has
			done := m.step(thread)
			switch {
			case !done:
			case u.has == had:
				refused++
			case u.has == aRead:
				reads++
			case u.has == aWrite && had == aRead:
				turned++
			case u.has == aWrite:
				writes++
			}
			if !m.alone() {
				t.Fatalf("run %d, threads %v, %d slots: %+v", run, threads, slots, m.us)
			}
			if !m.told() {
				t.Fatalf("run %d, threads %v, %d slots: %+v, but the latch is %v", run, threads, slots, m.us, latchOf(m.s))
			}
		}
	}
	for _, n := range []int{reads, writes, turned, refused, cancels} {
		if n < 1000 {
			t.Errorf("too few of a kind: %d reads, %d writes, %d turned, %d refused, %d cancels", reads, writes, turned, refused, cancels)
		}
	}
}

// inOrder does what two threads want, over and over, in the order that the
// bits tell; what a thread did not get it wants again.
func inOrder(t *testing.T, slots int, wants [2][]int, order, picks int) {
	t.Helper()
	m := newMany(t, 2, slots)
	var at [2]int
	for k := range picks {
		thread := order >> k & 1
		u := &m.us[thread]
		want := wants[thread][at[thread]%len(wants[thread])]
		if u.l == nil {
			m.begin(thread, want)
		}
		if m.step(thread) && u.has == want {
			at[thread]++
		}
		if !m.alone() || !m.told() {
			t.Fatalf("%d slots, %v, order %b, pick %d: %+v, %v", slots, wants, order, k, m.us, latchOf(m.s))
		}
	}
}

// P5.6: two threads, and each order of their first steps.
func TestWriterIsAloneInEachOrder(t *testing.T) {
	const picks = 13
	ways := [][]int{{aRead, nothing}, {aWrite, nothing}, {aRead, aWrite, nothing}}
	for slots := range 3 {
		for _, a := range ways {
			for _, b := range ways {
				for order := range 1 << picks {
					inOrder(t, slots, [2][]int{a, b}, order, picks)
				}
			}
		}
	}
}
