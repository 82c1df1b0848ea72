package plain_test

import (
	"math"
	"slices"
	"testing"

	"latchkey/api"
	"latchkey/calc"
	"latchkey/plain"
	"latchkey/prog"
	"latchkey/shape"
)

// conf has a heap of six words and three registers.
func conf() shape.Conf {
	return shape.Conf{Regions: 1, Objects: 3, Stripes: 1, Width: 2, Threads: 1, Regs: 3, Locks: 10, Undo: 5, Tickets: 5}
}

// words is a heap for conf, new for each call.
func words() []int { return []int{10, 11, 12, 13, 14, 15} }

func parse(t *testing.T, l ...string) []prog.Instr {
	t.Helper()
	p, e := prog.Parse(l...)
	if e != api.OK {
		t.Fatalf("%q is no program: %d", l, e)
	}
	return p
}

// at answers accesses: an address and a value each.
func at(l ...int) []plain.Access {
	var out []plain.Access
	for i := 0; i < len(l); i += 2 {
		out = append(out, plain.Access{At: l[i], Value: l[i+1]})
	}
	return out
}

// equal is held by the tests' own means, not by Same.
func equal(a, b plain.Out) bool {
	if a.End != b.End || len(a.Regs) != len(b.Regs) || len(a.Reads) != len(b.Reads) || len(a.Writes) != len(b.Writes) {
		return false
	}
	for i := range a.Regs {
		if a.Regs[i] != b.Regs[i] {
			return false
		}
	}
	for i := range a.Reads {
		if a.Reads[i] != b.Reads[i] {
			return false
		}
	}
	for i := range a.Writes {
		if a.Writes[i] != b.Writes[i] {
			return false
		}
	}
	return true
}

// checkRun holds what Run says of these lines over words.
func checkRun(t *testing.T, want plain.Out, heap []int, lines ...string) {
	t.Helper()
	o, now, e := plain.Run(conf(), words(), parse(t, lines...)...)
	if e != api.OK || !equal(o, want) || !slices.Equal(now, heap) {
		t.Errorf("%q: %+v, %v, %d; want %+v, %v", lines, o, now, e, want, heap)
	}
}

// checkRefused holds that Run answers this error, and nothing beside it.
func checkRefused(t *testing.T, want api.Errno, c shape.Conf, heap []int, p ...prog.Instr) {
	t.Helper()
	o, now, e := plain.Run(c, heap, p...)
	if e != want || !equal(o, plain.Out{}) || len(now) != 0 {
		t.Errorf("a heap of %d, %v: %+v, %v, %d; want %d", len(heap), p, o, now, e, want)
	}
}

func TestEndsHaveTheirNumbers(t *testing.T) {
	if plain.Commit != 1 || plain.Again != 2 || plain.Abort != 3 {
		t.Errorf("%d, %d, %d", plain.Commit, plain.Again, plain.Abort)
	}
}

// P7.1, the errors.
func wrongConfs() []shape.Conf {
	var l []shape.Conf
	for _, change := range []func(c *shape.Conf){
		func(c *shape.Conf) { *c = shape.Conf{} },
		func(c *shape.Conf) { c.Regions = 0 },
		func(c *shape.Conf) { c.Objects = 9 },
		func(c *shape.Conf) { c.Stripes = -1 },
		func(c *shape.Conf) { c.Width = math.MaxInt },
		func(c *shape.Conf) { c.Threads = 65 },
		func(c *shape.Conf) { c.Slots = -1 },
		func(c *shape.Conf) { c.Regs = 0 },
		func(c *shape.Conf) { c.Regs = -1 },
		func(c *shape.Conf) { c.Regs = 9 },
		func(c *shape.Conf) { c.Locks = 0 },
		func(c *shape.Conf) { c.Undo = 1001 },
		func(c *shape.Conf) { c.Escalate = 65 },
		func(c *shape.Conf) { c.Tickets = 0 },
		func(c *shape.Conf) { c.Policy = 3 },
	} {
		c := conf()
		change(&c)
		l = append(l, c)
	}
	return l
}

func TestRunRefusesAConfThatMayNotBe(t *testing.T) {
	for _, c := range wrongConfs() {
		// No word is what Words says of such a Conf: it is refused all the same.
		for _, heap := range [][]int{nil, {}, {1}, words()} {
			checkRefused(t, api.ErrForm, c, heap)
			checkRefused(t, api.ErrForm, c, heap, prog.Instr{Kind: prog.Retry})
		}
	}
}

// wrongPrograms are refused by prog.Check, each for another reason.
func wrongPrograms() [][]prog.Instr {
	nine := []int{0, 0, 0, 0, 0, 0, 0, 0, 0}
	l := [][]prog.Instr{
		{{Kind: prog.Calc, B: 9, L: []int{0}}},
		{{Kind: prog.Calc}},
		{{Kind: prog.Calc, L: nine}},
		{{Kind: prog.Calc, L: []int{0, 3}}},
		{{Kind: prog.Read, C: -2}},
		{{Kind: prog.Write, C: 3}},
		{{Kind: prog.Jump, B: 0}},
		{{Kind: prog.Jump, B: 2}},
		{{Kind: prog.Const, L: []int{0}}},
		{{Kind: prog.Retry}, {}},
		{{Kind: prog.Const}, {Kind: 8}},
		slices.Repeat([]prog.Instr{{Kind: prog.Const}}, api.MaxInstr+1),
	}
	for _, kind := range []int{prog.Read, prog.Write, prog.Const, prog.Jump} {
		for _, a := range []int{-1, 3, math.MinInt, math.MaxInt} {
			l = append(l, []prog.Instr{{Kind: kind, A: a, B: 1, C: -1}})
		}
	}
	return l
}

func TestRunRefusesAProgramThatCheckRefuses(t *testing.T) {
	for _, p := range wrongPrograms() {
		if e := prog.Check(conf(), p...); e != api.ErrForm {
			t.Fatalf("Check of %v: %d", p, e)
		}
		checkRefused(t, api.ErrForm, conf(), words(), p...)
	}
}

// ErrForm is named first: it is the answer where the heap is wrong, too.
func TestRunOfAWrongProgramAndAWrongHeap(t *testing.T) {
	for _, p := range wrongPrograms() {
		for _, heap := range [][]int{nil, words()[:5], make([]int, 7)} {
			checkRefused(t, api.ErrForm, conf(), heap, p...)
		}
	}
}

func TestRunRefusesAHeapThatHasNotWords(t *testing.T) {
	for _, n := range []int{0, 1, 5, 7, 8, 12, 4096} {
		heap := make([]int, n)
		checkRefused(t, api.ErrRange, conf(), heap)
		checkRefused(t, api.ErrRange, conf(), heap, prog.Instr{Kind: prog.Abort})
		checkRefused(t, api.ErrRange, conf(), heap, prog.Instr{Kind: prog.Read, C: -1})
	}
	checkRefused(t, api.ErrRange, conf(), nil)
	// A word behind the length is not one of the heap's.
	checkRefused(t, api.ErrRange, conf(), words()[:5], prog.Instr{Kind: prog.Read, B: 5, C: -1})
}

func TestRunTakesTheHeapOfEachConf(t *testing.T) {
	for _, c := range []shape.Conf{
		{Regions: 1, Objects: 1, Stripes: 1, Width: 1, Threads: 1, Regs: 1, Locks: 1, Undo: 1, Tickets: 1},
		{Regions: 2, Objects: 3, Stripes: 4, Width: 5, Threads: 64, Slots: 48, Regs: 8, Locks: 4096, Undo: 1000, Escalate: 64, Tickets: 10000, Policy: api.Die},
		{Regions: 8, Objects: 8, Stripes: 8, Width: 8, Threads: 2, Regs: 5, Locks: 9, Undo: 9, Tickets: 9, Policy: api.Wound},
	} {
		n := c.Regions * c.Objects * c.Stripes * c.Width
		heap := make([]int, n)
		for i := range heap {
			heap[i] = 1000 + i
		}
		// The last word goes into the first one.
		p := parse(t, "read 0 -1 -1", "write 0 0 -1")
		o, now, e := plain.Run(c, heap, p...)
		regs := make([]int, c.Regs)
		regs[0] = 999 + n
		want := plain.Out{End: plain.Commit, Regs: regs, Reads: at(n-1, 999+n), Writes: at(0, 999+n)}
		if e != api.OK || !equal(o, want) || len(now) != n || now[0] != 999+n || now[n-1] != 999+n {
			t.Errorf("%+v: %+v, %d words, %d", c, o, len(now), e)
		}
		checkRefused(t, api.ErrRange, c, heap[1:], p...)
		checkRefused(t, api.ErrRange, c, append(heap, 0), p...)
	}
}

// P7.1, the run.
func TestRunOfNoInstructions(t *testing.T) {
	checkRun(t, plain.Out{End: plain.Commit, Regs: []int{0, 0, 0}}, words())
	for _, p := range [][]prog.Instr{nil, {}, []prog.Instr{{Kind: prog.Abort}}[:0]} {
		o, now, e := plain.Run(conf(), words(), p...)
		if e != api.OK || o.End != plain.Commit || !slices.Equal(now, words()) {
			t.Errorf("%+v, %v, %d", o, now, e)
		}
	}
}

func TestRunHasAsManyRegistersAsTheConf(t *testing.T) {
	for regs := 1; regs <= api.MaxRegs; regs++ {
		c := conf()
		c.Regs = regs
		o, _, e := plain.Run(c, words(), prog.Instr{Kind: prog.Const, A: regs - 1, B: 5})
		want := make([]int, regs)
		want[regs-1] = 5
		if e != api.OK || !slices.Equal(o.Regs, want) {
			t.Errorf("Regs %d: %v, %d", regs, o.Regs, e)
		}
	}
}

func TestRunOfEachKind(t *testing.T) {
	committed := func(regs ...int) plain.Out { return plain.Out{End: plain.Commit, Regs: regs} }
	reads := committed(0, 14, 0)
	reads.Reads = at(4, 14)
	checkRun(t, reads, words(), "read 1 4 -1")
	writes := committed(0, 0, 0)
	writes.Writes = at(4, 0)
	checkRun(t, writes, []int{10, 11, 12, 13, 0, 15}, "write 1 4 -1")
	checkRun(t, committed(0, 0, -7), words(), "const 2 -7")
	checkRun(t, committed(0, 1, 0), words(), "calc 1 4 0 0")
	checkRun(t, committed(0, 0, 0), words(), "jump 2 1")
	checkRun(t, plain.Out{End: plain.Again, Regs: []int{0, 0, 0}}, words(), "retry")
	checkRun(t, plain.Out{End: plain.Abort, Regs: []int{0, 0, 0}}, words(), "abort")
}

func TestRunOfConstants(t *testing.T) {
	for _, n := range []int{0, 1, -1, 1 << 40, math.MinInt, math.MaxInt} {
		p := []prog.Instr{{Kind: prog.Const, A: 1, B: n}, {Kind: prog.Write, A: 1, B: 2, C: -1}, {Kind: prog.Read, A: 0, B: 2, C: -1}}
		o, now, e := plain.Run(conf(), words(), p...)
		want := plain.Out{End: plain.Commit, Regs: []int{n, n, 0}, Reads: at(2, n), Writes: at(2, n)}
		if e != api.OK || !equal(o, want) || !slices.Equal(now, []int{10, 11, n, 13, 14, 15}) {
			t.Errorf("%d: %+v, %v, %d", n, o, now, e)
		}
	}
}

func TestRunOfSums(t *testing.T) {
	for kind, want := range []int{calc.Add: 6, calc.Sub: 2, calc.Mul: 4, calc.Less: 0, calc.Equal: 0, calc.And: 0, calc.Or: 5, calc.Max: 4, calc.Min: 1} {
		p := append(parse(t, "const 0 4", "const 1 1", "const 2 1"), prog.Instr{Kind: prog.Calc, A: 2, B: kind, L: []int{0, 1, 2}})
		o, _, e := plain.Run(conf(), words(), p...)
		if e != api.OK || !slices.Equal(o.Regs, []int{4, 1, want}) {
			t.Errorf("kind %d: %v, %d; want %d", kind, o.Regs, e, want)
		}
	}
	// The order of L and a register named twice count.
	checkRun(t, plain.Out{End: plain.Commit, Regs: []int{9, 2, -9}}, words(), "const 0 9", "const 1 2", "calc 2 1 1 1 0")
	checkRun(t, plain.Out{End: plain.Commit, Regs: []int{9, 2, 1}}, words(), "const 0 9", "const 1 2", "calc 2 3 1 0")
	// The register that the sum goes into may be one of those that it is of.
	checkRun(t, plain.Out{End: plain.Commit, Regs: []int{64, 0, 0}}, words(), "const 0 4", "calc 0 2 0 0 0")
	checkRun(t, plain.Out{End: plain.Commit, Regs: []int{1, 0, 0}}, words(), "const 0 1", "calc 0 0 0 1 1 1 1 1 1 1")
	// A sum runs round, as Go's int does.
	checkRun(t, plain.Out{End: plain.Commit, Regs: []int{math.MaxInt, 1, math.MinInt}}, words(),
		"const 0 9223372036854775807", "const 1 1", "calc 2 0 0 1")
}

func TestRunOfJumps(t *testing.T) {
	committed := func(regs ...int) plain.Out { return plain.Out{End: plain.Commit, Regs: regs} }
	aborted := func(regs ...int) plain.Out { return plain.Out{End: plain.Abort, Regs: regs} }
	// Its register is 0: on with the one behind it.
	checkRun(t, aborted(0, 0, 0), words(), "jump 0 2", "abort")
	checkRun(t, committed(0, 7, 0), words(), "jump 0 2", "const 1 7")
	// It is not 0: to the instruction, to the end, to the one behind it.
	checkRun(t, committed(1, 0, 5), words(), "const 0 1", "jump 0 4", "abort", "const 1 7", "const 2 5")
	checkRun(t, committed(1, 0, 0), words(), "const 0 1", "jump 0 3", "abort")
	checkRun(t, aborted(1, 0, 0), words(), "const 0 1", "jump 0 2", "abort")
	checkRun(t, committed(1, 3, 0), words(), "const 0 1", "jump 0 2", "const 1 3")
	// Any number but 0 will do.
	for _, n := range []string{"-1", "2", "256", "4294967296", "-9223372036854775808"} {
		p := parse(t, "const 2 "+n, "jump 2 3", "abort", "const 0 8")
		o, _, e := plain.Run(conf(), words(), p...)
		if e != api.OK || o.End != plain.Commit || o.Regs[0] != 8 {
			t.Errorf("a register with %s: %+v, %d", n, o, e)
		}
	}
	// A jump over a jump; one that lands on a jump; a word that was read.
	checkRun(t, committed(1, 0, 6), words(), "const 0 1", "jump 0 3", "jump 1 5", "jump 0 5", "abort", "const 2 6")
	checkRun(t, plain.Out{End: plain.Commit, Regs: []int{15, 0, 0}, Reads: at(5, 15)}, words(), "read 0 5 -1", "jump 0 3", "abort")
}

func TestRunTellsReadsAndWritesInOrder(t *testing.T) {
	checkRun(t, plain.Out{
		End: plain.Commit, Regs: []int{13, 12, 12},
		Reads: at(3, 13, 2, 12, 2, 12), Writes: at(5, 13, 0, 12, 5, 12),
	}, []int{12, 11, 12, 13, 14, 12},
		"read 0 3 -1", "write 0 5 -1", "read 1 2 -1", "write 1 0 -1", "read 2 2 -1", "write 2 5 -1")
	// One that a jump leaves out is not told.
	checkRun(t, plain.Out{End: plain.Commit, Regs: []int{10, 0, 0}, Reads: at(0, 10), Writes: at(4, 10)},
		[]int{10, 11, 12, 13, 10, 15},
		"read 0 0 -1", "jump 0 4", "read 1 1 -1", "write 0 1 -1", "write 0 4 -1")
	// A Write of what is there already is told, too.
	checkRun(t, plain.Out{End: plain.Commit, Regs: []int{10, 0, 0}, Reads: at(0, 10), Writes: at(0, 10)}, words(),
		"read 0 0 -1", "write 0 0 -1")
}

func TestRunOfAddresses(t *testing.T) {
	for _, x := range []struct {
		b, c, reg, want int
	}{
		{0, -1, 1, 0}, {5, -1, 1, 5}, {6, -1, 1, 0}, {13, -1, 1, 1}, {-1, -1, 1, 5}, {-6, -1, 1, 0}, {-7, -1, 1, 5},
		{math.MaxInt, -1, 0, 1}, {math.MinInt, -1, 0, 4},
		{0, 1, 0, 0}, {0, 1, 5, 5}, {2, 1, 3, 5}, {2, 1, 4, 0}, {2, 1, -3, 5}, {-2, 1, 2, 0}, {-9, 1, -9, 0},
		{math.MaxInt, 1, 1, 4}, {math.MinInt, 1, -1, 1}, {0, 1, math.MinInt, 4},
		// The register is another one's: it is still 0.
		{4, 2, 99, 4},
	} {
		p := []prog.Instr{
			{Kind: prog.Const, A: 1, B: x.reg},
			{Kind: prog.Read, A: 0, B: x.b, C: x.c},
			{Kind: prog.Write, A: 1, B: x.b, C: x.c},
		}
		o, now, e := plain.Run(conf(), words(), p...)
		want := plain.Out{End: plain.Commit, Regs: []int{10 + x.want, x.reg, 0}, Reads: at(x.want, 10+x.want), Writes: at(x.want, x.reg)}
		heap := words()
		heap[x.want] = x.reg
		if e != api.OK || !equal(o, want) || !slices.Equal(now, heap) {
			t.Errorf("%+v: %+v, %v, %d", x, o, now, e)
		}
	}
}

// The address is that of the registers ahead of the instruction.
func TestRunOfAReadIntoItsOwnAddress(t *testing.T) {
	checkRun(t, plain.Out{End: plain.Commit, Regs: []int{14, 0, 0}, Reads: at(3, 13, 4, 14)}, words(),
		"const 0 2", "read 0 1 0", "read 0 -9 0")
	checkRun(t, plain.Out{End: plain.Commit, Regs: []int{2, 0, 0}, Writes: at(3, 2)}, []int{10, 11, 12, 2, 14, 15},
		"const 0 2", "write 0 1 0")
}

func TestRunOfEachEnd(t *testing.T) {
	ahead := []string{"read 2 3 -1", "const 0 4", "write 0 1 -1", "read 1 1 -1", "write 2 1 -1"}
	behind := []string{"const 1 77", "write 1 0 -1", "read 1 5 -1"}
	out := plain.Out{Regs: []int{4, 4, 13}, Reads: at(3, 13, 1, 4), Writes: at(1, 4, 1, 13)}
	out.End = plain.Commit
	checkRun(t, out, []int{10, 13, 12, 13, 14, 15}, ahead...)
	// What stands behind a Retry or an Abort is not run, another one neither.
	for _, x := range []struct {
		end  int
		word []string
	}{{plain.Again, []string{"retry"}}, {plain.Abort, []string{"abort"}}, {plain.Again, []string{"retry", "abort"}}, {plain.Abort, []string{"abort", "retry"}}} {
		out.End = x.end
		checkRun(t, out, words(), slices.Concat(ahead, x.word)...)
		checkRun(t, out, words(), slices.Concat(ahead, x.word, behind)...)
	}
}

func TestRunOfTheLongestProgram(t *testing.T) {
	p := slices.Repeat([]prog.Instr{{Kind: prog.Write, A: 0, B: 0, C: -1}, {Kind: prog.Read, A: 0, B: 1, C: -1}}, api.MaxInstr/2)
	o, now, e := plain.Run(conf(), words(), p...)
	if e != api.OK || o.End != plain.Commit || len(o.Reads) != 30 || len(o.Writes) != 30 || now[0] != 11 {
		t.Errorf("%+v, %v, %d", o, now, e)
	}
}

// What an instruction does not name is not looked at.
func TestRunOfWhatIsNotNamed(t *testing.T) {
	for _, n := range []int{-1, 3, 99, math.MinInt, math.MaxInt} {
		p := []prog.Instr{
			{Kind: prog.Const, A: 0, B: 4, C: n},
			{Kind: prog.Calc, A: 1, B: calc.Add, C: n, L: []int{0, 0}},
			{Kind: prog.Jump, A: 0, B: 4, C: n},
			{Kind: prog.Abort, A: n, B: n, C: n},
			{Kind: prog.Retry, A: n, B: n, C: n},
		}
		o, now, e := plain.Run(conf(), words(), p...)
		if e != api.OK || !equal(o, plain.Out{End: plain.Again, Regs: []int{4, 8, 0}}) || !slices.Equal(now, words()) {
			t.Errorf("%d: %+v, %v, %d", n, o, now, e)
		}
	}
}

// Many programs, each held against a run that the test does another way.

// numbers is a row of numbers that look like any.
type numbers uint64

func (n *numbers) below(m int) int {
	*n = *n*6364136223846793005 + 1442695040888963407
	return int(uint64(*n)>>33) % m
}

func anyInstr(n *numbers, at, count int) prog.Instr {
	const regs = 3
	a := n.below(regs)
	switch n.below(24) {
	case 0, 1, 2, 3, 4, 5, 6:
		return prog.Instr{Kind: prog.Read, A: a, B: n.below(30) - 12, C: n.below(regs+1) - 1}
	case 7, 8, 9, 10, 11, 12, 13:
		return prog.Instr{Kind: prog.Write, A: a, B: n.below(30) - 12, C: n.below(regs+1) - 1}
	case 14, 15, 16:
		return prog.Instr{Kind: prog.Const, A: a, B: n.below(9) - 4}
	case 17, 18, 19:
		l := make([]int, 1+n.below(api.MaxArgs))
		for i := range l {
			l[i] = n.below(regs)
		}
		return prog.Instr{Kind: prog.Calc, A: a, B: n.below(9), L: l}
	case 20, 21:
		return prog.Instr{Kind: prog.Jump, A: a, B: at + 1 + n.below(count-at)}
	case 22:
		return prog.Instr{Kind: prog.Retry}
	}
	return prog.Instr{Kind: prog.Abort}
}

func anyProgram(n *numbers) []prog.Instr {
	p := make([]prog.Instr, n.below(20))
	for i := range p {
		p[i] = anyInstr(n, i, len(p))
	}
	return p
}

// run goes on from the instruction i; what is there is the last of its writes
// to that address, or else the heap's.
func run(heap []int, p []prog.Instr, i int, o plain.Out) plain.Out {
	if i == len(p) {
		o.End = plain.Commit
		return o
	}
	x := p[i]
	where := x.B
	if x.C >= 0 {
		where += o.Regs[x.C]
	}
	where = (where%len(heap) + len(heap)) % len(heap)
	set := func(n int) { o.Regs = slices.Concat(o.Regs[:x.A], []int{n}, o.Regs[x.A+1:]) }
	switch x.Kind {
	case prog.Read:
		value := there(heap, where, o.Writes)
		o.Reads = slices.Concat(o.Reads, at(where, value))
		set(value)
	case prog.Write:
		o.Writes = slices.Concat(o.Writes, at(where, o.Regs[x.A]))
	case prog.Const:
		set(x.B)
	case prog.Calc:
		var l []int
		for _, r := range x.L {
			l = append(l, o.Regs[r])
		}
		n, _ := calc.Eval(x.B, l...)
		set(n)
	case prog.Jump:
		if o.Regs[x.A] != 0 {
			return run(heap, p, x.B, o)
		}
	case prog.Retry:
		o.End = plain.Again
		return o
	case prog.Abort:
		o.End = plain.Abort
		return o
	}
	return run(heap, p, i+1, o)
}

func there(heap []int, where int, writes []plain.Access) int {
	value := heap[where]
	for _, w := range writes {
		if w.At == where {
			value = w.Value
		}
	}
	return value
}

func TestRunOfManyPrograms(t *testing.T) {
	n := numbers(7)
	var ends [4]int
	for range 20000 {
		p := anyProgram(&n)
		o, now, e := plain.Run(conf(), words(), p...)
		want := run(words(), p, 0, plain.Out{Regs: []int{0, 0, 0}})
		heap := words()
		if want.End == plain.Commit {
			for i := range heap {
				heap[i] = there(words(), i, want.Writes)
			}
		}
		if e != api.OK || !equal(o, want) || !slices.Equal(now, heap) {
			t.Fatalf("%q: %+v, %v, %d; want %+v, %v", prog.Print(p...), o, now, e, want, heap)
		}
		ends[o.End]++
	}
	for end := plain.Commit; end <= plain.Abort; end++ {
		if ends[end] < 1000 {
			t.Errorf("the end %d is seen %d times alone", end, ends[end])
		}
	}
}

// P7.3.
func TestAReadBehindAWriteIsWhatWasWritten(t *testing.T) {
	checkRun(t, plain.Out{End: plain.Commit, Regs: []int{4, 4, 0}, Reads: at(2, 4), Writes: at(2, 4)}, []int{10, 11, 4, 13, 14, 15},
		"const 0 4", "write 0 2 -1", "read 1 2 -1")
	// The last one ahead of it, and what was there ahead of them all.
	checkRun(t, plain.Out{End: plain.Commit, Regs: []int{5, 5, 12}, Reads: at(2, 12, 2, 5), Writes: at(2, 0, 2, 5)}, []int{10, 11, 5, 13, 14, 15},
		"read 2 2 -1", "write 0 2 -1", "const 0 5", "write 0 2 -1", "read 1 2 -1")
	// The same address told another way; another one's is not.
	checkRun(t, plain.Out{End: plain.Commit, Regs: []int{4, 4, 11}, Reads: at(2, 4, 1, 11), Writes: at(2, 4)}, []int{10, 11, 4, 13, 14, 15},
		"const 0 4", "write 0 -4 -1", "read 1 -2 0", "read 2 1 -1")
	// It holds of a run that will be taken back, too.
	checkRun(t, plain.Out{End: plain.Again, Regs: []int{4, 4, 0}, Reads: at(2, 4), Writes: at(2, 4)}, words(),
		"const 0 4", "write 0 2 -1", "read 1 2 -1", "retry")
	checkRun(t, plain.Out{End: plain.Abort, Regs: []int{4, 4, 0}, Reads: at(2, 4), Writes: at(2, 4)}, words(),
		"const 0 4", "write 0 2 -1", "read 1 2 -1", "abort")
}

// P7.2 and P0.4.
func TestRunChangesNothingThatIsHandedIn(t *testing.T) {
	n := numbers(3)
	for range 2000 {
		p := anyProgram(&n)
		before, e := prog.Parse(prog.Print(p...)...)
		heap := append(words(), 98, 99)
		_, _, ran := plain.Run(conf(), heap[:6], p...)
		if e != api.OK || ran != api.OK || !slices.Equal(heap, append(words(), 98, 99)) {
			t.Fatalf("%q: %d, %d, %v", prog.Print(p...), e, ran, heap)
		}
		if !prog.Same(p, before) {
			t.Fatalf("%v; it was %v", p, before)
		}
	}
}

// What lies behind the length of the program and of an L is none of it.
func TestRunLooksBehindNoLength(t *testing.T) {
	registers := []int{0, 0, 1, 99}
	p := []prog.Instr{
		{Kind: prog.Const, A: 0, B: 4},
		{Kind: prog.Const, A: 1, B: 100},
		{Kind: prog.Calc, A: 2, B: calc.Add, L: registers[:2]},
		{Kind: prog.Abort},
	}
	o, _, e := plain.Run(conf(), words(), p[:3]...)
	if e != api.OK || !equal(o, plain.Out{End: plain.Commit, Regs: []int{4, 100, 8}}) {
		t.Errorf("%+v, %d", o, e)
	}
	if !slices.Equal(registers, []int{0, 0, 1, 99}) || p[3].Kind != prog.Abort {
		t.Errorf("changed: %v, %v", registers, p[3])
	}
}

// spoil writes into all that was answered, and into its spare room.
func spoil(o plain.Out, heap []int) {
	for _, l := range [][]int{o.Regs, heap} {
		l = l[:cap(l)]
		for i := range l {
			l[i] = -1000
		}
	}
	for _, l := range [][]plain.Access{o.Reads, o.Writes} {
		l = l[:cap(l)]
		for i := range l {
			l[i] = plain.Access{At: -2000, Value: -3000}
		}
	}
}

func TestWhatIsAnsweredIsNewMemory(t *testing.T) {
	for _, end := range []string{"const 0 4", "retry", "abort"} {
		p := parse(t, "read 1 3 -1", "write 1 0 -1", "read 0 1 -1", "write 0 2 -1", "read 2 4 -1", "write 2 5 -1", end)
		heap := words()
		o, now, _ := plain.Run(conf(), heap, p...)
		kept := plain.Out{End: o.End, Regs: slices.Clone(o.Regs), Reads: slices.Clone(o.Reads), Writes: slices.Clone(o.Writes)}
		left := slices.Clone(now)
		second, after, _ := plain.Run(conf(), heap, p...)
		spoil(o, now)
		third, last, e := plain.Run(conf(), heap, p...)
		if !slices.Equal(heap, words()) {
			t.Errorf("%s: the heap that was handed in: %v", end, heap)
		}
		if !equal(second, kept) || !slices.Equal(after, left) {
			t.Errorf("%s: the answer that stood: %+v, %v", end, second, after)
		}
		if e != api.OK || !equal(third, kept) || !slices.Equal(last, left) {
			t.Errorf("%s: the later answer: %+v, %v, %d", end, third, last, e)
		}
	}
}

// No two lists of one answer share memory, their spare room neither.
func TestTheListsOfOneAnswerAreApart(t *testing.T) {
	for _, end := range []string{"const 0 4", "retry", "abort"} {
		p := parse(t, "read 1 3 -1", "write 1 0 -1", "read 0 1 -1", "write 0 2 -1", "read 2 4 -1", "write 2 5 -1", end)
		want, left, _ := plain.Run(conf(), words(), p...)
		parts := []func(o plain.Out, heap []int) (plain.Out, []int){
			func(o plain.Out, heap []int) (plain.Out, []int) { return plain.Out{Regs: o.Regs}, nil },
			func(o plain.Out, heap []int) (plain.Out, []int) { return plain.Out{Reads: o.Reads}, nil },
			func(o plain.Out, heap []int) (plain.Out, []int) { return plain.Out{Writes: o.Writes}, nil },
			func(o plain.Out, heap []int) (plain.Out, []int) { return plain.Out{}, heap },
		}
		for i, part := range parts {
			o, now, _ := plain.Run(conf(), words(), p...)
			spoil(part(o, now))
			for k, other := range parts {
				got, heap := other(o, now)
				should, stood := other(want, left)
				if k != i && (!equal(got, should) || !slices.Equal(heap, stood)) {
					t.Errorf("%s: writing into part %d is seen in part %d: %+v, %v", end, i, k, got, heap)
				}
			}
		}
	}
}

// A change of what was handed in turns no answer that stands.
func TestWhatIsHandedInIsNotKept(t *testing.T) {
	for _, end := range []string{"const 0 4", "retry", "abort"} {
		p := append(parse(t, "read 1 3 -1", "write 1 0 -1", "calc 2 0 1 1"), parse(t, end)...)
		heap := words()
		o, now, _ := plain.Run(conf(), heap, p...)
		want, left, _ := plain.Run(conf(), words(), p...)
		for i := range heap {
			heap[i] = -1
		}
		for i := range p {
			clear(p[i].L)
			p[i] = prog.Instr{}
		}
		if !equal(o, want) || !slices.Equal(now, left) {
			t.Errorf("%s: %+v, %v; want %+v, %v", end, o, now, want, left)
		}
	}
}

// P7.2, Same.
func sample() plain.Out {
	return plain.Out{End: plain.Again, Regs: []int{1, 2}, Reads: at(3, 4, 5, 6), Writes: at(7, 8, 9, 10)}
}

func checkSame(t *testing.T, a, b plain.Out, want bool) {
	t.Helper()
	if plain.Same(a, b) != want || plain.Same(b, a) != want {
		t.Errorf("Same of %+v and %+v is not %v", a, b, want)
	}
}

func TestSameOfWhatIsAlike(t *testing.T) {
	checkSame(t, sample(), sample(), true)
	checkSame(t, plain.Out{}, plain.Out{}, true)
	checkSame(t, plain.Out{End: -9}, plain.Out{End: -9}, true)
	// None and the empty list are the same; what lies behind the length is not looked at.
	empty := plain.Out{Regs: []int{}, Reads: []plain.Access{}, Writes: []plain.Access{}}
	checkSame(t, plain.Out{}, empty, true)
	behind := sample()
	behind.Regs = []int{1, 2, 99}[:2]
	behind.Reads = at(3, 4, 5, 6, 99, 99)[:2]
	behind.Writes = at(7, 8, 9, 10, 99, 99)[:2]
	checkSame(t, sample(), behind, true)
}

func TestSameOfOnePartThatDiffers(t *testing.T) {
	for i, change := range []func(o *plain.Out){
		func(o *plain.Out) { o.End = plain.Commit },
		func(o *plain.Out) { o.End = 0 },
		func(o *plain.Out) { o.End += 256 },
		func(o *plain.Out) { o.Regs[0]++ },
		func(o *plain.Out) { o.Regs[1] = -2 },
		func(o *plain.Out) { o.Reads[0].At++ },
		func(o *plain.Out) { o.Reads[0].Value++ },
		func(o *plain.Out) { o.Reads[1].At-- },
		func(o *plain.Out) { o.Reads[1].Value += 1 << 32 },
		func(o *plain.Out) { o.Writes[0].At++ },
		func(o *plain.Out) { o.Writes[0].Value++ },
		func(o *plain.Out) { o.Writes[1].At += 1 << 32 },
		func(o *plain.Out) { o.Writes[1].Value-- },
	} {
		b := sample()
		change(&b)
		if plain.Same(sample(), b) {
			t.Errorf("change %d is not seen", i)
		}
		checkSame(t, sample(), b, false)
		checkSame(t, b, b, true)
	}
}

func TestSameOfOtherLengthsAndOrders(t *testing.T) {
	for _, change := range []func(o *plain.Out){
		func(o *plain.Out) { o.Regs = nil },
		func(o *plain.Out) { o.Regs = o.Regs[:1] },
		func(o *plain.Out) { o.Regs = append(o.Regs, 0) },
		func(o *plain.Out) { slices.Reverse(o.Regs) },
		func(o *plain.Out) { o.Reads = nil },
		func(o *plain.Out) { o.Reads = o.Reads[:1] },
		func(o *plain.Out) { o.Reads = append(o.Reads, plain.Access{}) },
		func(o *plain.Out) { slices.Reverse(o.Reads) },
		func(o *plain.Out) { o.Writes = nil },
		func(o *plain.Out) { o.Writes = o.Writes[:1] },
		func(o *plain.Out) { o.Writes = append(o.Writes, plain.Access{}) },
		func(o *plain.Out) { slices.Reverse(o.Writes) },
		func(o *plain.Out) { o.Reads, o.Writes = o.Writes, o.Reads },
		func(o *plain.Out) { o.Reads, o.Writes = slices.Concat(o.Reads, o.Writes), nil },
	} {
		b := sample()
		change(&b)
		checkSame(t, sample(), b, false)
	}
}

func TestSameChangesNothing(t *testing.T) {
	a, b := sample(), sample()
	b.Regs[1] = 9
	plain.Same(a, b)
	if !equal(a, sample()) || b.Regs[1] != 9 {
		t.Errorf("%+v, %+v", a, b)
	}
}
