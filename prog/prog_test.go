package prog_test

import (
	"math"
	"slices"
	"strings"
	"testing"

	"latchkey/api"
	"latchkey/calc"
	"latchkey/prog"
	"latchkey/shape"
)

var allKinds = []int{prog.Read, prog.Write, prog.Const, prog.Calc, prog.Jump, prog.Retry, prog.Abort}

// What is no kind: just below Read, just above Abort, and far off.
var noKinds = []int{
	0, -1, 8, 9, -7, 255, 256, 257, 1 << 32, 1<<32 + 1, -(1 << 32),
	math.MinInt32, math.MaxInt32, math.MinInt, math.MinInt + 1, math.MaxInt,
}

// Numbers that an instruction may hold where it doesn't name them.
var anything = []int{0, 1, -1, -2, 7, 8, 99, -99, math.MinInt, math.MaxInt}

// conf has a heap of ten words.
func conf(regs int) shape.Conf {
	return shape.Conf{Regions: 1, Objects: 2, Stripes: 1, Width: 5, Threads: 1, Regs: regs, Locks: 10, Undo: 5, Tickets: 5}
}

// wrongConfs have one part each past its bounds.
func wrongConfs() []shape.Conf {
	var l []shape.Conf
	for _, change := range []func(c *shape.Conf){
		func(c *shape.Conf) { *c = shape.Conf{} },
		func(c *shape.Conf) { c.Regions = 0 },
		func(c *shape.Conf) { c.Objects = 9 },
		func(c *shape.Conf) { c.Stripes = -1 },
		func(c *shape.Conf) { c.Width = 0 },
		func(c *shape.Conf) { c.Threads = 65 },
		func(c *shape.Conf) { c.Slots = 49 },
		func(c *shape.Conf) { c.Regs = 0 },
		func(c *shape.Conf) { c.Regs = 9 },
		func(c *shape.Conf) { c.Locks = 0 },
		func(c *shape.Conf) { c.Undo = 1001 },
		func(c *shape.Conf) { c.Escalate = 65 },
		func(c *shape.Conf) { c.Tickets = 0 },
		func(c *shape.Conf) { c.Policy = 3 },
	} {
		c := conf(3)
		change(&c)
		l = append(l, c)
	}
	return l
}

// good answers an instruction of each kind that may stand first of seven or
// more, with one register.
func good() []prog.Instr {
	return []prog.Instr{
		{Kind: prog.Read, C: -1},
		{Kind: prog.Write},
		{Kind: prog.Const},
		{Kind: prog.Calc, L: []int{0}},
		{Kind: prog.Jump, B: 7},
		{Kind: prog.Retry},
		{Kind: prog.Abort},
	}
}

func ofKind(kind int) prog.Instr { return good()[kind-1] }

// checkAlone holds what Check says of x as the first of two, the last of two,
// and in the midst of three. A Jump's B is moved along with it.
func checkAlone(t *testing.T, c shape.Conf, x prog.Instr, want api.Errno) {
	t.Helper()
	retry := prog.Instr{Kind: prog.Retry}
	next := x
	if next.Kind == prog.Jump && next.B < math.MaxInt {
		next.B++
	}
	for _, p := range [][]prog.Instr{{x, retry}, {retry, next}, {retry, next, retry}} {
		if e := prog.Check(c, p...); e != want {
			t.Errorf("Regs %d: Check of %v: %d; want %d", c.Regs, p, e, want)
		}
	}
}

func TestKindsHaveTheirNumbers(t *testing.T) {
	for i, kind := range allKinds {
		if kind != i+1 {
			t.Errorf("kind %d has the number %d", i+1, kind)
		}
	}
}

// P6.1, Check.
func TestCheckOfNone(t *testing.T) {
	for _, p := range [][]prog.Instr{nil, {}, []prog.Instr{{Kind: 99}}[:0]} {
		if e := prog.Check(conf(1), p...); e != api.OK {
			t.Errorf("Check of none: %d", e)
		}
	}
}

func TestCheckOfAConfThatMayNotBe(t *testing.T) {
	for _, c := range wrongConfs() {
		for _, p := range [][]prog.Instr{nil, {{Kind: prog.Retry}}, {{Kind: prog.Const}}, {{}}} {
			if e := prog.Check(c, p...); e != api.ErrForm {
				t.Errorf("%+v: Check of %v: %d; want ErrForm", c, p, e)
			}
		}
	}
}

func TestCheckTakesEachKind(t *testing.T) {
	if e := prog.Check(conf(1), good()...); e != api.OK {
		t.Errorf("all kinds: %d", e)
	}
}

func TestCheckOfHowMany(t *testing.T) {
	for _, x := range good() {
		if x.Kind == prog.Jump {
			continue
		}
		for n, want := range map[int]api.Errno{
			1: api.OK, 59: api.OK, api.MaxInstr: api.OK, api.MaxInstr + 1: api.ErrForm, 62: api.ErrForm, 1000: api.ErrForm,
		} {
			if e := prog.Check(conf(1), slices.Repeat([]prog.Instr{x}, n)...); e != want {
				t.Errorf("%d of kind %d: %d; want %d", n, x.Kind, e, want)
			}
		}
	}
}

func TestCheckRefusesWhatIsNoKind(t *testing.T) {
	for _, kind := range noKinds {
		checkAlone(t, conf(8), prog.Instr{Kind: kind}, api.ErrForm)
		checkAlone(t, conf(8), prog.Instr{Kind: kind, B: 2, C: -1}, api.ErrForm)
		checkAlone(t, conf(8), prog.Instr{Kind: kind, L: []int{0}}, api.ErrForm)
	}
}

// registerFields are the parts that name a register, kind by kind.
func registerFields() map[int][]func(x *prog.Instr) *int {
	a := func(x *prog.Instr) *int { return &x.A }
	c := func(x *prog.Instr) *int { return &x.C }
	l := func(x *prog.Instr) *int { return &x.L[0] }
	return map[int][]func(x *prog.Instr) *int{
		prog.Read: {a, c}, prog.Write: {a, c}, prog.Const: {a}, prog.Calc: {a, l}, prog.Jump: {a},
	}
}

func TestCheckOfRegisters(t *testing.T) {
	for regs := 1; regs <= api.MaxRegs; regs++ {
		for kind, fields := range registerFields() {
			for _, field := range fields {
				for _, n := range []int{-2, math.MinInt, regs, regs + 1, 8, math.MaxInt, 1 << 32} {
					x := ofKind(kind)
					x.B = min(x.B, 1)
					*field(&x) = n
					checkAlone(t, conf(regs), x, api.ErrForm)
				}
				for n := range regs {
					x := ofKind(kind)
					x.B = min(x.B, 1)
					*field(&x) = n
					checkAlone(t, conf(regs), x, api.OK)
				}
			}
		}
	}
}

// -1 is no register, but as C of Read and Write.
func TestCheckOfTheRegisterJustBelow(t *testing.T) {
	for kind, fields := range registerFields() {
		for i, field := range fields {
			x := ofKind(kind)
			x.B = min(x.B, 1)
			*field(&x) = -1
			want := api.ErrForm
			if i == 1 && kind != prog.Calc {
				want = api.OK
			}
			checkAlone(t, conf(3), x, want)
		}
	}
}

func TestCheckOfACalcsKind(t *testing.T) {
	for b := -3; b <= 12; b++ {
		want := api.ErrForm
		if b >= calc.Add && b <= calc.Min {
			want = api.OK
		}
		checkAlone(t, conf(2), prog.Instr{Kind: prog.Calc, B: b, L: []int{1, 0}}, want)
	}
	for _, b := range []int{math.MinInt, math.MaxInt, 1 << 32, 256} {
		checkAlone(t, conf(2), prog.Instr{Kind: prog.Calc, B: b, L: []int{1}}, api.ErrForm)
	}
}

func TestCheckOfACalcsList(t *testing.T) {
	for n := range 20 {
		want := api.ErrForm
		if n >= 1 && n <= api.MaxArgs {
			want = api.OK
		}
		checkAlone(t, conf(2), prog.Instr{Kind: prog.Calc, L: slices.Repeat([]int{1}, n)}, want)
	}
	checkAlone(t, conf(2), prog.Instr{Kind: prog.Calc, L: nil}, api.ErrForm)
	for n := 1; n <= api.MaxArgs; n++ {
		for at := range n {
			for _, wrong := range []int{-1, 2, 8, math.MinInt, math.MaxInt} {
				l := make([]int, n)
				l[at] = wrong
				checkAlone(t, conf(2), prog.Instr{Kind: prog.Calc, L: l}, api.ErrForm)
			}
		}
	}
}

func TestCheckRefusesAListElsewhere(t *testing.T) {
	for _, x := range good() {
		if x.Kind == prog.Calc {
			continue
		}
		x.B = min(x.B, 1)
		for _, l := range [][]int{{0}, {-1}, {0, 0}, make([]int, 9)} {
			x.L = l
			checkAlone(t, conf(3), x, api.ErrForm)
		}
		for _, l := range [][]int{nil, {}, []int{5, 6}[:0]} {
			x.L = l
			checkAlone(t, conf(3), x, api.OK)
		}
	}
}

// Every Jump of programs of one, some and the most instructions, to every
// place, and past both ends.
func TestCheckOfJumps(t *testing.T) {
	for _, count := range []int{1, 2, 3, 7, api.MaxInstr} {
		for at := range count {
			p := slices.Repeat([]prog.Instr{{Kind: prog.Retry}}, count)
			for to := -2; to <= count+2; to++ {
				p[at] = prog.Instr{Kind: prog.Jump, B: to}
				want := api.ErrForm
				if at < to && to <= count {
					want = api.OK
				}
				if e := prog.Check(conf(1), p...); e != want {
					t.Errorf("jump from %d of %d to %d: %d; want %d", at, count, to, e, want)
				}
			}
			for _, to := range []int{math.MinInt, math.MaxInt, 1<<32 + at + 1} {
				p[at] = prog.Instr{Kind: prog.Jump, B: to}
				if e := prog.Check(conf(1), p...); e != api.ErrForm {
					t.Errorf("jump from %d of %d to %d: %d; want ErrForm", at, count, to, e)
				}
			}
		}
	}
}

func TestCheckOfTheChaptersExample(t *testing.T) {
	p, e := prog.Parse("jump 0 0")
	if e != api.OK || prog.Check(conf(1), p...) != api.ErrForm {
		t.Errorf("jump 0 0: %v, %d", p, e)
	}
}

func TestCheckTakesAnythingThatIsNotNamed(t *testing.T) {
	for _, n := range anything {
		for _, x := range []prog.Instr{
			{Kind: prog.Read, B: n, C: -1},
			{Kind: prog.Write, B: n, C: 2},
			{Kind: prog.Const, B: n, C: 3 - n},
			{Kind: prog.Calc, C: n, L: []int{2}},
			{Kind: prog.Jump, B: 1, C: n},
			{Kind: prog.Retry, A: n, B: n, C: n},
			{Kind: prog.Abort, A: n, B: n, C: n},
		} {
			checkAlone(t, conf(3), x, api.OK)
		}
	}
}

// One that may not stand spoils a program, wherever it is.
func TestCheckLooksAtEveryInstruction(t *testing.T) {
	for at := range api.MaxInstr {
		p := slices.Repeat([]prog.Instr{{Kind: prog.Const}}, api.MaxInstr)
		p[at].A = 1
		if e := prog.Check(conf(1), p...); e != api.ErrForm {
			t.Errorf("the wrong one at %d: %d", at, e)
		}
	}
}

// P6.1, Addr.
func checkAddr(t *testing.T, b, c int, regs []int, want int) {
	t.Helper()
	for _, kind := range slices.Concat(allKinds, noKinds) {
		x := prog.Instr{Kind: kind, A: 99, B: b, C: c}
		if got := prog.Addr(conf(1), x, regs); got != want {
			t.Errorf("Addr of %v with %v: %d; want %d", x, regs, got, want)
		}
	}
}

func TestAddrOfBAlone(t *testing.T) {
	for b, want := range map[int]int{
		0: 0, 7: 7, 9: 9, 10: 0, 11: 1, 25: 5, -1: 9, -10: 0, -11: 9, math.MaxInt: 7, math.MinInt: 2,
	} {
		checkAddr(t, b, -1, nil, want)
		checkAddr(t, b, -1, []int{1, 2, 3}, want)
	}
}

func TestAddrWithARegister(t *testing.T) {
	regs := []int{3, -4, 0, 100}
	for _, x := range []struct{ b, c, want int }{
		{5, 0, 8}, {7, 0, 0}, {8, 0, 1}, {-3, 0, 0}, {-4, 0, 9}, {5, 1, 1}, {4, 1, 0}, {3, 1, 9}, {-7, 1, 9}, {6, 2, 6}, {-6, 2, 4}, {1, 3, 1}, {-101, 3, 9},
	} {
		checkAddr(t, x.b, x.c, regs, x.want)
	}
}

// The sum runs round as Go's int does, ahead of Wrap.
func TestAddrOfSumsThatRunRound(t *testing.T) {
	regs := []int{math.MaxInt, math.MinInt, 1, -1}
	for _, x := range []struct{ b, c, want int }{
		{0, 0, 7}, {1, 0, 2}, {math.MaxInt, 0, 8}, {math.MinInt, 0, 9},
		{0, 1, 2}, {-1, 1, 7}, {math.MinInt, 1, 0}, {math.MaxInt, 1, 9},
		{math.MaxInt, 2, 2}, {math.MinInt, 3, 7},
	} {
		checkAddr(t, x.b, x.c, regs, x.want)
	}
}

func TestAddrOfARegisterThatIsNone(t *testing.T) {
	for _, c := range []int{-2, -3, 3, 4, 8, math.MinInt, math.MaxInt, 1 << 32} {
		checkAddr(t, 5, c, []int{1, 2, 3}, 0)
	}
	for _, c := range []int{0, 1, -2} {
		checkAddr(t, 5, c, nil, 0)
		checkAddr(t, 5, c, []int{}, 0)
	}
	// What lies behind its length is none of regs.
	checkAddr(t, 5, 2, []int{1, 2, 3}[:2], 0)
	checkAddr(t, 5, 1, []int{1, 2, 3}[:2], 7)
}

// What counts is regs, however many registers the Conf has.
func TestAddrTakesMoreRegistersThanTheConfHas(t *testing.T) {
	checkAddr(t, 1, 9, []int{0, 1, 2, 3, 4, 5, 6, 7, 8, 19}, 0)
	checkAddr(t, 2, 9, []int{0, 1, 2, 3, 4, 5, 6, 7, 8, 19}, 1)
}

func TestAddrRunsRoundByTheHeapsWords(t *testing.T) {
	c := conf(1)
	c.Regions, c.Stripes = 2, 2
	for n := -100; n <= 100; n++ {
		want := ((n % 40) + 40) % 40
		if got := prog.Addr(c, prog.Instr{B: n, C: -1}, nil); got != want {
			t.Errorf("Addr of %d by 40 words: %d", n, got)
		}
		if got := prog.Addr(c, prog.Instr{B: n - 17}, []int{17}); got != want {
			t.Errorf("Addr of %d and 17 by 40 words: %d", n-17, got)
		}
	}
}

func TestAddrOfAConfThatMayNotBe(t *testing.T) {
	for _, c := range wrongConfs() {
		for _, x := range []prog.Instr{{B: 5, C: -1}, {B: 5}, {B: -5, C: 1}, {B: 5, C: 9}} {
			if got := prog.Addr(c, x, []int{1, 2}); got != 0 {
				t.Errorf("%+v: Addr of %v: %d; want 0", c, x, got)
			}
		}
	}
}

// P6.2. Each line and the one instruction, with 0 for what it doesn't name,
// whose Print it is.
type lineOf struct {
	line string
	x    prog.Instr
}

func lines() []lineOf {
	return []lineOf{
		{"read 2 -99 1", prog.Instr{Kind: prog.Read, A: 2, B: -99, C: 1}},
		{"read 0 0 0", prog.Instr{Kind: prog.Read}},
		{"read 9223372036854775807 -9223372036854775808 -1", prog.Instr{Kind: prog.Read, A: math.MaxInt, B: math.MinInt, C: -1}},
		{"write -5 7 -1", prog.Instr{Kind: prog.Write, A: -5, B: 7, C: -1}},
		{"write 10 100 -9223372036854775808", prog.Instr{Kind: prog.Write, A: 10, B: 100, C: math.MinInt}},
		{"const 1 -9223372036854775808", prog.Instr{Kind: prog.Const, A: 1, B: math.MinInt}},
		{"const -1 9223372036854775807", prog.Instr{Kind: prog.Const, A: -1, B: math.MaxInt}},
		{"calc 1 8 0 1 2", prog.Instr{Kind: prog.Calc, A: 1, B: 8, L: []int{0, 1, 2}}},
		{"calc 1 8", prog.Instr{Kind: prog.Calc, A: 1, B: 8}},
		{"calc -1 99 9223372036854775807", prog.Instr{Kind: prog.Calc, A: -1, B: 99, L: []int{math.MaxInt}}},
		{"calc 3 2 -1 -1 -1 -1 -1 -1 -1 -1 -1 -9223372036854775808", prog.Instr{Kind: prog.Calc, A: 3, B: 2, L: []int{-1, -1, -1, -1, -1, -1, -1, -1, -1, math.MinInt}}},
		{"jump 2 7", prog.Instr{Kind: prog.Jump, A: 2, B: 7}},
		{"jump -9223372036854775808 0", prog.Instr{Kind: prog.Jump, A: math.MinInt}},
		{"retry", prog.Instr{Kind: prog.Retry}},
		{"abort", prog.Instr{Kind: prog.Abort}},
	}
}

func parted(l []lineOf) ([]string, []prog.Instr) {
	var texts []string
	var p []prog.Instr
	for _, one := range l {
		texts, p = append(texts, one.line), append(p, one.x)
	}
	return texts, p
}

// equal is Same without the package's help.
func equal(a, b []prog.Instr) bool {
	return slices.EqualFunc(a, b, func(x, y prog.Instr) bool {
		return x.Kind == y.Kind && x.A == y.A && x.B == y.B && x.C == y.C && slices.Equal(x.L, y.L)
	})
}

func TestPrintOfEachKind(t *testing.T) {
	texts, p := parted(lines())
	if got := prog.Print(p...); !slices.Equal(got, texts) {
		t.Errorf("Print: %q; want %q", got, texts)
	}
	for _, one := range lines() {
		if got := prog.Print(one.x); !slices.Equal(got, []string{one.line}) {
			t.Errorf("Print of %v: %q; want %q", one.x, got, one.line)
		}
	}
}

func TestPrintOfNone(t *testing.T) {
	if got := prog.Print(); len(got) != 0 {
		t.Errorf("Print of none: %q", got)
	}
	if got := prog.Print([]prog.Instr{{Kind: prog.Retry}}[:0]...); len(got) != 0 {
		t.Errorf("Print of an empty list: %q", got)
	}
}

func TestPrintOfAnotherKindIsAnEmptyLine(t *testing.T) {
	for _, kind := range noKinds {
		x := prog.Instr{Kind: kind, A: 1, B: 2, C: 3, L: []int{4}}
		if got := prog.Print(prog.Instr{Kind: prog.Retry}, x, prog.Instr{Kind: prog.Abort}); !slices.Equal(got, []string{"retry", "", "abort"}) {
			t.Errorf("kind %d: %q", kind, got)
		}
	}
}

func TestPrintLeavesOutWhatIsNotNamed(t *testing.T) {
	for _, n := range anything {
		l := []int{n, n}
		got := prog.Print(
			prog.Instr{Kind: prog.Read, L: l}, prog.Instr{Kind: prog.Write, L: l},
			prog.Instr{Kind: prog.Const, C: n, L: l}, prog.Instr{Kind: prog.Calc, C: n},
			prog.Instr{Kind: prog.Jump, C: n, L: l}, prog.Instr{Kind: prog.Retry, A: n, B: n, C: n, L: l},
			prog.Instr{Kind: prog.Abort, A: n, B: n, C: n, L: l})
		if want := []string{"read 0 0 0", "write 0 0 0", "const 0 0", "calc 0 0", "jump 0 0", "retry", "abort"}; !slices.Equal(got, want) {
			t.Errorf("beside %d: %q", n, got)
		}
	}
}

func TestParseOfWhatPrintGives(t *testing.T) {
	texts, p := parted(lines())
	if got, e := prog.Parse(texts...); e != api.OK || !equal(got, p) {
		t.Errorf("Parse: %v, %d; want %v", got, e, p)
	}
	for _, one := range lines() {
		if got, e := prog.Parse(one.line); e != api.OK || !equal(got, []prog.Instr{one.x}) {
			t.Errorf("Parse of %q: %v, %d; want %v", one.line, got, e, one.x)
		}
	}
}

func TestParseOfNone(t *testing.T) {
	for _, l := range [][]string{nil, {}, []string{"read"}[:0]} {
		if got, e := prog.Parse(l...); len(got) != 0 || e != api.OK {
			t.Errorf("Parse of none: %v, %d", got, e)
		}
	}
}

// Parse goes by Print alone: what Check refuses is for Check to tell.
func TestParseTakesWhatCheckRefuses(t *testing.T) {
	texts := slices.Repeat([]string{"jump -1 0"}, 100)
	p, e := prog.Parse(texts...)
	if e != api.OK || len(p) != 100 || !slices.Equal(prog.Print(p...), texts) {
		t.Errorf("%d instructions, %d", len(p), e)
	}
}

func checkNoLine(t *testing.T, line string) {
	t.Helper()
	for _, l := range [][]string{{line}, {"retry", line}, {line, "abort"}, {"retry", line, "abort"}} {
		if got, e := prog.Parse(l...); len(got) != 0 || e != api.ErrForm {
			t.Errorf("Parse of %q: %v, %d; want none, ErrForm", l, got, e)
		}
	}
}

func TestParseRefusesWhatIsNoLine(t *testing.T) {
	for _, line := range []string{
		"", " ", "  ", "\n", "0", "1 2 3", "-", "\x00", "\xff",
		"Read 1 2 3", "READ 1 2 3", "rea 1 2 3", "reads 1 2 3", "read1 2 3", "readwrite 1 2 3", "1 read 2 3", "halt", "none", "Retry", "abort;", "\ufeffretry",
	} {
		checkNoLine(t, line)
	}
}

// Each line with its spaces done otherwise.
func TestParseRefusesOtherSpaces(t *testing.T) {
	for _, one := range lines() {
		for _, line := range []string{" " + one.line, one.line + " ", "  " + one.line, one.line + "  ", one.line + "\n", one.line + "\r", "\t" + one.line} {
			checkNoLine(t, line)
		}
		for i, b := range []byte(one.line) {
			if b != ' ' {
				continue
			}
			for _, other := range []string{"  ", "\t", "\n", "\u00a0", " \t", ",", ""} {
				checkJoined(t, one.line[:i], other, one.line[i+1:])
			}
		}
	}
}

// checkJoined holds that the two ends with other between them are no line of
// the instruction that they were: left without a space the ends may be
// another one's.
func checkJoined(t *testing.T, first, other, second string) {
	t.Helper()
	line := first + other + second
	got, e := prog.Parse(line)
	if e == api.OK && other == "" && slices.Equal(prog.Print(got...), []string{line}) {
		return
	}
	checkNoLine(t, line)
}

// Every number of every line in ways that Print doesn't write.
func TestParseRefusesOtherNumbers(t *testing.T) {
	for _, one := range lines() {
		parts := strings.Split(one.line, " ")
		for i := 1; i < len(parts); i++ {
			for _, wrong := range []string{
				"", "+3", "+0", "-0", "00", "01", "-01", "007", "--1", "-+1", "-", "+", "x", "1x", "0x1", "0b1", "1_0", "1e3", "1.0", ".", "'1'", "\u0663", "1\x00",
				"9223372036854775808", "-9223372036854775809", "18446744073709551616", "18446744073709551617", "99999999999999999999999999999999",
				"-99999999999999999999999999999999", "09223372036854775807",
			} {
				changed := slices.Clone(parts)
				changed[i] = wrong
				checkNoLine(t, strings.Join(changed, " "))
			}
		}
	}
}

func TestParseOfHowManyNumbers(t *testing.T) {
	counts := map[string][]int{
		"read": {3}, "write": {3}, "const": {2}, "jump": {2}, "retry": {0}, "abort": {0},
		"calc": {2, 3, 4, 5, 6, 7, 8, 9, 10, 11},
	}
	for word, right := range counts {
		for n := range 12 {
			line := word + strings.Repeat(" 1", n)
			if !slices.Contains(right, n) {
				checkNoLine(t, line)
				continue
			}
			if got, e := prog.Parse(line); e != api.OK || !slices.Equal(prog.Print(got...), []string{line}) {
				t.Errorf("Parse of %q: %v, %d", line, got, e)
			}
		}
	}
}

// Each line with one byte taken out, put in or put in another's place: it is
// refused, or Print gives just that line.
func TestParseTakesPrintsLinesAlone(t *testing.T) {
	const letters = " -+01x9_\t\x00ry"
	for _, one := range lines() {
		for i := range len(one.line) + 1 {
			changed := []string{one.line[:i], one.line[i:]}
			for _, b := range letters {
				changed = append(changed, one.line[:i]+string(b)+one.line[i:])
				if i < len(one.line) {
					changed = append(changed, one.line[:i]+string(b)+one.line[i+1:])
				}
			}
			if i < len(one.line) {
				changed = append(changed, one.line[:i]+one.line[i+1:])
			}
			for _, line := range changed {
				got, e := prog.Parse(line)
				taken := e == api.OK && slices.Equal(prog.Print(got...), []string{line})
				refused := e == api.ErrForm && len(got) == 0
				if !taken && !refused {
					t.Errorf("Parse of %q: %v, %d", line, got, e)
				}
			}
		}
	}
}

func TestSameOfWhatIsAlike(t *testing.T) {
	_, p := parted(lines())
	_, q := parted(lines())
	if !prog.Same(p, q) || !prog.Same(p, p) {
		t.Error("two that are alike")
	}
	for _, a := range [][]prog.Instr{nil, {}} {
		for _, b := range [][]prog.Instr{nil, {}, p[:0]} {
			if !prog.Same(a, b) || !prog.Same(b, a) {
				t.Error("two of none")
			}
		}
	}
	for _, x := range [][]int{nil, {}, []int{1, 2}[:0]} {
		for _, y := range [][]int{nil, {}, []int{3}[:0]} {
			if !prog.Same([]prog.Instr{{Kind: prog.Calc, L: x}}, []prog.Instr{{Kind: prog.Calc, L: y}}) {
				t.Error("nil and the empty list")
			}
		}
	}
}

// Lists that differ in one part of one instruction, of any kind: in one that
// the kind doesn't name, too.
func TestSameOfOnePartThatDiffers(t *testing.T) {
	changes := map[string]func(x *prog.Instr){
		"Kind":        func(x *prog.Instr) { x.Kind += 10 },
		"A":           func(x *prog.Instr) { x.A++ },
		"B":           func(x *prog.Instr) { x.B-- },
		"C":           func(x *prog.Instr) { x.C += 1 << 32 },
		"L, none":     func(x *prog.Instr) { x.L = nil },
		"L, shorter":  func(x *prog.Instr) { x.L = []int{4} },
		"L, longer":   func(x *prog.Instr) { x.L = []int{4, 5, 0} },
		"L, its last": func(x *prog.Instr) { x.L = []int{4, 6} },
		"L, order":    func(x *prog.Instr) { x.L = []int{5, 4} },
	}
	for _, kind := range slices.Concat(allKinds, noKinds[:3]) {
		p := slices.Repeat([]prog.Instr{{Kind: kind, A: 1, B: 2, C: 3, L: []int{4, 5}}}, 3)
		for name, change := range changes {
			for at := range p {
				q := slices.Clone(p)
				change(&q[at])
				if prog.Same(p, q) || prog.Same(q, p) {
					t.Errorf("kind %d, %s of %d: the same", kind, name, at)
				}
			}
		}
	}
}

func TestSameOfOtherLengthsAndOrders(t *testing.T) {
	_, p := parted(lines())
	for n := range p {
		if prog.Same(p, p[:n]) || prog.Same(p[:n], p) {
			t.Errorf("the first %d of %d: the same", n, len(p))
		}
	}
	if prog.Same(nil, []prog.Instr{{}}) || prog.Same([]prog.Instr{{}}, nil) {
		t.Error("none and a zero one: the same")
	}
	q := slices.Clone(p)
	q[0], q[1] = q[1], q[0]
	if prog.Same(p, q) {
		t.Error("another order: the same")
	}
}

// Same is 'one by one alike in all': two that Print can't tell apart may differ.
func TestSameTellsMoreThanPrint(t *testing.T) {
	a, b := []prog.Instr{{Kind: prog.Retry}}, []prog.Instr{{Kind: prog.Retry, A: 1}}
	if prog.Same(a, b) || !slices.Equal(prog.Print(a...), prog.Print(b...)) {
		t.Error("two of one line that differ beside it")
	}
}

// P0.4: what is handed in stays as it was, and is not kept.
func TestNothingHandedInIsChanged(t *testing.T) {
	room := []int{1, 2, 3, 4}
	p := []prog.Instr{{Kind: prog.Calc, A: 1, B: 8, L: room[:2]}, {Kind: prog.Read, C: 1}, {Kind: prog.Abort}}
	q := slices.Clone(p)
	regs := []int{5, 6, 7}
	texts := []string{"calc 1 8 1 2", "abort", "retry"}
	prog.Check(conf(3), p[:2]...)
	prog.Addr(conf(3), p[1], regs[:2])
	printed := prog.Print(p[:2]...)
	prog.Parse(texts[:2]...)
	prog.Same(p[:2], q[:2])
	if !equal(p, q) || !slices.Equal(room, []int{1, 2, 3, 4}) || !slices.Equal(regs, []int{5, 6, 7}) || !slices.Equal(texts, []string{"calc 1 8 1 2", "abort", "retry"}) {
		t.Error("something handed in is changed")
	}
	room[0], p[1].C = 9, 9
	if !slices.Equal(printed, []string{"calc 1 8 1 2", "read 0 0 1"}) {
		t.Errorf("what was printed is changed: %q", printed)
	}
}

// P0.4: whatever is written into an answer, or appended to it, no other list
// shows it.
func TestWhatIsHandedOutIsNewMemory(t *testing.T) {
	texts := []string{"calc 1 8 1 2 3", "calc 1 8", "calc 1 8 1 2 3", "retry"}
	first, _ := prog.Parse(texts...)
	second, _ := prog.Parse(texts...)
	for i := range first {
		l := append(first[i].L, 99, 98, 97)
		for at := range l {
			l[at] = -1
		}
		for at := range first[i].L {
			first[i].L[at] = 50
		}
		for other := i + 1; other < len(first); other++ {
			if !equal(first[other:other+1], second[other:other+1]) {
				t.Errorf("written into %d: %v", i, first[other])
			}
		}
	}
	_ = append(first[:1], prog.Instr{Kind: 99})
	if !slices.Equal(prog.Print(second...), texts) {
		t.Errorf("another answer is changed: %v", second)
	}
	a, b := prog.Print(second...), prog.Print(second...)
	a[0] = "x"
	_ = append(a[:1], "y", "z")
	if !slices.Equal(b, texts) {
		t.Errorf("another answer is changed: %q", b)
	}
}

// P6.3. followAll runs p every way that its Jumps may go, and tells whether an
// instruction is come to twice on one of them, or a step leaves the program
// elsewhere than at its end.
func followAll(p []prog.Instr, at int, seen []bool) bool {
	if at == len(p) {
		return true
	}
	if at < 0 || at > len(p) || seen[at] {
		return false
	}
	seen = slices.Clone(seen)
	seen[at] = true
	switch p[at].Kind {
	case prog.Retry, prog.Abort:
		return true
	case prog.Jump:
		return followAll(p, p[at].B, seen) && followAll(p, at+1, seen)
	}
	return followAll(p, at+1, seen)
}

// All programs of up to five instructions, with Jumps to all places.
func TestAProgramThatPassesEnds(t *testing.T) {
	choices := []prog.Instr{{Kind: prog.Const}, {Kind: prog.Retry}}
	for to := -1; to <= 6; to++ {
		choices = append(choices, prog.Instr{Kind: prog.Jump, B: to})
	}
	passed := make([]int, 6)
	var build func(p []prog.Instr)
	build = func(p []prog.Instr) {
		if prog.Check(conf(1), p...) == api.OK {
			passed[len(p)]++
			if !followAll(p, 0, make([]bool, len(p))) {
				t.Errorf("%q does not end", prog.Print(p...))
			}
		}
		if len(p) == 5 {
			return
		}
		for _, x := range choices {
			build(append(slices.Clone(p), x))
		}
	}
	build(nil)
	// At each place two that don't jump, and a Jump to each place behind it.
	want := []int{1, 3, 3 * 4, 3 * 4 * 5, 3 * 4 * 5 * 6, 3 * 4 * 5 * 6 * 7}
	if !slices.Equal(passed, want) {
		t.Errorf("how many pass, by their length: %v; want %v", passed, want)
	}
}

// The most Jumps that a program has room for, each to the next one, to the
// end, and half the way there.
func TestEveryJumpOfAProgramThatPassesGoesAhead(t *testing.T) {
	for name, to := range map[string]func(at int) int{
		"next": func(at int) int { return at + 1 },
		"end":  func(int) int { return api.MaxInstr },
		"half": func(at int) int { return (at + api.MaxInstr + 1) / 2 },
	} {
		p := make([]prog.Instr, api.MaxInstr)
		for i := range p {
			p[i] = prog.Instr{Kind: prog.Jump, B: to(i)}
		}
		if e := prog.Check(conf(1), p...); e != api.OK {
			t.Errorf("%s: %d; want OK", name, e)
		}
		for i := range p {
			q := slices.Clone(p)
			q[i].B = i
			if e := prog.Check(conf(1), q...); e != api.ErrForm {
				t.Errorf("%s, with %d to itself: %d; want ErrForm", name, i, e)
			}
		}
	}
}
