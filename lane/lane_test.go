package lane_test

import (
	"math"
	"slices"
	"testing"

	"latchkey/lane"
	"latchkey/mode"
)

type pair = lane.Entry
type pairs = []lane.Entry

// What may not be asked for: None, and what is no mode.
var wrongModes = []int{
	mode.None, -1, 6, -2, 7, -5, 64, 255, 256, 1 << 32, 1<<32 + 3, -(1 << 32),
	math.MinInt32, math.MaxInt32, math.MinInt, math.MaxInt,
}

// Any number is a who.
var anyWho = []int{math.MinInt, -(1 << 32), -1, 0, 1, 63, 64, 1 << 32, math.MaxInt}

func ask(t *testing.T, l *lane.Lane, who, m, want int) {
	t.Helper()
	if got := l.Ask(who, m); got != want {
		t.Errorf("P8.1: Ask(%d, %d) is %d, not %d", who, m, got, want)
	}
}

func leave(t *testing.T, l *lane.Lane, who int, want ...int) {
	t.Helper()
	if got := l.Leave(who); !slices.Equal(got, want) {
		t.Errorf("P8.2: Leave(%d) is %v, not %v", who, got, want)
	}
}

func blocks(t *testing.T, l *lane.Lane, who int, want ...int) {
	t.Helper()
	if got := l.Blocks(who); !slices.Equal(got, want) {
		t.Errorf("P8.3: Blocks(%d) is %v, not %v", who, got, want)
	}
}

func stands(t *testing.T, l *lane.Lane, holders, queue pairs) {
	t.Helper()
	if got := l.Holders(); !slices.Equal(got, holders) {
		t.Errorf("P8.3: Holders is %v, not %v", got, holders)
	}
	if got := l.Queue(); !slices.Equal(got, queue) {
		t.Errorf("P8.3: Queue is %v, not %v", got, queue)
	}
	for _, x := range holders {
		if got := l.Holds(x.Who); got != x.Mode {
			t.Errorf("P8.3: Holds(%d) is %d, not %d", x.Who, got, x.Mode)
		}
	}
	for _, x := range queue {
		if got := l.Waits(x.Who); got != x.Mode {
			t.Errorf("P8.3: Waits(%d) is %d, not %d", x.Who, got, x.Mode)
		}
	}
	if got := l.Empty(); got != (len(holders) == 0 && len(queue) == 0) {
		t.Errorf("P8.3: Empty is %v", got)
	}
}

// take lets each of l hold its mode: all of them fit.
func take(t *testing.T, l *lane.Lane, all ...pair) {
	t.Helper()
	for _, x := range all {
		ask(t, l, x.Who, x.Mode, lane.Granted)
	}
}

func TestAnswers(t *testing.T) {
	if lane.Bad != 0 || lane.Granted != 1 || lane.Waiting != 2 {
		t.Error("the answers are Bad 0, Granted 1, Waiting 2")
	}
}

func TestNewHasNobody(t *testing.T) {
	l := lane.New()
	stands(t, l, nil, nil)
	for _, who := range anyWho {
		if l.Holds(who) != mode.None || l.Waits(who) != mode.None {
			t.Errorf("P8.3: %d holds or waits in a new lane", who)
		}
		blocks(t, l, who)
		leave(t, l, who)
	}
	stands(t, l, nil, nil)
}

func TestLanesAreApart(t *testing.T) {
	a, b := lane.New(), lane.New()
	ask(t, a, 1, mode.X, lane.Granted)
	stands(t, b, nil, nil)
	ask(t, b, 2, mode.X, lane.Granted)
	stands(t, a, pairs{{1, mode.X}}, nil)
}

func TestAskOfWrongModesIsBad(t *testing.T) {
	for _, m := range wrongModes {
		l := lane.New()
		ask(t, l, 1, m, lane.Bad)
		stands(t, l, nil, nil)
		take(t, l, pair{1, mode.X})
		ask(t, l, 1, m, lane.Bad)
		ask(t, l, 2, m, lane.Bad)
		stands(t, l, pairs{{1, mode.X}}, nil)
		ask(t, l, 2, mode.IS, lane.Waiting)
		ask(t, l, 2, m, lane.Bad)
		ask(t, l, 3, m, lane.Bad)
		stands(t, l, pairs{{1, mode.X}}, pairs{{2, mode.IS}})
	}
}

func TestAskOfOneThatWaitsIsBad(t *testing.T) {
	for m := mode.IS; m <= mode.X; m++ {
		l := lane.New()
		take(t, l, pair{1, mode.S}, pair{2, mode.S})
		ask(t, l, 1, mode.IX, lane.Waiting)
		ask(t, l, 3, mode.S, lane.Waiting)
		ask(t, l, 1, m, lane.Bad) // even of what it holds
		ask(t, l, 3, m, lane.Bad)
		stands(t, l, pairs{{1, mode.S}, {2, mode.S}}, pairs{{1, mode.SIX}, {3, mode.S}})
	}
}

func TestAskOfAnyWho(t *testing.T) {
	l := lane.New()
	for _, who := range slices.Backward(anyWho) {
		ask(t, l, who, mode.IX, lane.Granted)
	}
	var want pairs
	for _, who := range anyWho {
		want = append(want, pair{who, mode.IX})
	}
	stands(t, l, want, nil)
}

func TestAskOfWhatIsHeldAlready(t *testing.T) {
	for held := mode.IS; held <= mode.X; held++ {
		for m := mode.IS; m <= mode.X; m++ {
			l := lane.New()
			take(t, l, pair{1, held}, pair{1, m})
			stands(t, l, pairs{{1, mode.Sup(held, m)}}, nil)
		}
	}
	// It passes even conversions that wait: it asks for nothing more.
	l := lane.New()
	take(t, l, pair{1, mode.S}, pair{2, mode.S})
	ask(t, l, 1, mode.X, lane.Waiting)
	ask(t, l, 3, mode.IS, lane.Waiting)
	ask(t, l, 2, mode.S, lane.Granted)
	ask(t, l, 2, mode.IS, lane.Granted)
	stands(t, l, pairs{{1, mode.S}, {2, mode.S}}, pairs{{1, mode.X}, {3, mode.IS}})
}

func TestNewOneBesideEachMode(t *testing.T) {
	for held := mode.IS; held <= mode.X; held++ {
		for m := mode.IS; m <= mode.X; m++ {
			l := lane.New()
			take(t, l, pair{1, held})
			if mode.Fits(m, held) {
				ask(t, l, 2, m, lane.Granted)
				stands(t, l, pairs{{1, held}, {2, m}}, nil)
				continue
			}
			ask(t, l, 2, m, lane.Waiting)
			stands(t, l, pairs{{1, held}}, pairs{{2, m}})
			if l.Holds(2) != mode.None {
				t.Error("P8.1: one that waits holds nothing yet")
			}
			blocks(t, l, 2, 1)
			leave(t, l, 1, 2)
			stands(t, l, pairs{{2, m}}, nil)
		}
	}
}

func TestNewOneMustFitWithAll(t *testing.T) {
	for _, who := range []int{0, 2, 4} { // ahead of, between and behind those that hold
		l := lane.New()
		take(t, l, pair{1, mode.IS}, pair{3, mode.IX})
		ask(t, l, who, mode.S, lane.Waiting)
		blocks(t, l, who, 3)
		l = lane.New()
		take(t, l, pair{1, mode.IX}, pair{3, mode.IS})
		ask(t, l, who, mode.S, lane.Waiting)
		blocks(t, l, who, 1)
	}
}

func TestNewOneWaitsBehindAllThoughItFits(t *testing.T) {
	l := lane.New()
	take(t, l, pair{1, mode.IS}, pair{2, mode.IX})
	ask(t, l, 9, mode.S, lane.Waiting)
	ask(t, l, 3, mode.IS, lane.Waiting)
	ask(t, l, 5, mode.IX, lane.Waiting)
	stands(t, l, pairs{{1, mode.IS}, {2, mode.IX}}, pairs{{9, mode.S}, {3, mode.IS}, {5, mode.IX}})
	// Behind a conversion alone, too.
	l = lane.New()
	take(t, l, pair{1, mode.IX}, pair{2, mode.IX})
	ask(t, l, 1, mode.S, lane.Waiting)
	ask(t, l, 3, mode.IS, lane.Waiting)
	stands(t, l, pairs{{1, mode.IX}, {2, mode.IX}}, pairs{{1, mode.SIX}, {3, mode.IS}})
}

func TestConversionBesideEachMode(t *testing.T) {
	for held := mode.IS; held <= mode.X; held++ {
		for other := mode.IS; other <= mode.X; other++ {
			if !mode.Fits(held, other) {
				continue
			}
			for m := mode.IS; m <= mode.X; m++ {
				l := lane.New()
				take(t, l, pair{1, held}, pair{2, other})
				target := mode.Sup(held, m)
				if mode.Fits(target, other) {
					ask(t, l, 1, m, lane.Granted)
					stands(t, l, pairs{{1, target}, {2, other}}, nil)
					continue
				}
				ask(t, l, 1, m, lane.Waiting)
				stands(t, l, pairs{{1, held}, {2, other}}, pairs{{1, target}})
				blocks(t, l, 1, 2)
				blocks(t, l, 2)
				leave(t, l, 2, 1)
				stands(t, l, pairs{{1, target}}, nil)
			}
		}
	}
}

func TestConversionOfOneAloneIsGranted(t *testing.T) {
	l := lane.New()
	take(t, l, pair{1, mode.S}, pair{1, mode.IX}, pair{1, mode.X})
	stands(t, l, pairs{{1, mode.X}}, nil)
}

func TestConversionPassesNewOnes(t *testing.T) {
	l := lane.New()
	take(t, l, pair{1, mode.IS}, pair{2, mode.IX})
	ask(t, l, 3, mode.S, lane.Waiting)
	ask(t, l, 1, mode.IX, lane.Granted)
	stands(t, l, pairs{{1, mode.IX}, {2, mode.IX}}, pairs{{3, mode.S}})
	blocks(t, l, 3, 1, 2)
}

func TestConversionsStandBehindEachOtherAheadOfAll(t *testing.T) {
	l := lane.New()
	take(t, l, pair{1, mode.IS}, pair{2, mode.IX}, pair{3, mode.IS}, pair{4, mode.IS})
	ask(t, l, 8, mode.X, lane.Waiting)
	ask(t, l, 7, mode.IS, lane.Waiting)
	ask(t, l, 3, mode.S, lane.Waiting)
	ask(t, l, 1, mode.IX, lane.Waiting) // it fits, but a conversion waits
	ask(t, l, 9, mode.IS, lane.Waiting)
	ask(t, l, 2, mode.X, lane.Waiting)
	held := pairs{{1, mode.IS}, {2, mode.IX}, {3, mode.IS}, {4, mode.IS}}
	stands(t, l, held, pairs{
		{3, mode.S}, {1, mode.IX}, {2, mode.X}, {8, mode.X}, {7, mode.IS}, {9, mode.IS},
	})
	blocks(t, l, 3, 2)
	blocks(t, l, 1, 3)
	blocks(t, l, 2, 1, 3, 4)
	blocks(t, l, 8, 1, 2, 3, 4)
	blocks(t, l, 7, 1, 2, 3, 8)
	blocks(t, l, 9, 1, 2, 3, 7, 8)
	blocks(t, l, 4)
	blocks(t, l, 5)
	// The writer goes, the reader is granted, and the one that intends to write is not.
	leave(t, l, 2, 3)
	stands(t, l, pairs{{1, mode.IS}, {3, mode.S}, {4, mode.IS}},
		pairs{{1, mode.IX}, {8, mode.X}, {7, mode.IS}, {9, mode.IS}})
	leave(t, l, 3, 1)
	leave(t, l, 8, 7, 9)
	stands(t, l, pairs{{1, mode.IX}, {4, mode.IS}, {7, mode.IS}, {9, mode.IS}}, nil)
}

func TestLeaveOfOneThatIsNotThere(t *testing.T) {
	l := lane.New()
	take(t, l, pair{1, mode.S}, pair{3, mode.S})
	ask(t, l, 4, mode.X, lane.Waiting)
	ask(t, l, 6, mode.S, lane.Waiting)
	for _, who := range []int{0, 2, 5, 7, -1, math.MinInt, math.MaxInt} {
		leave(t, l, who)
		stands(t, l, pairs{{1, mode.S}, {3, mode.S}}, pairs{{4, mode.X}, {6, mode.S}})
	}
}

func TestLeaveOfOneThatHolds(t *testing.T) {
	l := lane.New()
	take(t, l, pair{1, mode.S}, pair{2, mode.S}, pair{3, mode.S})
	ask(t, l, 4, mode.IX, lane.Waiting)
	leave(t, l, 2) // nobody yet
	stands(t, l, pairs{{1, mode.S}, {3, mode.S}}, pairs{{4, mode.IX}})
	leave(t, l, 1)
	leave(t, l, 3, 4)
	stands(t, l, pairs{{4, mode.IX}}, nil)
	leave(t, l, 4)
	stands(t, l, nil, nil)
	ask(t, l, 4, mode.S, lane.Granted) // what it held is forgotten
	stands(t, l, pairs{{4, mode.S}}, nil)
}

func TestLeaveOfOneThatWaits(t *testing.T) {
	l := lane.New()
	take(t, l, pair{1, mode.S})
	ask(t, l, 2, mode.X, lane.Waiting)
	ask(t, l, 3, mode.S, lane.Waiting)
	ask(t, l, 4, mode.IX, lane.Waiting)
	ask(t, l, 5, mode.S, lane.Waiting)
	leave(t, l, 5) // the last
	stands(t, l, pairs{{1, mode.S}}, pairs{{2, mode.X}, {3, mode.S}, {4, mode.IX}})
	leave(t, l, 3) // one between
	stands(t, l, pairs{{1, mode.S}}, pairs{{2, mode.X}, {4, mode.IX}})
	ask(t, l, 3, mode.IS, lane.Waiting) // it may ask once more, behind all
	leave(t, l, 2)
	stands(t, l, pairs{{1, mode.S}}, pairs{{4, mode.IX}, {3, mode.IS}})
	leave(t, l, 4, 3) // the first
	stands(t, l, pairs{{1, mode.S}, {3, mode.IS}}, nil)
}

func TestLeaveOfOneThatConverts(t *testing.T) {
	l := lane.New()
	take(t, l, pair{1, mode.S}, pair{2, mode.S})
	ask(t, l, 1, mode.X, lane.Waiting)
	ask(t, l, 2, mode.X, lane.Waiting)
	ask(t, l, 3, mode.S, lane.Waiting)
	leave(t, l, 1, 2)
	stands(t, l, pairs{{2, mode.X}}, pairs{{3, mode.S}})
	if l.Holds(1) != mode.None || l.Waits(1) != mode.None {
		t.Error("P8.2: it holds or waits still")
	}
	// What it held kept another one out, what it waited for the ones behind.
	l = lane.New()
	take(t, l, pair{1, mode.IX}, pair{2, mode.IS}, pair{3, mode.IX})
	ask(t, l, 1, mode.X, lane.Waiting)
	ask(t, l, 4, mode.IX, lane.Waiting)
	ask(t, l, 5, mode.S, lane.Waiting)
	leave(t, l, 1, 4)
	stands(t, l, pairs{{2, mode.IS}, {3, mode.IX}, {4, mode.IX}}, pairs{{5, mode.S}})
}

func TestLeaveGrantsUntilOneDoesNotFit(t *testing.T) {
	l := lane.New()
	take(t, l, pair{1, mode.X})
	ask(t, l, 9, mode.S, lane.Waiting)
	ask(t, l, 4, mode.IS, lane.Waiting)
	ask(t, l, 6, mode.S, lane.Waiting)
	ask(t, l, 5, mode.IX, lane.Waiting)
	ask(t, l, 2, mode.S, lane.Waiting) // it would fit, but 5 stands ahead
	leave(t, l, 1, 9, 4, 6)
	stands(t, l, pairs{{4, mode.IS}, {6, mode.S}, {9, mode.S}}, pairs{{5, mode.IX}, {2, mode.S}})
	leave(t, l, 9)
	leave(t, l, 6, 5)
	leave(t, l, 5, 2)
	stands(t, l, pairs{{2, mode.S}, {4, mode.IS}}, nil)
}

func TestLeaveGrantsAllConversionsAndNewOnes(t *testing.T) {
	l := lane.New()
	take(t, l, pair{1, mode.IS}, pair{2, mode.SIX}, pair{3, mode.IS})
	ask(t, l, 4, mode.IX, lane.Waiting)
	ask(t, l, 3, mode.IX, lane.Waiting)
	ask(t, l, 1, mode.IX, lane.Waiting)
	leave(t, l, 2, 3, 1, 4)
	stands(t, l, pairs{{1, mode.IX}, {3, mode.IX}, {4, mode.IX}}, nil)
}

func TestWaitsOfAConversionIsItsTarget(t *testing.T) {
	l := lane.New()
	take(t, l, pair{1, mode.IX}, pair{2, mode.IX})
	ask(t, l, 1, mode.S, lane.Waiting)
	if l.Waits(1) != mode.SIX || l.Holds(1) != mode.IX {
		t.Error("P8.3: it waits for SIX and holds IX")
	}
	if l.Waits(2) != mode.None || l.Waits(3) != mode.None || l.Holds(3) != mode.None {
		t.Error("P8.3: who does not wait or hold")
	}
}

func TestBlocksNamesEachOnce(t *testing.T) {
	// 2 stands ahead of 1 and holds what 1's target does not fit with.
	l := lane.New()
	take(t, l, pair{1, mode.S}, pair{2, mode.S}, pair{3, mode.S})
	ask(t, l, 2, mode.X, lane.Waiting)
	ask(t, l, 3, mode.X, lane.Waiting)
	ask(t, l, 1, mode.X, lane.Waiting)
	blocks(t, l, 2, 1, 3)
	blocks(t, l, 3, 1, 2)
	blocks(t, l, 1, 2, 3)
}

func TestExampleOfTheChapter(t *testing.T) {
	l := lane.New()
	take(t, l, pair{1, mode.S}, pair{2, mode.S})
	ask(t, l, 1, mode.X, lane.Waiting)
	ask(t, l, 2, mode.X, lane.Waiting)
	blocks(t, l, 1, 2)
	blocks(t, l, 2, 1)
}

// spoil writes into all of a list, its spare room too.
func spoil[T any](l []T, v T) {
	l = l[:cap(l)]
	for i := range l {
		l[i] = v
	}
}

func TestAnswersAreNewMemory(t *testing.T) {
	l := lane.New()
	take(t, l, pair{1, mode.S}, pair{2, mode.S}, pair{3, mode.S})
	ask(t, l, 5, mode.X, lane.Waiting)
	ask(t, l, 4, mode.S, lane.Waiting)
	ask(t, l, 6, mode.S, lane.Waiting)
	leave(t, l, 3)
	holders, queue := pairs{{1, mode.S}, {2, mode.S}}, pairs{{5, mode.X}, {4, mode.S}, {6, mode.S}}
	h, q, b := l.Holders(), l.Queue(), l.Blocks(6)
	for _, name := range []string{"Holders", "Queue", "Blocks"} {
		switch name {
		case "Holders":
			spoil(l.Holders(), pair{77, 77})
		case "Queue":
			spoil(l.Queue(), pair{77, 77})
		case "Blocks":
			spoil(l.Blocks(6), 77)
		}
		stands(t, l, holders, queue)
		blocks(t, l, 6, 4, 5)
	}
	if !slices.Equal(h, holders) || !slices.Equal(q, queue) || !slices.Equal(b, []int{4, 5}) {
		t.Error("P8.4: an earlier answer was changed")
	}
}

func TestAnswersStandBehindLaterCalls(t *testing.T) {
	l := lane.New()
	take(t, l, pair{2, mode.X})
	for who := 3; who < 9; who++ {
		ask(t, l, who, mode.S, lane.Waiting)
	}
	h, q, b := l.Holders(), l.Queue(), l.Blocks(8)
	granted := l.Leave(2)
	spoil(l.Leave(99), 77)
	take(t, l, pair{1, mode.IS}, pair{2, mode.IS})
	ask(t, l, 10, mode.X, lane.Waiting)
	l.Leave(5)
	if !slices.Equal(h, pairs{{2, mode.X}}) || len(q) != 6 || q[0] != (pair{3, mode.S}) || q[5] != (pair{8, mode.S}) {
		t.Errorf("P8.4: Holders and Queue of before are %v, %v now", h, q)
	}
	if !slices.Equal(b, []int{2, 3, 4, 5, 6, 7}) || !slices.Equal(granted, []int{3, 4, 5, 6, 7, 8}) {
		t.Errorf("P8.4: Blocks and Leave of before are %v, %v now", b, granted)
	}
	spoil(granted, 77)
	spoil(h, pair{77, 77})
	spoil(q, pair{77, 77})
	stands(t, l, pairs{
		{1, mode.IS}, {2, mode.IS}, {3, mode.S}, {4, mode.S}, {6, mode.S}, {7, mode.S}, {8, mode.S},
	}, pairs{{10, mode.X}})
}

// model does what the promises say with plain maps: who holds what, and who
// waits for what since which turn.
type model struct {
	held   map[int]int
	target map[int]int
	since  map[int]int
	turn   int
}

func newModel() *model {
	return &model{held: map[int]int{}, target: map[int]int{}, since: map[int]int{}}
}

func (o *model) converts(who int) bool {
	return o.target[who] != mode.None && o.held[who] != mode.None
}

// clash answers all others that hold what target does not fit with.
func (o *model) clash(who, target int) []int {
	var out []int
	for other, m := range o.held {
		if other != who && m != mode.None && !mode.Fits(m, target) {
			out = append(out, other)
		}
	}
	slices.Sort(out)
	return out
}

// queue sorts those that wait: conversions first, then by when they asked.
func (o *model) queue() []int {
	var out []int
	for who, m := range o.target {
		if m != mode.None {
			out = append(out, who)
		}
	}
	slices.SortFunc(out, func(a, b int) int {
		if o.converts(a) != o.converts(b) {
			if o.converts(a) {
				return -1
			}
			return 1
		}
		return o.since[a] - o.since[b]
	})
	return out
}

func (o *model) ask(who, m int) int {
	if slices.Contains(wrongModes, m) || o.target[who] != mode.None {
		return lane.Bad
	}
	target := mode.Sup(o.held[who], m)
	if target == o.held[who] {
		return lane.Granted
	}
	ahead := o.queue()
	if o.held[who] != mode.None {
		ahead = slices.DeleteFunc(ahead, func(x int) bool { return !o.converts(x) })
	}
	if len(ahead) == 0 && len(o.clash(who, target)) == 0 {
		o.held[who] = target
		return lane.Granted
	}
	o.turn++
	o.target[who], o.since[who] = target, o.turn
	return lane.Waiting
}

func (o *model) leave(who int) []int {
	delete(o.held, who)
	delete(o.target, who)
	var granted []int
	for {
		q := o.queue()
		if len(q) == 0 || len(o.clash(q[0], o.target[q[0]])) > 0 {
			return granted
		}
		o.held[q[0]] = o.target[q[0]]
		delete(o.target, q[0])
		granted = append(granted, q[0])
	}
}

func (o *model) blocks(who int) []int {
	if o.target[who] == mode.None {
		return nil
	}
	out := o.clash(who, o.target[who])
	for _, ahead := range o.queue() {
		if ahead == who {
			break
		}
		if !slices.Contains(out, ahead) {
			out = append(out, ahead)
		}
	}
	slices.Sort(out)
	return out
}

func (o *model) holders() pairs {
	var out pairs
	for who, m := range o.held {
		if m != mode.None {
			out = append(out, pair{who, m})
		}
	}
	slices.SortFunc(out, func(a, b pair) int { return a.Who - b.Who })
	return out
}

// alike holds all that a lane tells against the model.
func alike(t *testing.T, l *lane.Lane, o *model, most int) {
	t.Helper()
	var queue pairs
	for _, who := range o.queue() {
		queue = append(queue, pair{who, o.target[who]})
	}
	stands(t, l, o.holders(), queue)
	for who := -1; who <= most; who++ {
		if l.Holds(who) != o.held[who] || l.Waits(who) != o.target[who] {
			t.Errorf("P8.3: of %d: Holds %d, Waits %d, not %d, %d",
				who, l.Holds(who), l.Waits(who), o.held[who], o.target[who])
		}
		blocks(t, l, who, o.blocks(who)...)
	}
}

// holdsTogether asks for P8.5.
func holdsTogether(t *testing.T, l *lane.Lane) {
	t.Helper()
	h := l.Holders()
	for i, a := range h {
		for _, b := range h[i+1:] {
			if !mode.Fits(a.Mode, b.Mode) {
				t.Errorf("P8.5: %v and %v do not fit", a, b)
			}
		}
	}
	if q := l.Queue(); len(q) > 0 {
		b := l.Blocks(q[0].Who)
		if len(b) == 0 {
			t.Errorf("P8.5: %v waits for nobody", q[0])
		}
		if slices.Contains(b, q[0].Who) {
			t.Errorf("P8.5: %v waits for itself", q[0])
		}
	}
}

// do makes one call on both: m below 0 is Leave.
func do(t *testing.T, l *lane.Lane, o *model, who, m int) {
	t.Helper()
	if m < 0 {
		leave(t, l, who, o.leave(who)...)
		return
	}
	ask(t, l, who, m, o.ask(who, m))
}

// Every short row of calls of three: 18 calls, four of them behind each other.
func TestEveryShortRow(t *testing.T) {
	calls := [][2]int{}
	for who := range 3 {
		for _, m := range []int{-1, mode.IS, mode.IX, mode.S, mode.SIX, mode.X} {
			calls = append(calls, [2]int{who, m})
		}
	}
	for row := range 18 * 18 * 18 * 18 {
		l, o := lane.New(), newModel()
		left := row
		for range 4 {
			do(t, l, o, calls[left%18][0], calls[left%18][1])
			left /= 18
		}
		alike(t, l, o, 3)
		holdsTogether(t, l)
		if t.Failed() {
			t.Fatalf("in the row %d", row)
		}
	}
}

// Long rows of few and of many, wrong modes among them.
func TestLongRows(t *testing.T) {
	seed := uint64(8)
	pick := func(n int) int {
		seed = seed*6364136223846793005 + 1442695040888963407
		return int(seed >> 33 % uint64(n))
	}
	modes := []int{mode.IS, mode.IS, mode.IX, mode.S, mode.SIX, mode.X, mode.IS, mode.IX, mode.S, mode.None, 6}
	for _, most := range []int{2, 3, 5, 9, 64} {
		for row := range 25 {
			l, o := lane.New(), newModel()
			for range 150 {
				m := modes[pick(len(modes))]
				if pick(4) == 0 {
					m = -1
				}
				do(t, l, o, pick(most), m)
				alike(t, l, o, most)
				holdsTogether(t, l)
				if t.Failed() {
					t.Fatalf("in the row %d of %d", row, most)
				}
			}
			for who := range most {
				do(t, l, o, who, -1)
			}
			stands(t, l, nil, nil)
		}
	}
}

func TestManyInOneLane(t *testing.T) {
	const many = 3000
	l := lane.New()
	take(t, l, pair{-1, mode.X})
	var all []int
	for who := range many {
		ask(t, l, who, mode.S, lane.Waiting)
		all = append(all, who)
	}
	leave(t, l, -1, all...)
	if len(l.Holders()) != many || len(l.Queue()) != 0 {
		t.Error("P8.2: all of them are granted")
	}
	for who := range many {
		leave(t, l, who)
	}
	stands(t, l, nil, nil)
}
