package cell_test

import (
	"fmt"
	"math"
	"math/rand"
	"slices"
	"testing"

	"hauberk/api"
	"hauberk/cell"
)

const most = 1<<53 - 1

// call is one that is made of a cell; what tells it.
type call struct {
	what string
	of   func(c *cell.Cell) api.Errno
}

func write(n int) call {
	return call{fmt.Sprintf("Write(%d)", n), func(c *cell.Cell) api.Errno { return c.Write(n) }}
}

func crash(behind bool) call {
	return call{fmt.Sprintf("Crash(%t)", behind), func(c *cell.Cell) api.Errno { return c.Crash(behind) }}
}

func start() call {
	return call{"Start()", (*cell.Cell).Start}
}

// step is a call, what it is to answer, and how the cell is to be behind it.
type step struct {
	call
	want api.Errno
	kept int
	down bool
}

func play(t *testing.T, c *cell.Cell, l ...step) {
	t.Helper()
	for i, s := range l {
		if e := s.of(c); e != s.want || c.Read() != s.kept || c.Down() != s.down {
			t.Errorf("%d: %s: %d, %d, %t, want %d, %d, %t", i, s.what, e, c.Read(), c.Down(), s.want, s.kept, s.down)
		}
	}
}

// way is one in which a cell that is there may stand, and how it got there.
type way struct {
	name string
	down bool
	// What a write that is taken answers, and whether it is kept.
	answer api.Errno
	keeps  bool
	make   func(kept int) *cell.Cell
}

// ways answers every way in which a cell may stand, each by more than one path.
func ways() []way {
	path := func(l ...call) func(kept int) *cell.Cell {
		return func(kept int) *cell.Cell {
			c := cell.New()
			if kept > 0 {
				c.Write(kept)
			}
			for _, x := range l {
				x.of(c)
			}
			return c
		}
	}
	lost := func(l ...call) []call { return slices.Concat([]call{crash(false), write(most)}, l) }
	return []way{
		{"up", false, api.OK, true, path()},
		{"up again", false, api.OK, true, path(lost(start())...)},
		{"ahead", false, api.ErrDown, false, path(crash(false))},
		{"ahead twice", false, api.ErrDown, false, path(crash(false), crash(false))},
		{"behind, then ahead", false, api.ErrDown, false, path(crash(true), crash(false))},
		{"up again, then ahead", false, api.ErrDown, false, path(lost(start(), crash(false))...)},
		{"behind", false, api.ErrDown, true, path(crash(true))},
		{"behind twice", false, api.ErrDown, true, path(crash(true), crash(true))},
		{"ahead, then behind", false, api.ErrDown, true, path(crash(false), crash(true))},
		{"up again, then behind", false, api.ErrDown, true, path(lost(start(), crash(true))...)},
		{"down", true, api.ErrState, false, path(lost()...)},
		{"down again", true, api.ErrState, false, path(lost(start(), crash(true), crash(false), write(most))...)},
	}
}

// eachWay hands over the ways, each with some number that is kept.
func eachWay(f func(w way, kept int)) {
	for _, w := range ways() {
		for _, kept := range []int{0, 1, 7, 1 << 32, most - 2} {
			f(w, kept)
		}
	}
}

// tooLow and tooHigh are numbers that may not be written above what is kept.
func tooLow(kept int) []int {
	return []int{kept, kept - 1, kept / 2, 0, -1, -kept - 1, -most, -1 << 53, -1 << 62, math.MinInt, math.MinInt + 1}
}

func tooHigh() []int {
	return []int{most + 1, most + 2, 1<<53 + 1, 1 << 54, 1<<62 + 5, math.MaxInt - 1, math.MaxInt}
}

// The chapter's examples

func TestExamples(t *testing.T) {
	play(t, cell.New(),
		step{write(5), api.OK, 5, false},
		step{write(5), api.ErrRange, 5, false},
		step{write(4), api.ErrRange, 5, false},
		step{write(9), api.OK, 9, false},

		step{crash(false), api.OK, 9, false},
		step{write(9), api.ErrRange, 9, false},
		step{write(12), api.ErrDown, 9, true},
		step{write(13), api.ErrState, 9, true},
		step{start(), api.OK, 9, false},
		step{write(11), api.OK, 11, false},

		step{crash(true), api.OK, 11, false},
		step{write(20), api.ErrDown, 20, true},
		step{crash(true), api.ErrState, 20, true},
		step{start(), api.OK, 20, false},
		step{start(), api.ErrState, 20, false},

		step{crash(true), api.OK, 20, false},
		step{crash(false), api.OK, 20, false},
		step{write(21), api.ErrDown, 20, true},
	)
}

func TestNumbersOfErrors(t *testing.T) {
	c := cell.New()
	var nobody *cell.Cell
	got := []api.Errno{nobody.Write(1), c.Write(0), c.Start(), c.Crash(false), c.Write(1)}
	if want := []api.Errno{1, 9, 80, 0, 270}; !slices.Equal(got, want) {
		t.Errorf("%v, want %v", got, want)
	}
}

// P7.1

func TestNew(t *testing.T) {
	c := cell.New()
	if c == nil || c.Read() != 0 || c.Down() {
		t.Fatalf("a new cell: %v", c)
	}
	play(t, c, // it is up, since it can't be started, and not armed, since writes are taken
		step{start(), api.ErrState, 0, false},
		step{write(1), api.OK, 1, false},
		step{write(2), api.OK, 2, false},
	)
}

func TestNewOnesAreOfTheirOwn(t *testing.T) {
	a, b := cell.New(), cell.New()
	play(t, a, step{write(7), api.OK, 7, false}, step{crash(true), api.OK, 7, false})
	play(t, b, step{write(3), api.OK, 3, false}, step{write(4), api.OK, 4, false})
	play(t, a, step{write(8), api.ErrDown, 8, true})
	play(t, b, step{start(), api.ErrState, 4, false}, step{write(5), api.OK, 5, false})
	play(t, cell.New(), step{start(), api.ErrState, 0, false}, step{write(1), api.OK, 1, false})
	play(t, a, step{start(), api.OK, 8, false})
}

func TestNoCell(t *testing.T) {
	var nobody *cell.Cell
	var zero cell.Cell
	for i, c := range []*cell.Cell{nobody, &zero, {}, new(cell.Cell)} {
		var calls []call
		for _, n := range slices.Concat(tooLow(0), tooHigh(), []int{1, 2, most}) {
			calls = append(calls, write(n))
		}
		calls = append(calls, crash(false), crash(true), start())
		for range 2 { // no call makes a cell of it
			for _, x := range calls {
				if e := x.of(c); e != api.ErrNil || c.Read() != 0 || c.Down() {
					t.Errorf("%d: %s: %d, %d, %t", i, x.what, e, c.Read(), c.Down())
				}
			}
		}
	}
}

// P7.2

func TestWriteAtEdges(t *testing.T) {
	play(t, cell.New(),
		step{write(0), api.ErrRange, 0, false},
		step{write(-1), api.ErrRange, 0, false},
		step{write(1), api.OK, 1, false},
		step{write(1), api.ErrRange, 1, false},
		step{write(0), api.ErrRange, 1, false},
		step{write(2), api.OK, 2, false},
		step{write(most + 1), api.ErrRange, 2, false},
		step{write(most - 1), api.OK, most - 1, false},
		step{write(most + 1), api.ErrRange, most - 1, false},
		step{write(most), api.OK, most, false},
		step{write(most), api.ErrRange, most, false},
		step{write(most + 1), api.ErrRange, most, false},
		step{write(1), api.ErrRange, most, false},
	)
	play(t, cell.New(), step{write(most), api.OK, most, false})
	play(t, cell.New(), step{write(most + 1), api.ErrRange, 0, false})
}

func TestWriteOfTheMostWhileArmed(t *testing.T) {
	play(t, cell.New(),
		step{crash(false), api.OK, 0, false},
		step{write(most + 1), api.ErrRange, 0, false},
		step{write(most), api.ErrDown, 0, true},
		step{start(), api.OK, 0, false},
		step{crash(true), api.OK, 0, false},
		step{write(most + 1), api.ErrRange, 0, false},
		step{write(most), api.ErrDown, most, true},
		step{start(), api.OK, most, false},
		step{crash(true), api.OK, most, false},
		step{write(most), api.ErrRange, most, false},
		step{write(most + 1), api.ErrRange, most, false},
	)
}

func TestWriteInEachWay(t *testing.T) {
	eachWay(func(w way, kept int) {
		for _, n := range []int{kept + 1, kept + 2, most - 1, most} {
			c := w.make(kept)
			want := kept
			if w.keeps {
				want = n
			}
			if e := c.Write(n); e != w.answer || c.Read() != want || c.Down() != (e != api.OK) {
				t.Errorf("%s, %d kept: Write(%d): %d, %d, %t", w.name, kept, n, e, c.Read(), c.Down())
			}
		}
	})
}

// The power goes once: what Crash said is done with behind ErrDown.
func TestWritesBehindALoss(t *testing.T) {
	for _, behind := range []bool{false, true} {
		kept := 5
		if behind {
			kept = 6
		}
		play(t, cell.New(),
			step{write(5), api.OK, 5, false},
			step{crash(behind), api.OK, 5, false},
			step{write(6), api.ErrDown, kept, true},
			step{write(7), api.ErrState, kept, true},
			step{start(), api.OK, kept, false},
			step{write(kept), api.ErrRange, kept, false},
			step{write(kept + 1), api.OK, kept + 1, false},
			step{write(kept + 2), api.OK, kept + 2, false},
		)
	}
}

// A cell that is down is asked ahead of the number.
func TestWriteOfACellThatIsDown(t *testing.T) {
	eachWay(func(w way, kept int) {
		if !w.down {
			return
		}
		c := w.make(kept)
		for _, n := range slices.Concat(tooLow(kept), tooHigh(), []int{kept + 1, most}) {
			play(t, c, step{write(n), api.ErrState, kept, true})
		}
	})
}

// P7.3

func TestCrashInEachWay(t *testing.T) {
	eachWay(func(w way, kept int) {
		for _, behind := range []bool{false, true} {
			c := w.make(kept)
			if w.down {
				play(t, c, step{crash(behind), api.ErrState, kept, true})
				continue
			}
			play(t, c, step{crash(behind), api.OK, kept, false})
			want := kept
			if behind {
				want = kept + 1
			}
			play(t, c, step{write(kept + 1), api.ErrDown, want, true})
		}
	})
}

func TestTheLastCrashHolds(t *testing.T) {
	for bits := range 1 << 5 {
		c := cell.New()
		behind := false
		for i := range 5 {
			behind = bits>>i&1 == 1
			play(t, c, step{crash(behind), api.OK, 0, false})
		}
		kept := 0
		if behind {
			kept = 4
		}
		play(t, c, step{write(4), api.ErrDown, kept, true})
	}
}

func TestStartInEachWay(t *testing.T) {
	eachWay(func(w way, kept int) {
		c := w.make(kept)
		if w.down {
			play(t, c,
				step{start(), api.OK, kept, false},
				step{start(), api.ErrState, kept, false},
				step{write(kept + 1), api.OK, kept + 1, false},
				step{write(kept + 2), api.OK, kept + 2, false},
			)
			return
		}
		play(t, c, step{start(), api.ErrState, kept, false}, step{start(), api.ErrState, kept, false})
	})
}

func TestStartAtOnceBehindALoss(t *testing.T) {
	c := cell.New()
	kept := 0
	for n := 1; n < 50; n++ {
		behind := n%3 == 0
		if behind {
			kept = n
		}
		play(t, c,
			step{start(), api.ErrState, c.Read(), false},
			step{crash(behind), api.OK, c.Read(), false},
			step{write(n), api.ErrDown, kept, true},
			step{start(), api.OK, kept, false},
		)
	}
}

func TestReadAndDownChangeNothing(t *testing.T) {
	eachWay(func(w way, kept int) {
		asked, other := w.make(kept), w.make(kept)
		for range 3 {
			if asked.Read() != kept || asked.Down() != w.down {
				t.Errorf("%s: %d, %t", w.name, asked.Read(), asked.Down())
			}
		}
		if a, b := asked.Write(kept+1), other.Write(kept+1); a != b || asked.Read() != other.Read() {
			t.Errorf("%s: %d, %d, and when it was not asked %d, %d", w.name, a, asked.Read(), b, other.Read())
		}
	})
}

// P7.4, P7.5

// model says a cell by the chapter's words: what is kept, whether it is up, whether it is armed and which way.
type model struct {
	kept              int
	up, armed, behind bool
}

func (m *model) write(n int) api.Errno {
	if !m.up {
		return api.ErrState
	}
	if !(n > m.kept && n <= most) {
		return api.ErrRange
	}
	if !m.armed {
		m.kept = n
		return api.OK
	}
	if m.behind {
		m.kept = n
	}
	m.up, m.armed, m.behind = false, false, false
	return api.ErrDown
}

func (m *model) crash(behind bool) api.Errno {
	if !m.up {
		return api.ErrState
	}
	m.armed, m.behind = true, behind
	return api.OK
}

func (m *model) start() api.Errno {
	if m.up {
		return api.ErrState
	}
	m.up, m.armed, m.behind = true, false, false
	return api.OK
}

// both are a cell and what it is held against.
type both struct {
	c *cell.Cell
	m model
}

func newBoth() *both { return &both{cell.New(), model{up: true}} }

// kinds is of how many kinds the calls that do makes are.
const kinds = 9

// do makes a call of both, of a kind, and tells what was not as it is to be.
func (b *both) do(kind, by int) string {
	kept, was := b.c.Read(), b.m
	n := b.m.kept
	switch kind {
	case 0:
		n = 0
	case 1:
		n -= by
	case 2: // what is kept
	case 3:
		n++
	case 4:
		n += by
	case 5:
		n = most + by
	}
	var got, want api.Errno
	switch kind {
	case 6, 7:
		got, want = b.c.Crash(kind == 7), b.m.crash(kind == 7)
	case 8:
		got, want = b.c.Start(), b.m.start()
	default:
		got, want = b.c.Write(n), b.m.write(n)
	}
	switch now := b.c.Read(); {
	case got != want || now != b.m.kept || b.c.Down() == b.m.up:
		return fmt.Sprintf("%d, %d, %t, want %d, %v", got, now, b.c.Down(), want, b.m)
	case now < kept:
		return fmt.Sprintf("what is kept fell from %d to %d", kept, now)
	case kind < 6 && got == api.OK && (now != n || now <= kept):
		return fmt.Sprintf("Write(%d) was taken, behind %d: %d", n, kept, now)
	case got == api.ErrDown && (now == n) != was.behind:
		return fmt.Sprintf("Write(%d) behind Crash(%t): %d", n, was.behind, now)
	case (got == api.ErrState || got == api.ErrRange) && now != kept:
		return fmt.Sprintf("what is kept is %d behind a refusal, and was %d", now, kept)
	}
	return ""
}

// Every row of six calls, each of one of the kinds.
func TestEveryRowOfCalls(t *testing.T) {
	const calls = 6
	rows := 1
	for range calls {
		rows *= kinds
	}
	for row := range rows {
		b := newBoth()
		for i, left := 0, row; i < calls; i, left = i+1, left/kinds {
			if wrong := b.do(left%kinds, 3); wrong != "" {
				t.Fatalf("row %d, call %d: %s", row, i, wrong)
			}
		}
	}
}

func TestLongRowsOfCalls(t *testing.T) {
	r := rand.New(rand.NewSource(7))
	for row := range 200 {
		b := newBoth()
		for i := range 500 {
			by := 1 + r.Intn(1<<r.Intn(52))
			if wrong := b.do(r.Intn(kinds), by); wrong != "" {
				t.Fatalf("row %d, call %d: %s", row, i, wrong)
			}
		}
	}
}

// P7.5

// refused answers every call that a cell that stands so refuses.
func refused(w way, kept int) []step {
	var l []step
	e := api.ErrRange
	if w.down {
		e = api.ErrState
		l = append(l, step{crash(false), e, kept, true}, step{crash(true), e, kept, true}, step{write(kept + 1), e, kept, true}, step{write(most), e, kept, true})
	} else {
		l = append(l, step{start(), api.ErrState, kept, false})
	}
	for _, n := range slices.Concat(tooLow(kept), tooHigh()) {
		l = append(l, step{write(n), e, kept, w.down})
	}
	return l
}

// isAs tells by what c does next whether it stands in the way w, with so much kept. It is spent then.
func isAs(c *cell.Cell, w way, kept int) bool {
	if c.Read() != kept || c.Down() != w.down {
		return false
	}
	if w.down { // it was not armed behind its back
		return c.Start() == api.OK && c.Write(kept+1) == api.OK && c.Read() == kept+1 && !c.Down()
	}
	want := kept
	if w.keeps {
		want = kept + 1
	}
	return c.Write(kept+1) == w.answer && c.Read() == want && c.Down() == (w.answer != api.OK)
}

func TestRefusedCallsChangeNothing(t *testing.T) {
	eachWay(func(w way, kept int) {
		if !isAs(w.make(kept), w, kept) {
			t.Errorf("%s, %d kept: it does not stand so", w.name, kept)
		}
		all := refused(w, kept)
		for _, s := range all {
			c := w.make(kept)
			play(t, c, s)
			if !isAs(c, w, kept) {
				t.Errorf("%s, %d kept: %s changed it", w.name, kept, s.what)
			}
		}
		c := w.make(kept)
		play(t, c, all...)
		if !isAs(c, w, kept) {
			t.Errorf("%s, %d kept: refused calls changed it", w.name, kept)
		}
	})
}

// All of them

func FuzzCalls(f *testing.F) {
	f.Add([]byte{3, 6, 3, 8, 7, 3, 8, 3})
	f.Add([]byte{7, 6, 4, 3, 6, 7, 8, 8, 2, 1, 0, 5})
	f.Fuzz(func(t *testing.T, l []byte) {
		b := newBoth()
		for i, x := range l {
			if wrong := b.do(int(x)%kinds, 1+int(x)/kinds); wrong != "" {
				t.Fatalf("call %d of %v: %s", i, l, wrong)
			}
		}
	})
}
