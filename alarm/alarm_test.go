package alarm_test

import (
	"fmt"
	"math"
	"math/rand"
	"slices"
	"testing"

	"hauberk/alarm"
	"hauberk/api"
)

const (
	mostTimers = 16
	mostTicks  = 10000
)

func timers(t *testing.T, n int) *alarm.Alarms {
	t.Helper()
	a, e := alarm.New(n)
	if a == nil || e != api.OK {
		t.Fatalf("New(%d): %v, %d", n, a, e)
	}
	return a
}

func set(t *testing.T, a *alarm.Alarms, kind, ticks int) {
	t.Helper()
	if e := a.Set(kind, ticks); e != api.OK {
		t.Errorf("Set(%d, %d): %d", kind, ticks, e)
	}
}

// tick lets one pass, at which want are to be due.
func tick(t *testing.T, a *alarm.Alarms, want ...int) {
	t.Helper()
	if l, e := a.Tick(); e != api.OK || !slices.Equal(l, want) {
		t.Errorf("Tick: %v, %d, want %v", l, e, want)
	}
}

// lefts answers what is left of the kinds from 0 on.
func lefts(a *alarm.Alarms, n int) []int {
	l := make([]int, n)
	for kind := range l {
		l[kind] = a.Left(kind)
	}
	return l
}

// stands asks whether exactly so many ticks are left of the timers, in the order of their kinds.
func stands(t *testing.T, a *alarm.Alarms, want ...int) {
	t.Helper()
	if l := lefts(a, len(want)); !slices.Equal(l, want) {
		t.Errorf("left: %v, want %v", l, want)
	}
}

// noKinds are numbers that are no kind of n timers.
func noKinds(n int) []int {
	return []int{-1, -2, -n, -n - 1, n, n + 1, 2 * n, 17, 1 << 31, 1 << 32, -1 << 32, 1 << 62, math.MinInt, math.MinInt + 1, math.MaxInt - 1, math.MaxInt}
}

// noTicks are numbers that no timer can be set to.
func noTicks() []int {
	return []int{0, -1, -2, -mostTicks, -mostTicks - 1, mostTicks + 1, mostTicks + 2, 1 << 16, 1<<32 + 1, -1<<32 + 1, 1<<62 + 5, math.MinInt, math.MinInt + 1, math.MaxInt - 1, math.MaxInt}
}

func counts() []int {
	var l []int
	for n := range mostTimers {
		l = append(l, n+1)
	}
	return l
}

// The chapter's examples

func TestExampleOfTicks(t *testing.T) {
	a := timers(t, 4)
	set(t, a, 2, 2)
	set(t, a, 0, 2)
	set(t, a, 3, 1)
	tick(t, a, 3)
	stands(t, a, 1, 0, 1, 0)
	tick(t, a, 0, 2)
	stands(t, a, 0, 0, 0, 0)
	tick(t, a)
}

func TestExampleOfErrors(t *testing.T) {
	a := timers(t, 4)
	got := []api.Errno{a.Set(1, 5), a.Fire(1), a.Fire(1), a.Clear(1), a.Set(4, 1), a.Set(1, 0), a.Set(1, 10001)}
	want := []api.Errno{api.OK, api.OK, api.ErrState, api.OK, api.ErrArg, api.ErrArg, api.ErrArg}
	if !slices.Equal(got, want) {
		t.Errorf("%v, want %v", got, want)
	}
	stands(t, a, 0, 0, 0, 0)
}

func TestExampleOfNew(t *testing.T) {
	for n, want := range map[int]api.Errno{0: api.ErrArg, 16: api.OK, 17: api.ErrArg} {
		if a, e := alarm.New(n); e != want || (a != nil) != (want == api.OK) {
			t.Errorf("New(%d): %v, %d", n, a, e)
		}
	}
}

func TestNumbersOfErrors(t *testing.T) {
	var nobody *alarm.Alarms
	a := timers(t, 1)
	got := []api.Errno{a.Set(0, 1), nobody.Set(0, 1), a.Set(1, 1), a.Clear(0), a.Fire(0)}
	if want := []api.Errno{0, 1, 2, 0, 80}; !slices.Equal(got, want) {
		t.Errorf("%v, want %v", got, want)
	}
}

// P8.1

func TestNewOfWrongNumbers(t *testing.T) {
	for _, n := range []int{0, -1, -2, -16, -17, 17, 18, 32, 1 << 20, 1<<32 + 1, -1<<32 + 1, 1 << 62, math.MinInt, math.MinInt + 1, math.MaxInt - 1, math.MaxInt} {
		if a, e := alarm.New(n); a != nil || e != api.ErrArg {
			t.Errorf("New(%d): %v, %d", n, a, e)
		}
	}
}

// There are as many as were asked for, from 0 on, each of which can be set, and none more.
func TestNewOfEachNumber(t *testing.T) {
	for _, n := range counts() {
		a := timers(t, n)
		for kind := -1; kind <= mostTimers+1; kind++ {
			want := api.ErrArg
			if kind >= 0 && kind < n {
				want = api.OK
			}
			if got := []api.Errno{a.Clear(kind), a.Set(kind, 3), a.Fire(kind), a.Set(kind, 7), a.Clear(kind)}; !slices.Equal(got, []api.Errno{want, want, want, want, want}) {
				t.Errorf("kind %d of %d: %v, want %d", kind, n, got, want)
			}
		}
	}
}

func TestNewOnesAreNotSet(t *testing.T) {
	for _, n := range counts() {
		a := timers(t, n)
		for kind := range n {
			if a.Left(kind) != 0 || a.Fire(kind) != api.ErrState {
				t.Errorf("kind %d of %d is set: %d", kind, n, a.Left(kind))
			}
		}
		for range 20 {
			tick(t, a)
		}
	}
}

func TestNewOnesAreOfTheirOwn(t *testing.T) {
	a, b := timers(t, 3), timers(t, 3)
	set(t, a, 1, 2)
	stands(t, b, 0, 0, 0)
	set(t, b, 1, 5)
	set(t, b, 2, 1)
	stands(t, a, 0, 2, 0)
	tick(t, a)
	stands(t, b, 0, 5, 1)
	tick(t, a, 1)
	stands(t, timers(t, 3), 0, 0, 0)
	if e := a.Fire(1); e != api.ErrState {
		t.Errorf("Fire: %d", e)
	}
	tick(t, b, 2)
	stands(t, b, 0, 4, 0)
}

func TestNoTimers(t *testing.T) {
	var nobody *alarm.Alarms
	var zero alarm.Alarms
	for i, a := range []*alarm.Alarms{nobody, &zero, {}, new(alarm.Alarms)} {
		for range 2 { // no call makes timers of it
			for _, kind := range append(noKinds(0), 0, 1, 15, 16) {
				for _, ticks := range append(noTicks(), 1, 2, mostTicks) {
					if e := a.Set(kind, ticks); e != api.ErrNil {
						t.Errorf("%d: Set(%d, %d): %d", i, kind, ticks, e)
					}
				}
				if a.Clear(kind) != api.ErrNil || a.Fire(kind) != api.ErrNil || a.Left(kind) != 0 {
					t.Errorf("%d: kind %d: %d, %d, %d", i, kind, a.Clear(kind), a.Fire(kind), a.Left(kind))
				}
			}
			if l, e := a.Tick(); len(l) != 0 || e != api.ErrNil {
				t.Errorf("%d: Tick: %v, %d", i, l, e)
			}
		}
	}
}

// P8.2

func TestSetAtEdges(t *testing.T) {
	for _, n := range counts() {
		for _, kind := range []int{0, n / 2, n - 1} {
			for _, ticks := range []int{1, 2, 3, mostTicks - 1, mostTicks} {
				a := timers(t, n)
				set(t, a, kind, ticks)
				want := make([]int, n)
				want[kind] = ticks
				stands(t, a, want...)
			}
		}
	}
}

func TestSetToEachNumberOfTicks(t *testing.T) {
	a := timers(t, 2)
	for ticks := -3; ticks <= mostTicks+3; ticks++ {
		was := a.Left(1)
		want, left := api.ErrArg, was
		if ticks >= 1 && ticks <= mostTicks {
			want, left = api.OK, ticks
		}
		if e := a.Set(1, ticks); e != want || a.Left(1) != left {
			t.Errorf("Set(1, %d): %d, %d, want %d, %d", ticks, e, a.Left(1), want, left)
		}
	}
}

// What it was, more or less or as much, is forgotten.
func TestSetWhileItIsSet(t *testing.T) {
	for _, first := range []int{1, 2, 3, 5, mostTicks} {
		for _, passed := range []int{0, 1, 2} {
			for _, second := range []int{1, 2, 3, 4, 5, 6} {
				if passed >= first {
					continue
				}
				a := timers(t, 3)
				set(t, a, 1, first)
				for range passed {
					tick(t, a)
				}
				set(t, a, 1, second)
				stands(t, a, 0, second, 0)
				for range second - 1 {
					tick(t, a)
				}
				tick(t, a, 1)
				for range 10 {
					tick(t, a)
				}
			}
		}
	}
}

func TestSetOnceItIsNotSetAnyMore(t *testing.T) {
	ends := map[string]func(a *alarm.Alarms){
		"due":     func(a *alarm.Alarms) { a.Tick(); a.Tick() },
		"cleared": func(a *alarm.Alarms) { a.Clear(0) },
		"fired":   func(a *alarm.Alarms) { a.Fire(0) },
	}
	for name, end := range ends {
		a := timers(t, 1)
		for range 3 {
			set(t, a, 0, 2)
			end(a)
			if a.Left(0) != 0 || a.Fire(0) != api.ErrState {
				t.Errorf("%s: %d are left", name, a.Left(0))
			}
			tick(t, a)
		}
		set(t, a, 0, 2)
		tick(t, a)
		tick(t, a, 0)
	}
}

func TestClear(t *testing.T) {
	for _, ticks := range []int{1, 2, mostTicks} {
		a := timers(t, 3)
		set(t, a, 0, 4)
		set(t, a, 1, ticks)
		set(t, a, 2, 3)
		for range 2 { // one that is not set can be cleared
			if e := a.Clear(1); e != api.OK {
				t.Errorf("Clear: %d", e)
			}
			stands(t, a, 4, 0, 3)
		}
		tick(t, a)
		tick(t, a)
		tick(t, a, 2)
		tick(t, a, 0)
		if e := a.Clear(1); e != api.OK {
			t.Errorf("Clear behind ticks: %d", e)
		}
	}
}

func TestLeftFallsByTicks(t *testing.T) {
	a := timers(t, 2)
	set(t, a, 1, 6)
	for left := 5; left > 0; left-- {
		tick(t, a)
		for range 2 { // asking changes nothing
			stands(t, a, 0, left)
		}
	}
	tick(t, a, 1)
	stands(t, a, 0, 0)
}

func TestLeftOfNoKind(t *testing.T) {
	for _, n := range counts() {
		a := timers(t, n)
		for kind := range n {
			set(t, a, kind, 3)
		}
		for _, kind := range noKinds(n) {
			if left := a.Left(kind); left != 0 {
				t.Errorf("Left(%d) of %d: %d", kind, n, left)
			}
		}
	}
}

// A wrong kind, wrong ticks, or a timer that is not set: each alone is enough to refuse.
func TestRefusedCallsChangeNothing(t *testing.T) {
	for _, n := range counts() {
		a := timers(t, n)
		var want []int
		for kind := range n {
			want = append(want, 0)
			if kind%3 != 2 {
				want[kind] = kind + 2
				set(t, a, kind, kind+2)
			}
		}
		for _, kind := range noKinds(n) {
			for _, ticks := range append(noTicks(), 1, 5, mostTicks) {
				if e := a.Set(kind, ticks); e != api.ErrArg {
					t.Errorf("Set(%d, %d) of %d: %d", kind, ticks, n, e)
				}
			}
			if c, f := a.Clear(kind), a.Fire(kind); c != api.ErrArg || f != api.ErrArg {
				t.Errorf("Clear(%d), Fire(%d) of %d: %d, %d", kind, kind, n, c, f)
			}
			stands(t, a, want...)
		}
		for kind := range n {
			for _, ticks := range noTicks() {
				if e := a.Set(kind, ticks); e != api.ErrArg {
					t.Errorf("Set(%d, %d) of %d: %d", kind, ticks, n, e)
				}
			}
			if e := a.Fire(kind); want[kind] == 0 && e != api.ErrState {
				t.Errorf("Fire(%d) of %d: %d", kind, n, e)
			} else if want[kind] != 0 {
				set(t, a, kind, want[kind])
			}
			stands(t, a, want...)
		}
		for at := 1; at < 2*mostTimers; at++ {
			var due []int
			if kind := slices.Index(want, at); kind >= 0 {
				due = append(due, kind)
			}
			tick(t, a, due...)
		}
	}
}

// P8.3

func TestTickOfSeveral(t *testing.T) {
	orders := [][]int{{0, 1, 2, 3, 4, 5, 6, 7, 8, 9, 10, 11, 12, 13, 14, 15}, {15, 14, 13, 12, 11, 10, 9, 8, 7, 6, 5, 4, 3, 2, 1, 0}, {7, 15, 3, 0, 9, 12, 1, 14, 10, 2, 5, 8, 13, 6, 11, 4}}
	for _, order := range orders {
		for range 20 { // maps are gone through in another order each time
			a := timers(t, mostTimers)
			for _, kind := range order {
				set(t, a, kind, 2)
			}
			tick(t, a)
			tick(t, a, 0, 1, 2, 3, 4, 5, 6, 7, 8, 9, 10, 11, 12, 13, 14, 15)
			tick(t, a)
		}
	}
}

// Every choice of eight timers: those that are set are due together, rising, however late each was set.
func TestTickOfEveryChoice(t *testing.T) {
	for bits := range 1 << 8 {
		a := timers(t, 8)
		var want []int
		for at := 10; at > 0; at-- {
			for kind := 7; kind >= 0; kind-- {
				if bits>>kind&1 == 1 && at == 1+(kind*5+bits)%10 {
					set(t, a, kind, at)
				}
			}
			if at > 1 {
				tick(t, a)
			}
		}
		for kind := range 8 {
			if bits>>kind&1 == 1 {
				want = append(want, kind)
			}
		}
		tick(t, a, want...)
		stands(t, a, 0, 0, 0, 0, 0, 0, 0, 0)
		tick(t, a)
	}
}

func TestTickOfSomeThatAreDue(t *testing.T) {
	a := timers(t, 6)
	for kind, ticks := range []int{3, 1, 2, 1, 3, 1} {
		set(t, a, kind, ticks)
	}
	tick(t, a, 1, 3, 5)
	stands(t, a, 2, 0, 1, 0, 2, 0)
	tick(t, a, 2)
	stands(t, a, 1, 0, 0, 0, 1, 0)
	tick(t, a, 0, 4)
	stands(t, a, 0, 0, 0, 0, 0, 0)
	tick(t, a)
}

func TestThoseThatAreDueAreNotSet(t *testing.T) {
	a := timers(t, 2)
	set(t, a, 0, 1)
	set(t, a, 1, 2)
	tick(t, a, 0)
	if e := a.Fire(0); e != api.ErrState {
		t.Errorf("Fire: %d", e)
	}
	if e := a.Fire(1); e != api.OK {
		t.Errorf("Fire: %d", e)
	}
	tick(t, a)
}

func TestFire(t *testing.T) {
	for _, ticks := range []int{1, 2, 3, mostTicks} {
		a := timers(t, 3)
		if e := a.Fire(1); e != api.ErrState {
			t.Errorf("Fire of one that was never set: %d", e)
		}
		set(t, a, 0, 2)
		set(t, a, 1, ticks)
		set(t, a, 2, 3)
		if e := a.Fire(1); e != api.OK {
			t.Errorf("Fire: %d", e)
		}
		stands(t, a, 2, 0, 3)
		if e := a.Fire(1); e != api.ErrState {
			t.Errorf("Fire twice: %d", e)
		}
		tick(t, a)
		tick(t, a, 0)
		tick(t, a, 2)
		set(t, a, 1, ticks)
		a.Clear(1)
		if e := a.Fire(1); e != api.ErrState {
			t.Errorf("Fire of one that was cleared: %d", e)
		}
		if e := a.Fire(0); e != api.ErrState {
			t.Errorf("Fire of one that was due: %d", e)
		}
	}
}

func TestFireBehindTicks(t *testing.T) {
	for passed := range 7 {
		a := timers(t, 1)
		set(t, a, 0, 5)
		want := api.OK
		for at := range passed {
			if at == 4 {
				tick(t, a, 0)
				want = api.ErrState
			} else {
				tick(t, a)
			}
		}
		if e := a.Fire(0); e != want {
			t.Errorf("Fire behind %d ticks: %d", passed, e)
		}
		stands(t, a, 0)
	}
}

// What Tick answers is new memory.
func TestWritingIntoWhatIsDue(t *testing.T) {
	a, b := timers(t, 5), timers(t, 5)
	for _, x := range []*alarm.Alarms{a, b} {
		set(t, x, 1, 1)
		set(t, x, 3, 1)
		set(t, x, 2, 2)
		set(t, x, 4, 2)
		set(t, x, 0, 3)
	}
	first, _ := a.Tick()
	other, _ := b.Tick()
	spoil := func(l []int) {
		l = l[:cap(l)]
		for i := range l {
			l[i] = -7
		}
	}
	spoil(first)
	stands(t, a, 2, 0, 1, 0, 1)
	if !slices.Equal(other, []int{1, 3}) {
		t.Errorf("another answer: %v", other)
	}
	second, e := a.Tick()
	if e != api.OK || !slices.Equal(second, []int{2, 4}) {
		t.Errorf("Tick: %v, %d", second, e)
	}
	third, _ := a.Tick()
	spoil(third)
	set(t, a, 0, 1)
	tick(t, a, 0)
	if !slices.Equal(second, []int{2, 4}) {
		t.Errorf("an earlier answer: %v", second)
	}
	tick(t, b, 2, 4)
	tick(t, b, 0)
}

// P8.4

func TestDueAtItsTickAlone(t *testing.T) {
	for _, ticks := range []int{1, 2, 3, 10, 255, 256, 257, 4096, mostTicks - 1, mostTicks} {
		for _, ahead := range []int{0, 1, 5} {
			a := timers(t, 2)
			for range ahead {
				tick(t, a)
			}
			set(t, a, 1, ticks)
			for at := 1; at <= 2*mostTicks+2; at++ {
				l, e := a.Tick()
				if e != api.OK || slices.Equal(l, []int{1}) != (at == ticks) || (at != ticks && len(l) != 0) {
					t.Fatalf("set to %d, tick %d: %v, %d", ticks, at, l, e)
				}
				if left := a.Left(1); left != max(ticks-at, 0) {
					t.Fatalf("set to %d, tick %d: %d are left", ticks, at, left)
				}
			}
		}
	}
}

// P8.5

// What a timer does is the same whatever is done with the others, or with kinds that there are none of.
func TestNoTimerHangsOnAnother(t *testing.T) {
	const n = 5
	for mine := range n {
		r := rand.New(rand.NewSource(int64(mine)))
		for range 200 {
			alone, among := timers(t, n), timers(t, n)
			for i := range 60 {
				kind, by := mine, 1+r.Intn(6)
				if r.Intn(4) > 0 {
					kind = r.Intn(n+2) - 1
				}
				op := r.Intn(4)
				e := do(among, op, kind, by)
				if kind == mine && op < 3 {
					if want := do(alone, op, kind, by); e != want {
						t.Fatalf("%d, call %d: %d, and alone %d", mine, i, e, want)
					}
				}
				if op == 3 {
					l, _ := among.Tick()
					want, _ := alone.Tick()
					if slices.Contains(l, mine) != slices.Contains(want, mine) {
						t.Fatalf("%d, call %d: %v, and alone %v", mine, i, l, want)
					}
				}
				if among.Left(mine) != alone.Left(mine) {
					t.Fatalf("%d, call %d: %d are left, and alone %d", mine, i, among.Left(mine), alone.Left(mine))
				}
			}
		}
	}
}

// do makes one of three calls: Set, Clear, Fire.
func do(a *alarm.Alarms, op, kind, ticks int) api.Errno {
	switch op {
	case 0:
		return a.Set(kind, ticks)
	case 1:
		return a.Clear(kind)
	case 2:
		return a.Fire(kind)
	}
	return api.OK
}

// All of them

// model says timers by when each is due (0: it is not set), so that no tick touches them.
type model struct {
	now int
	due []int
}

func (m *model) has(kind int) bool { return kind >= 0 && kind < len(m.due) }

func (m *model) do(op, kind, ticks int) api.Errno {
	if op > 2 {
		return api.OK
	}
	if !m.has(kind) || op == 0 && (ticks < 1 || ticks > mostTicks) {
		return api.ErrArg
	}
	if op == 2 && m.due[kind] == 0 {
		return api.ErrState
	}
	m.due[kind] = 0
	if op == 0 {
		m.due[kind] = m.now + ticks
	}
	return api.OK
}

func (m *model) tick() []int {
	m.now++
	var l []int
	for kind, at := range m.due {
		if at == m.now {
			l = append(l, kind)
			m.due[kind] = 0
		}
	}
	return l
}

func (m *model) left(kind int) int {
	if !m.has(kind) || m.due[kind] == 0 {
		return 0
	}
	return m.due[kind] - m.now
}

// both are timers and what they are held against.
type both struct {
	a *alarm.Alarms
	m model
}

func newBoth(t *testing.T, n int) *both { return &both{timers(t, n), model{due: make([]int, n)}} }

// do makes a call of both, of one of four kinds, and tells what was not as it is to be.
func (b *both) do(op, kind, ticks int) string {
	if op == 3 {
		l, e := b.a.Tick()
		if want := b.m.tick(); e != api.OK || !slices.Equal(l, want) {
			return fmt.Sprintf("Tick: %v, %d, want %v", l, e, want)
		}
	} else if got, want := do(b.a, op, kind, ticks), b.m.do(op, kind, ticks); got != want {
		return fmt.Sprintf("call %d(%d, %d): %d, want %d", op, kind, ticks, got, want)
	}
	for kind := -1; kind <= len(b.m.due); kind++ {
		if got, want := b.a.Left(kind), b.m.left(kind); got != want {
			return fmt.Sprintf("Left(%d): %d, want %d", kind, got, want)
		}
	}
	return ""
}

// Every row of six calls of two timers.
func TestEveryRowOfCalls(t *testing.T) {
	calls := [][3]int{{0, 0, 1}, {0, 0, 2}, {0, 1, 2}, {0, 1, 0}, {1, 0, 0}, {2, 0, 0}, {2, 1, 0}, {3, 0, 0}}
	const length = 6
	rows := 1
	for range length {
		rows *= len(calls)
	}
	for row := range rows {
		b := newBoth(t, 2)
		for i, rest := 0, row; i < length; i, rest = i+1, rest/len(calls) {
			c := calls[rest%len(calls)]
			if wrong := b.do(c[0], c[1], c[2]); wrong != "" {
				t.Fatalf("row %d, call %d: %s", row, i, wrong)
			}
		}
	}
}

func TestLongRowsOfCalls(t *testing.T) {
	r := rand.New(rand.NewSource(8))
	for row := range 400 {
		n := 1 + row%mostTimers
		b := newBoth(t, n)
		for i := range 600 {
			ticks := r.Intn(8)
			if r.Intn(9) == 0 {
				ticks = mostTicks - 2 + r.Intn(5)
			}
			if wrong := b.do(r.Intn(4), r.Intn(n+2)-1, ticks); wrong != "" {
				t.Fatalf("row %d, call %d: %s", row, i, wrong)
			}
		}
	}
}

func FuzzCalls(f *testing.F) {
	f.Add(4, []byte{0, 2, 2, 0, 0, 2, 0, 3, 1, 3, 0, 0, 3, 0, 0, 3, 0, 0})
	f.Add(16, []byte{0, 15, 9, 2, 15, 0, 2, 15, 0, 1, 16, 0, 0, 255, 1})
	f.Fuzz(func(t *testing.T, n int, l []byte) {
		if a, e := alarm.New(n); n < 1 || n > mostTimers {
			if a != nil || e != api.ErrArg {
				t.Fatalf("New(%d): %v, %d", n, a, e)
			}
			return
		}
		b := newBoth(t, n)
		for i := 0; i+2 < len(l); i += 3 {
			if wrong := b.do(int(l[i])%4, int(int8(l[i+1]))%(n+2), int(int8(l[i+2]))); wrong != "" {
				t.Fatalf("call %d: %s", i/3, wrong)
			}
		}
	})
}
