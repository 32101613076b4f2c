package gather_test

import (
	"math"
	"slices"
	"testing"

	"hauberk/api"
	"hauberk/gather"
)

// The numbers of the document, written out, so that the package is not held against itself.
const (
	most  = 1<<53 - 1
	nodes = 8
	whole = 510 // the crew of all nodes
)

func join(sender, proc, counter int) api.Join {
	return api.Join{Sender: sender, Proc: proc, Counter: counter}
}

// crewOf answers the crew of nodes as the document says it: the node n has the value 2^n.
func crewOf(l ...int) int {
	values := [nodes + 1]int{1: 2, 4, 8, 16, 32, 64, 128, 256}
	c := 0
	for _, n := range l {
		c |= values[n]
	}
	return c
}

// nodesOf answers the nodes of a crew.
func nodesOf(c int) []int {
	var l []int
	for n := 1; n <= nodes; n++ {
		if c&crewOf(n) != 0 {
			l = append(l, n)
		}
	}
	return l
}

// crewsWith answers every crew among those of within that has n.
func crewsWith(n, within int) []int {
	var l []int
	for c := 0; c <= whole; c += 2 {
		if c&crewOf(n) != 0 && c&^within == 0 {
			l = append(l, c)
		}
	}
	return l
}

// counters answers numbers that may be counters.
func counters() []int { return []int{0, 1, 5, 1<<31 - 1, 1 << 31, 1 << 32, most - 1, most} }

// noCounters answers numbers that may not.
func noCounters() []int {
	return []int{math.MinInt, math.MinInt + 1, -most - 1, -most, -1 << 32, -5, -1, most + 1, most + 2, 1 << 54, 1<<62 + 5, math.MaxInt - 1, math.MaxInt}
}

// strangers answers numbers that are no nodes.
func strangers() []int {
	return []int{math.MinInt, math.MinInt + 1, -1 << 32, -65, -64, -63, -8, -1, 0, 9, 10, 63, 64, 65, 128, 256, 1<<32 + 1, 1<<53 + 1, math.MaxInt - 1, math.MaxInt}
}

// made answers a gathering that has heard these, all of which may be.
func made(t testing.TB, node, counter int, l ...api.Join) *gather.Gather {
	t.Helper()
	g, e := gather.New(node, counter)
	if g == nil || e != api.OK {
		t.Fatalf("New(%d, %d): %v, %d", node, counter, g, e)
	}
	for _, j := range l {
		if _, _, e := g.Hear(j); e != api.OK {
			t.Fatalf("Hear(%v): %d", j, e)
		}
	}
	return g
}

// state is all that a gathering tells of itself.
type state struct {
	own     api.Join
	agreed  bool
	counter int
}

func stateOf(g *gather.Gather) state { return state{g.Own(), g.Agreed(), g.Counter()} }

func stands(t testing.TB, g *gather.Gather, want state) {
	t.Helper()
	if got := stateOf(g); got != want {
		t.Fatalf("it stands at %+v, want %+v", got, want)
	}
}

// answer is what Hear answers.
type answer struct {
	changed, grown bool
	e              api.Errno
}

var (
	first   = answer{true, true, api.OK}
	another = answer{true, false, api.OK}
	nothing = answer{}
	refused = answer{e: api.ErrArg}
	nobody  = answer{e: api.ErrNil}
)

func hear(g *gather.Gather, j api.Join) answer {
	changed, grown, e := g.Hear(j)
	return answer{changed, grown, e}
}

func hears(t testing.TB, g *gather.Gather, j api.Join, want answer) {
	t.Helper()
	if got := hear(g, j); got != want {
		t.Fatalf("Hear(%v): %+v, want %+v", j, got, want)
	}
}

// step is a join that is heard, what is answered, and how the gathering stands behind it.
type step struct {
	j    api.Join
	want answer
	state
}

func play(t testing.TB, g *gather.Gather, l ...step) {
	t.Helper()
	for i, s := range l {
		if got := hear(g, s.j); got != s.want {
			t.Fatalf("%d: Hear(%v): %+v, want %+v", i, s.j, got, s.want)
		}
		if got := stateOf(g); got != s.state {
			t.Fatalf("%d: behind Hear(%v): %+v, want %+v", i, s.j, got, s.state)
		}
	}
}

// The chapter's examples

func TestExamples(t *testing.T) {
	g := made(t, 2, 5)
	stands(t, g, state{join(2, 4, 5), true, 5})
	play(t, g,
		step{join(3, 12, 9), first, state{join(2, 12, 5), true, 9}},
		step{join(3, 12, 9), nothing, state{join(2, 12, 5), true, 9}},
		step{join(3, 8, 1), another, state{join(2, 12, 5), false, 9}},
		step{join(1, 14, 0), first, state{join(2, 14, 5), false, 9}},
		step{join(2, 14, 99), nothing, state{join(2, 14, 5), false, 9}},
		step{join(4, 12, 0), refused, state{join(2, 14, 5), false, 9}},
		step{join(9, 512, 0), refused, state{join(2, 14, 5), false, 9}},
		step{join(1, 3, 0), refused, state{join(2, 14, 5), false, 9}},
		step{join(1, 2, -1), refused, state{join(2, 14, 5), false, 9}},
	)
}

func TestNumbersOfErrors(t *testing.T) {
	var none *gather.Gather
	if _, _, e := none.Hear(join(1, 2, 0)); e != 1 {
		t.Errorf("of none: %d, want 1", e)
	}
	if _, e := gather.New(0, 0); e != 2 {
		t.Errorf("the node 0: %d, want 2", e)
	}
	if _, _, e := made(t, 1, 0).Hear(join(0, 1, 0)); e != 2 {
		t.Errorf("the sender 0: %d, want 2", e)
	}
}

// P18.1

func TestNewHearsNobody(t *testing.T) {
	for node := 1; node <= nodes; node++ {
		for _, counter := range counters() {
			stands(t, made(t, node, counter), state{join(node, crewOf(node), counter), true, counter})
		}
	}
}

func TestNewRefuses(t *testing.T) {
	refuses := func(node, counter int) {
		t.Helper()
		if g, e := gather.New(node, counter); g != nil || e != api.ErrArg {
			t.Errorf("New(%d, %d): %v, %d, want %d", node, counter, g, e, api.ErrArg)
		}
	}
	for _, node := range strangers() {
		for _, counter := range slices.Concat(counters(), noCounters()) {
			refuses(node, counter)
		}
	}
	for node := 1; node <= nodes; node++ {
		for _, counter := range noCounters() {
			refuses(node, counter)
		}
	}
}

func TestNone(t *testing.T) {
	var none *gather.Gather
	joins := []api.Join{
		{}, join(1, 2, 0), join(2, 6, 5), join(8, whole, most), // what may be, and what may not: ErrNil comes ahead
		join(0, 1, 0), join(9, 512, 0), join(1, 4, 0), join(1, 3, 0), join(1, -2, 0), join(1, 2, -1), join(1, 2, most+1),
	}
	for _, g := range []*gather.Gather{none, {}, new(gather.Gather)} {
		stands(t, g, state{})
		for range 2 {
			for _, j := range joins {
				hears(t, g, j, nobody)
				stands(t, g, state{})
			}
		}
	}
	var here gather.Gather
	hears(t, &here, join(1, 2, 0), nobody)
	stands(t, &here, state{})
}

func TestGatheringsAreApart(t *testing.T) {
	one, other, none := made(t, 2, 5), made(t, 2, 5), &gather.Gather{}
	hears(t, one, join(3, 12, 9), first)
	stands(t, other, state{join(2, 4, 5), true, 5})
	hears(t, other, join(3, 8, 1), first)
	hears(t, other, join(4, 16, 2), first)
	hears(t, none, join(4, 16, 2), nobody)
	stands(t, one, state{join(2, 12, 5), true, 9})
	stands(t, other, state{join(2, 28, 5), false, 5})
	stands(t, made(t, 2, 5), state{join(2, 4, 5), true, 5})
}

// P18.2

// mayBe tells whether a join may be, by the chapter's words.
func mayBe(j api.Join) bool {
	isSender := slices.Contains([]int{1, 2, 3, 4, 5, 6, 7, 8}, j.Sender)
	isCrew := j.Proc >= 0 && j.Proc <= whole && j.Proc%2 == 0
	return isSender && isCrew && slices.Contains(nodesOf(j.Proc), j.Sender) && j.Counter >= 0 && j.Counter <= most
}

// procs answers every number that is a crew, with its neighbours that are none, and numbers with bits that no crew has.
func procs() []int {
	l := []int{math.MinInt, math.MinInt + 2, -1 << 32, -512, -510, -3, -2, -1, 1023, 1022, 1024, 1 << 31, 1<<32 + 2, 1<<53 + 2, 1 << 62, math.MaxInt - 1, math.MaxInt}
	for c := range 514 {
		l = append(l, c)
	}
	return append(l, 512|whole, 1<<9|2, 1<<16|whole, 1<<32|whole, math.MinInt|whole, math.MinInt|2)
}

func TestWhichJoinsMayBe(t *testing.T) {
	senders := append([]int{1, 2, 3, 4, 5, 6, 7, 8}, strangers()...)
	for _, node := range []int{1, 5, 8} {
		for _, sender := range senders {
			for _, proc := range procs() {
				for _, counter := range []int{-1, 0, 7, most, most + 1} {
					j := join(sender, proc, counter)
					g := made(t, node, 3)
					switch {
					case !mayBe(j):
						hears(t, g, j, refused)
						stands(t, g, state{join(node, crewOf(node), 3), true, 3})
					case sender == node:
						hears(t, g, j, nothing)
						stands(t, g, state{join(node, crewOf(node), 3), true, 3})
					default:
						both := crewOf(node, sender)
						hears(t, g, j, first)
						stands(t, g, state{join(node, both, 3), proc == both, max(3, counter)})
					}
				}
			}
		}
	}
}

func TestCountersOfJoins(t *testing.T) {
	for sender := 1; sender <= nodes; sender++ {
		for _, counter := range noCounters() {
			g := made(t, 4, 0)
			hears(t, g, join(sender, crewOf(4, sender), counter), refused)
			stands(t, g, state{join(4, 16, 0), true, 0})
		}
		if sender == 4 {
			continue
		}
		for _, counter := range counters() {
			g := made(t, 4, 0)
			hears(t, g, join(sender, crewOf(4, sender), counter), first)
			stands(t, g, state{join(4, crewOf(4, sender), 0), true, counter})
		}
	}
}

// mayNotBe answers joins that may not be, one fault each, of nodes that were heard and of others, the node itself among them.
func mayNotBe() []api.Join {
	l := []api.Join{{}, join(0, 0, 0), join(0, 1, 0), join(0, 3, 0), join(0, whole, 1), join(9, whole, 1), join(9, 512, 0), join(9, 1022, 0), join(-1, whole, 1)}
	for sender := 1; sender <= nodes; sender++ {
		own := crewOf(sender)
		l = append(l,
			join(sender, own, -1), join(sender, own, most+1), join(sender, own, math.MinInt), join(sender, own, math.MaxInt),
			join(sender, own|1, 9), join(sender, own|512, 9), join(sender, own-1024, 9), join(sender, own|1<<40, 9), join(sender, -1, 9), join(sender, -2, 9),
			join(sender, whole&^own, 9), join(sender, 0, 9), join(sender, 512, 9), join(sender, 1, 9))
	}
	return l
}

func TestWhatMayNotBeChangesNothing(t *testing.T) {
	heard := []api.Join{join(3, 12, 9), join(1, 14, 0), join(8, 270, most-5)}
	for count := range len(heard) + 1 {
		g := made(t, 2, 5, heard[:count]...)
		before := stateOf(g)
		for _, j := range mayNotBe() {
			hears(t, g, j, refused)
			stands(t, g, before)
		}
		for i, j := range heard { // the last joins are still the same, and nobody else was heard
			want := nothing
			if i >= count {
				want = first
			}
			hears(t, g, j, want)
		}
		for _, n := range []int{4, 5, 6, 7} {
			hears(t, g, join(n, whole, 1), first)
		}
	}
}

func TestOwnJoinIsNothing(t *testing.T) {
	for node := 1; node <= nodes; node++ {
		other := node%nodes + 1
		both := crewOf(node, other)
		g := made(t, node, 5)
		for _, heard := range []bool{false, true} {
			if heard {
				hears(t, g, join(other, both, 9), first)
			}
			before := stateOf(g)
			hears(t, g, g.Own(), nothing) // what it says itself
			stands(t, g, before)
			for _, proc := range crewsWith(node, whole) { // what it does not say
				for _, counter := range []int{0, 4, 5, 6, 10, 99, most} {
					hears(t, g, join(node, proc, counter), nothing)
					stands(t, g, before)
				}
			}
			hears(t, g, join(node, crewOf(node), -1), refused) // its own may not be otherwise than others'
			hears(t, g, join(node, whole, most+1), refused)
			hears(t, g, join(node, whole&^crewOf(node), 5), refused)
			hears(t, g, join(node, crewOf(node)|1, 5), refused)
			stands(t, g, before)
		}
		hears(t, g, join(other, both, 9), nothing)
	}
}

func TestTheLastOneOfASenderCounts(t *testing.T) {
	g := made(t, 2, 5)
	play(t, g,
		step{join(3, 12, 9), first, state{join(2, 12, 5), true, 9}},
		step{join(3, 12, 9), nothing, state{join(2, 12, 5), true, 9}},
		step{join(3, 12, 9), nothing, state{join(2, 12, 5), true, 9}},
		step{join(3, 8, 9), another, state{join(2, 12, 5), false, 9}}, // another Proc
		step{join(3, 8, 9), nothing, state{join(2, 12, 5), false, 9}},
		step{join(3, 12, 9), another, state{join(2, 12, 5), true, 9}}, // back
		step{join(3, 12, 7), another, state{join(2, 12, 5), true, 9}}, // another Counter
		step{join(3, 12, 7), nothing, state{join(2, 12, 5), true, 9}},
		step{join(3, 12, 9), another, state{join(2, 12, 5), true, 9}}, // back
		step{join(3, 14, 11), another, state{join(2, 12, 5), false, 11}},
		step{join(3, 12, 9), another, state{join(2, 12, 5), true, 11}},
		step{join(4, 28, 9), first, state{join(2, 28, 5), false, 11}},
		step{join(3, 12, 9), nothing, state{join(2, 28, 5), false, 11}}, // what others say stands between
		step{join(3, 28, 9), another, state{join(2, 28, 5), true, 11}},
		step{join(4, 28, 9), nothing, state{join(2, 28, 5), true, 11}},
	)
}

func TestEveryTwoJoinsOfASender(t *testing.T) {
	var joins []api.Join
	for _, proc := range crewsWith(6, crewOf(1, 5, 6, 7)) {
		for _, counter := range []int{0, 5, 6, most} {
			joins = append(joins, join(6, proc, counter))
		}
	}
	for _, one := range joins {
		for _, two := range joins {
			want := another
			if one == two {
				want = nothing
			}
			g := made(t, 5, 5)
			hears(t, g, one, first)
			hears(t, g, two, want)
			stands(t, g, state{join(5, 96, 5), two.Proc == 96, max(5, one.Counter, two.Counter)})
			hears(t, g, two, nothing)
			hears(t, g, one, want)
			stands(t, g, state{join(5, 96, 5), one.Proc == 96, max(5, one.Counter, two.Counter)})
		}
	}
}

// P18.3

func TestOwnTellsTheOwnCounter(t *testing.T) { // however great those are that it hears
	for _, counter := range counters() {
		g := made(t, 7, counter)
		for _, heard := range counters() {
			hear(g, join(1, 130, heard))
			if got := g.Own(); got != join(7, 130, counter) {
				t.Fatalf("%d, and %d is heard: %v", counter, heard, got)
			}
		}
	}
}

func TestAgreedOfEveryTwo(t *testing.T) { // whom it hears has to be named just so, no more and no less
	for _, c := range [][3]int{{2, 1, 3}, {1, 2, 8}, {8, 7, 1}} {
		node, one, other := c[0], c[1], c[2]
		three := crewOf(c[:]...)
		for _, a := range crewsWith(one, whole) {
			for _, b := range crewsWith(other, whole) {
				g := made(t, node, 5, join(one, a, 1), join(other, b, 2))
				stands(t, g, state{join(node, three, 5), a == three && b == three, 5})
			}
		}
	}
}

func TestAgreedHangsOnEachOfAll(t *testing.T) {
	for node := 1; node <= nodes; node++ {
		g, heard := made(t, node, 0), crewOf(node)
		for n := 1; n <= nodes; n++ {
			if n == node {
				continue
			}
			hears(t, g, join(n, whole, n), first)
			heard |= crewOf(n)
			if got := g.Agreed(); got != (heard == whole) {
				t.Fatalf("the node %d, up to %d: %v", node, n, got)
			}
		}
		for n := 1; n <= nodes; n++ {
			if n == node {
				continue
			}
			for _, proc := range crewsWith(n, whole) { // one says something else, all others the same
				hear(g, join(n, proc, n))
				if got := g.Agreed(); got != (proc == whole) {
					t.Fatalf("the node %d, %d says %d: %v", node, n, proc, got)
				}
			}
			hear(g, join(n, whole, n))
		}
	}
}

func TestAgreedComesAndGoes(t *testing.T) {
	play(t, made(t, 1, 0),
		step{join(2, 6, 1), first, state{join(1, 6, 0), true, 1}},
		step{join(3, 14, 1), first, state{join(1, 14, 0), false, 1}}, // one more is heard, of whom the other one says nothing
		step{join(2, 14, 1), another, state{join(1, 14, 0), true, 1}},
		step{join(2, 6, 1), another, state{join(1, 14, 0), false, 1}},
		step{join(2, 14, 2), another, state{join(1, 14, 0), true, 2}},
		step{join(3, 30, 2), another, state{join(1, 14, 0), false, 2}}, // it names one that is not heard
		step{join(4, 30, 2), first, state{join(1, 30, 0), false, 2}},
		step{join(2, 30, 2), another, state{join(1, 30, 0), true, 2}},
		step{join(1, 2, 2), nothing, state{join(1, 30, 0), true, 2}}, // its own is not asked
	)
}

func TestAgreedAsksForNoCounter(t *testing.T) {
	for _, own := range counters() {
		for _, heard := range counters() {
			g := made(t, 3, own, join(4, 24, heard))
			stands(t, g, state{join(3, 24, own), true, max(own, heard)})
		}
	}
}

func TestCounterIsTheGreatestEverTold(t *testing.T) {
	g := made(t, 4, 10)
	counts := func(j api.Join, want int) {
		t.Helper()
		if hear(g, j); g.Counter() != want {
			t.Fatalf("behind %v: %d, want %d", j, g.Counter(), want)
		}
	}
	counts(join(1, 2, 9), 10)
	counts(join(1, 2, 10), 10)
	counts(join(1, 2, 11), 11)
	counts(join(1, 2, 0), 11) // another one has taken the place of the greatest
	counts(join(2, 4, 10), 11)
	counts(join(1, 2, 0), 11)
	counts(join(2, 4, 50), 50)
	counts(join(4, 16, 80), 50) // its own
	counts(join(2, 4, 1), 50)
	counts(join(3, 8, 30), 50)
	counts(join(3, 8, most+1), 50)
	counts(join(3, 8, most), most)
	counts(join(3, 8, 0), most)
	counts(join(5, 32, most-1), most)
}

func TestAskingChangesNothing(t *testing.T) {
	g := made(t, 2, 5, join(3, 12, 9), join(1, 10, 3))
	want := state{join(2, 14, 5), false, 9}
	for range 50 {
		stands(t, g, want)
	}
	hears(t, g, join(3, 12, 9), nothing)
	hears(t, g, join(1, 10, 3), nothing)
	hears(t, g, join(4, 16, 0), first)
}
