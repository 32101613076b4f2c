package commit_test

import (
	"math"
	"slices"
	"testing"

	"hauberk/api"
	"hauberk/commit"
	"hauberk/packet"
)

// The numbers of the document, written out, so that the package is not held against itself.
const (
	most  = 1<<53 - 1
	nodes = 8
	whole = 510 // the crew of all nodes

	strange = 0
	first   = 1
	second  = 2
	last    = 3
)

func ring(seq, rep int) api.RingId { return api.RingId{Seq: seq, Rep: rep} }

func entry(node int, old api.RingId, aru, high, clock int) api.Entry {
	return api.Entry{Node: node, Old: old, Aru: aru, High: high, Clock: clock}
}

// crewOf answers the crew of nodes as the document says it: the node n has the value 2^n.
func crewOf(l ...int) int {
	values := [nodes + 1]int{1: 2, 4, 8, 16, 32, 64, 128, 256}
	c := 0
	for _, n := range l {
		c |= values[n]
	}
	return c
}

// nodesOf answers the nodes of a crew, rising.
func nodesOf(c int) []int {
	var l []int
	for n := 1; n <= nodes; n++ {
		if c&crewOf(n) != 0 {
			l = append(l, n)
		}
	}
	return l
}

// crews answers every crew that is not empty.
func crews() []int {
	var l []int
	for c := 2; c <= whole; c += 2 {
		l = append(l, c)
	}
	return l
}

// fewCrews answers crews of 1 to 8 nodes, the ends among them.
func fewCrews() []int {
	return []int{2, 256, 16, 10, 258, 384, 14, 336, 30, 170, 340, 254, 508, whole}
}

// entryOf answers an entry that may be, unlike those of all others.
func entryOf(node int) api.Entry {
	return entry(node, ring(20+node, 9-node), 10*node, 10*node+3, 100-node)
}

// at answers a commit of the crew behind so many hops, that may be, if there are so many.
func at(crew, hop int) api.Commit {
	l := nodesOf(crew)
	c := api.Commit{Ring: ring(300, l[0]), Members: crew, Hop: hop}
	for i := 0; i < hop && i < len(l); i++ {
		c.Entries = append(c.Entries, entryOf(l[i]))
	}
	return c
}

// with answers c as change leaves it.
func with(c api.Commit, change func(c *api.Commit)) api.Commit {
	c.Entries = slices.Clone(c.Entries)
	change(&c)
	return c
}

// same holds commits against each other; a list without elements may be nil or not.
func same(a, b api.Commit) bool {
	return a.Ring == b.Ring && a.Members == b.Members && a.Hop == b.Hop && slices.Equal(a.Entries, b.Entries)
}

// isNone tells whether c is what stands beside an error.
func isNone(c api.Commit) bool { return same(c, api.Commit{}) }

func isNumber(v int) bool { return v >= 0 && v <= most }

func isRing(r api.RingId) bool {
	return r.Seq >= 1 && r.Seq <= most && slices.Contains([]int{1, 2, 3, 4, 5, 6, 7, 8}, r.Rep)
}

// mayBe tells by the words of chapter 6 whether a commit may be.
func mayBe(c api.Commit) bool {
	if c.Members <= 0 || c.Members > whole || c.Members%2 != 0 {
		return false
	}
	l := nodesOf(c.Members)
	n := len(l)
	if !isRing(c.Ring) || c.Ring.Rep != l[0] || c.Hop < 1 || c.Hop > n+n {
		return false
	}
	count := c.Hop
	if n < count {
		count = n
	}
	if len(c.Entries) != count {
		return false
	}
	for i, x := range c.Entries {
		if x.Node != l[i] || !isRing(x.Old) || !isNumber(x.Aru) || !isNumber(x.High) || x.Aru > x.High || !isNumber(x.Clock) {
			return false
		}
	}
	return true
}

// visited tells by the words of the chapter which visit of c at the node this is.
func visited(c api.Commit, node int) int {
	if !mayBe(c) {
		return strange
	}
	l := nodesOf(c.Members)
	n := len(l)
	switch {
	case l[c.Hop%n] != node:
		return strange
	case c.Hop < n:
		return first
	case c.Hop < n+n:
		return second
	}
	return last
}

// added tells by the words of P19.2 what Add answers; ok false: ErrArg.
func added(c api.Commit, own api.Entry) (d api.Commit, ok bool) {
	if visited(c, own.Node) != first {
		return api.Commit{}, false
	}
	d = with(c, func(d *api.Commit) { d.Hop, d.Entries = c.Hop+1, append(d.Entries, own) })
	if !mayBe(d) {
		return api.Commit{}, false
	}
	return d, true
}

// passed tells by the words of P19.2 what Pass answers; ok false: ErrArg.
func passed(c api.Commit) (d api.Commit, ok bool) {
	for _, n := range nodesOf(whole) {
		if visited(c, n) == second {
			return with(c, func(d *api.Commit) { d.Hop = c.Hop + 1 }), true
		}
	}
	return api.Commit{}, false
}

// stamped tells by the words of P19.3 what Stamp answers.
func stamped(c api.Commit) int {
	if !mayBe(c) {
		return 0
	}
	var clocks []int
	for _, x := range c.Entries {
		clocks = append(clocks, x.Clock)
	}
	if v := slices.Max(clocks); v < most {
		return v + 1
	}
	return most
}

// kin is what Kin answers.
type kin struct{ members, low, high int }

func kinOf(c api.Commit, old api.RingId) kin {
	members, low, high := commit.Kin(c, old)
	return kin{members, low, high}
}

// kinBy tells by the words of P19.3 what Kin answers.
func kinBy(c api.Commit, old api.RingId) kin {
	if !mayBe(c) {
		return kin{}
	}
	var l, arus, highs []int
	for _, x := range c.Entries {
		if x.Old == old {
			l, arus, highs = append(l, x.Node), append(arus, x.Aru), append(highs, x.High)
		}
	}
	if len(l) == 0 {
		return kin{}
	}
	return kin{crewOf(l...), slices.Min(arus), slices.Max(highs)}
}

func checks(t testing.TB, c api.Commit, want api.Errno) {
	t.Helper()
	if e := commit.Check(c); e != want {
		t.Fatalf("Check(%+v): %d, want %d", c, e, want)
	}
}

// visits asks at which nodes the visit is what, and that it is strange at all others.
func visits(t testing.TB, c api.Commit, node, want int) {
	t.Helper()
	for _, n := range append(nodesOf(whole), strangers()...) {
		w := strange
		if n == node {
			w = want
		}
		if v := commit.Visit(c, n); v != w {
			t.Fatalf("Visit(%+v, %d): %d, want %d", c, n, v, w)
		}
	}
}

// isStrange asks that the visit is strange everywhere.
func isStrange(t testing.TB, c api.Commit) {
	t.Helper()
	visits(t, c, 0, strange)
}

// answers asks for a commit, with no error beside it.
func answers(t testing.TB, what string, want, got api.Commit, e api.Errno) {
	t.Helper()
	if e != api.OK || !same(got, want) {
		t.Fatalf("%s: %+v, %d, want %+v", what, got, e, want)
	}
}

// refuses asks for ErrArg, with nothing beside it.
func refuses(t testing.TB, what string, got api.Commit, e api.Errno) {
	t.Helper()
	if e != api.ErrArg || !isNone(got) {
		t.Fatalf("%s: %+v, %d, want %d alone", what, got, e, api.ErrArg)
	}
}

func news(t testing.TB, want api.Commit, r api.RingId, members int, own api.Entry) {
	t.Helper()
	c, e := commit.New(r, members, own)
	answers(t, "New", want, c, e)
}

func newRefuses(t testing.TB, r api.RingId, members int, own api.Entry) {
	t.Helper()
	c, e := commit.New(r, members, own)
	if e != api.ErrArg || !isNone(c) {
		t.Fatalf("New(%v, %d, %+v): %+v, %d, want %d alone", r, members, own, c, e, api.ErrArg)
	}
}

func adds(t testing.TB, want, c api.Commit, own api.Entry) {
	t.Helper()
	d, e := commit.Add(c, own)
	answers(t, "Add", want, d, e)
}

func addRefuses(t testing.TB, c api.Commit, own api.Entry) {
	t.Helper()
	d, e := commit.Add(c, own)
	if e != api.ErrArg || !isNone(d) {
		t.Fatalf("Add(%+v, %+v): %+v, %d, want %d alone", c, own, d, e, api.ErrArg)
	}
}

func passes(t testing.TB, want, c api.Commit) {
	t.Helper()
	d, e := commit.Pass(c)
	answers(t, "Pass", want, d, e)
}

func passRefuses(t testing.TB, c api.Commit) {
	t.Helper()
	d, e := commit.Pass(c)
	refuses(t, "Pass", d, e)
}

func stamps(t testing.TB, want int, c api.Commit) {
	t.Helper()
	if v := commit.Stamp(c); v != want {
		t.Fatalf("Stamp(%+v): %d, want %d", c, v, want)
	}
}

func isKin(t testing.TB, want kin, c api.Commit, old api.RingId) {
	t.Helper()
	if k := kinOf(c, old); k != want {
		t.Fatalf("Kin(%+v, %v): %+v, want %+v", c, old, k, want)
	}
}

// byWords asks all of c, and what is answered by the words of the document.
func byWords(t testing.TB, c api.Commit, own api.Entry) {
	t.Helper()
	want := api.ErrArg
	if mayBe(c) {
		want = api.OK
	}
	checks(t, c, want)
	for n := -1; n <= nodes+1; n++ {
		if v, w := commit.Visit(c, n), visited(c, n); v != w {
			t.Fatalf("Visit(%+v, %d): %d, want %d", c, n, v, w)
		}
	}
	if d, ok := added(c, own); ok {
		adds(t, d, c, own)
	} else {
		addRefuses(t, c, own)
	}
	if d, ok := passed(c); ok {
		passes(t, d, c)
	} else {
		passRefuses(t, c)
	}
	stamps(t, stamped(c), c)
	isKin(t, kinBy(c, own.Old), c, own.Old)
	for _, x := range c.Entries {
		isKin(t, kinBy(c, x.Old), c, x.Old)
	}
}

// strangers answers numbers that are no nodes.
func strangers() []int {
	return []int{math.MinInt, math.MinInt + 1, -1 << 32, -65, -64, -63, -8, -1, 0, 9, 10, 63, 64, 65, 128, 256, 1<<32 + 1, 1<<53 + 1, math.MaxInt - 1, math.MaxInt}
}

// numbers answers numbers that go over the wire.
func numbers() []int { return []int{0, 1, 5, 1<<31 - 1, 1 << 31, 1 << 32, most - 1, most} }

// noNumbers answers numbers that do not.
func noNumbers() []int {
	return []int{math.MinInt, math.MinInt + 1, -most - 1, -most, -1 << 32, -5, -1, most + 1, most + 2, 1 << 54, 1<<62 + 5, math.MaxInt - 1, math.MaxInt}
}

// noCrews answers numbers that are no crews, or none.
func noCrews() []int {
	l := []int{0, 1, 3, 11, 255, 509, 511, 512, 514, 522, 1022, 1024, 1 << 16, 1<<16 | 10, 1 << 32, 1<<32 | 10, 1<<53 | 10, math.MaxInt - 1, math.MaxInt}
	return append(l, -1, -2, -10, -510, -512, -1024|10, math.MinInt, math.MinInt|10, math.MinInt|whole)
}

// noRings answers ring numbers that may not be, and the zero one.
func noRings(rep int) []api.RingId {
	l := []api.RingId{{}, ring(0, rep), ring(5, 0), ring(5, 9), ring(5, -1), ring(5, 256), ring(5, rep+1<<32), ring(5, rep-8-1<<32)}
	for _, v := range noNumbers() {
		l = append(l, ring(v, rep))
	}
	return l
}

// The chapter's C, D and so on.

func one() api.Entry { return entry(1, ring(2, 1), 3, 4, 5) }

func three() api.Entry { return entry(3, ring(2, 1), 2, 6, 8) }

func TestChapter(t *testing.T) {
	c, e := commit.New(ring(9, 1), 10, one())
	answers(t, "C", api.Commit{Ring: ring(9, 1), Members: 10, Hop: 1, Entries: []api.Entry{one()}}, c, e)
	visits(t, c, 3, first)
	d, e := commit.Add(c, three())
	both := api.Commit{Ring: ring(9, 1), Members: 10, Hop: 2, Entries: []api.Entry{one(), three()}}
	answers(t, "D", both, d, e)
	visits(t, d, 1, second)
	addRefuses(t, c, one())
	x, e := commit.Pass(d)
	both.Hop = 3
	answers(t, "E", both, x, e)
	visits(t, x, 3, second)
	y, e := commit.Pass(x)
	both.Hop = 4
	answers(t, "F", both, y, e)
	visits(t, y, 1, last)
	passRefuses(t, y)
	stamps(t, 9, d)
	isKin(t, kin{10, 2, 6}, d, ring(2, 1))
	isKin(t, kin{}, d, ring(3, 1))
	newRefuses(t, ring(9, 3), 10, one())
	newRefuses(t, ring(9, 1), 0, one())
}

func TestVisitsAreNumbers(t *testing.T) { // as the chapter counts them
	if commit.Strange != strange || commit.First != first || commit.Second != second || commit.Last != last {
		t.Error(commit.Strange, commit.First, commit.Second, commit.Last)
	}
}

// P19.1

func TestEveryHopWithEveryCountOfEntries(t *testing.T) {
	for _, crew := range crews() {
		l := nodesOf(crew)
		n := len(l)
		for hop := -2; hop <= 2*n+2; hop++ {
			for count := range n + 2 {
				c := at(crew, 2*n)
				c.Hop = hop
				if count <= n {
					c.Entries = c.Entries[:count]
				} else {
					c.Entries = append(c.Entries, c.Entries[n-1])
				}
				want := api.ErrArg
				if hop >= 1 && hop <= n && count == hop || hop > n && hop <= 2*n && count == n {
					want = api.OK
				}
				checks(t, c, want)
			}
		}
	}
}

func TestHopsOutOfRange(t *testing.T) {
	for _, crew := range fewCrews() {
		n := len(nodesOf(crew))
		for _, hop := range []int{math.MinInt, math.MinInt + 1, -1 << 32, -n, -1, 0, 2*n + 1, 2*n + 2, 3 * n, 4 * n, 17, 1<<32 + 1, most, 1<<62 + 1, math.MaxInt} {
			for count := range n + 1 {
				c := at(crew, 2*n)
				c.Hop, c.Entries = hop, c.Entries[:count]
				wrong(t, c)
			}
		}
	}
}

// wrong asks that all calls refuse a commit that may not be.
func wrong(t testing.TB, c api.Commit) {
	t.Helper()
	checks(t, c, api.ErrArg)
	isStrange(t, c)
	passRefuses(t, c)
	stamps(t, 0, c)
	isKin(t, kin{}, c, ring(2, 1))
	for _, n := range nodesOf(whole) {
		addRefuses(t, c, entryOf(n))
		isKin(t, kin{}, c, entryOf(n).Old)
	}
	for _, x := range c.Entries {
		addRefuses(t, c, x)
		isKin(t, kin{}, c, x.Old)
	}
}

// well answers commits of few crews, at every hop.
func well() []api.Commit {
	var l []api.Commit
	for _, crew := range fewCrews() {
		for hop := 1; hop <= 2*len(nodesOf(crew)); hop++ {
			l = append(l, at(crew, hop))
		}
	}
	return l
}

// edges answers commits of few crews behind one hop, n, n + 1 and 2n.
func edges() []api.Commit {
	var l []api.Commit
	for _, crew := range fewCrews() {
		n := len(nodesOf(crew))
		for _, hop := range []int{1, n, n + 1, 2 * n} {
			l = append(l, at(crew, hop))
		}
	}
	return l
}

func TestWhatMayNotBeIsRefused(t *testing.T) {
	wrong(t, api.Commit{})
	wrong(t, api.Commit{Hop: 1})
	wrong(t, api.Commit{Ring: ring(9, 1), Hop: 1})
	wrong(t, api.Commit{Ring: ring(9, 1), Members: 2, Hop: 1})
	for _, c := range edges() {
		for _, r := range noRings(c.Ring.Rep) {
			wrong(t, with(c, func(c *api.Commit) { c.Ring = r }))
		}
		for rep := 1; rep <= nodes; rep++ {
			if rep != c.Ring.Rep {
				wrong(t, with(c, func(c *api.Commit) { c.Ring.Rep = rep }))
			}
		}
		for _, crew := range append(noCrews(), c.Members|1, c.Members|512, c.Members|1<<40, c.Members|math.MinInt) {
			wrong(t, with(c, func(c *api.Commit) { c.Members = crew }))
		}
	}
}

func TestEntriesAreThoseOfTheFirstMembers(t *testing.T) {
	for _, c := range well() {
		checks(t, c, api.OK)
		end := len(c.Entries)
		for i := range c.Entries {
			for _, n := range append(nodesOf(whole), strangers()...) {
				if n != c.Entries[i].Node {
					wrong(t, with(c, func(c *api.Commit) { c.Entries[i].Node = n }))
				}
			}
			wrong(t, with(c, func(c *api.Commit) { c.Entries = slices.Delete(c.Entries, i, i+1) }))
			wrong(t, with(c, func(c *api.Commit) { c.Entries = slices.Insert(c.Entries, i, c.Entries[i]) }))
			if i > 0 {
				wrong(t, with(c, func(c *api.Commit) { c.Entries[0], c.Entries[i] = c.Entries[i], c.Entries[0] }))
			}
		}
		wrong(t, with(c, func(c *api.Commit) { c.Entries = nil }))
		wrong(t, with(c, func(c *api.Commit) { c.Entries = []api.Entry{} }))
		for _, count := range []int{end + 1, 9, 17, 300} {
			wrong(t, with(c, func(c *api.Commit) {
				for len(c.Entries) < max(count, end+1) {
					c.Entries = append(c.Entries, entryOf(nodes))
				}
			}))
		}
	}
}

// spoilt answers entries like x with one fault each, but for its node.
func spoilt(x api.Entry) []api.Entry {
	var l []api.Entry
	change := func(f func(x *api.Entry)) {
		y := x
		f(&y)
		l = append(l, y)
	}
	for _, r := range noRings(x.Old.Rep) {
		change(func(x *api.Entry) { x.Old = r })
	}
	for _, v := range noNumbers() {
		change(func(x *api.Entry) { x.Aru = v })
		change(func(x *api.Entry) { x.High = v })
		change(func(x *api.Entry) { x.Aru, x.High = v, v })
		change(func(x *api.Entry) { x.Clock = v })
	}
	for _, v := range numbers() {
		if v > 0 {
			change(func(x *api.Entry) { x.Aru, x.High = v, v-1 })
			change(func(x *api.Entry) { x.Aru, x.High = v, 0 })
			change(func(x *api.Entry) { x.Aru, x.High = most, most-v })
		}
	}
	return l
}

// fit answers entries of the node with numbers at their ends, that may be.
func fit(node int) []api.Entry {
	var l []api.Entry
	for _, v := range numbers() {
		l = append(l, entry(node, ring(2, 1), 0, v, 5), entry(node, ring(2, 1), v, v, 5), entry(node, ring(2, 1), v, most, 5), entry(node, ring(2, 1), 3, 4, v))
		if v > 0 {
			l = append(l, entry(node, ring(2, 1), v-1, v, 5), entry(node, ring(v, 8), 3, 4, 5), entry(node, ring(v, node), 0, 0, 0))
		}
	}
	for rep := 1; rep <= nodes; rep++ {
		l = append(l, entry(node, ring(1, rep), 3, 4, 5))
	}
	return append(l, entry(node, ring(most, 8), most, most, most), entry(node, ring(1, 1), 0, 0, 0))
}

func TestEveryNumberOfEveryEntry(t *testing.T) {
	for _, c := range edges() {
		for i, x := range c.Entries {
			for _, y := range fit(x.Node) {
				checks(t, with(c, func(c *api.Commit) { c.Entries[i] = y }), api.OK)
			}
			for _, y := range spoilt(x) {
				wrong(t, with(c, func(c *api.Commit) { c.Entries[i] = y }))
			}
		}
	}
}

func TestRingNumbersOfCommits(t *testing.T) { // they hang on no entry's
	for _, c := range edges() {
		for _, v := range numbers() {
			d := with(c, func(c *api.Commit) { c.Ring.Seq = max(v, 1) })
			checks(t, d, api.OK)
			for i := range d.Entries {
				checks(t, with(d, func(d *api.Commit) { d.Entries[i].Old = d.Ring }), api.OK)
			}
		}
	}
}

func TestAPacketAsksForTheSame(t *testing.T) {
	ask := func(c api.Commit) {
		t.Helper()
		e := api.ErrArg
		for to := range nodes + 1 { // to one of these
			if packet.Check(api.Packet{Kind: api.PacketCommit, To: to, Commit: c}) == api.OK {
				e = api.OK
				if commit.Visit(c, to) == strange {
					t.Fatalf("%+v is on its way to %d, and strange there", c, to)
				}
			}
		}
		checks(t, c, e)
	}
	for _, c := range well() {
		ask(c)
		ask(with(c, func(c *api.Commit) { c.Hop++ }))
		ask(with(c, func(c *api.Commit) { c.Hop-- }))
		ask(with(c, func(c *api.Commit) { c.Members ^= 16 }))
		ask(with(c, func(c *api.Commit) { c.Ring.Rep++ }))
		ask(with(c, func(c *api.Commit) { c.Entries = c.Entries[1:] }))
		for i := range c.Entries {
			for _, y := range append(spoilt(c.Entries[i]), fit(c.Entries[i].Node)...) {
				ask(with(c, func(c *api.Commit) { c.Entries[i] = y }))
			}
		}
	}
}

func TestNewOfEveryCrew(t *testing.T) {
	for _, crew := range crews() {
		least := nodesOf(crew)[0]
		for rep := -1; rep <= nodes+1; rep++ {
			for _, node := range append(nodesOf(whole), strangers()...) {
				own := entryOf(least)
				own.Node = node
				if rep == least && node == least {
					news(t, api.Commit{Ring: ring(300, rep), Members: crew, Hop: 1, Entries: []api.Entry{own}}, ring(300, rep), crew, own)
				} else {
					newRefuses(t, ring(300, rep), crew, own)
				}
			}
		}
	}
}

func TestNewTakesWhatMayBe(t *testing.T) {
	for _, crew := range fewCrews() {
		least := nodesOf(crew)[0]
		for _, own := range fit(least) {
			news(t, api.Commit{Ring: ring(7, least), Members: crew, Hop: 1, Entries: []api.Entry{own}}, ring(7, least), crew, own)
		}
		for _, own := range spoilt(entryOf(least)) {
			newRefuses(t, ring(7, least), crew, own)
		}
		for _, v := range numbers() {
			r := ring(max(v, 1), least)
			news(t, api.Commit{Ring: r, Members: crew, Hop: 1, Entries: []api.Entry{entryOf(least)}}, r, crew, entryOf(least))
		}
		for _, r := range noRings(least) {
			newRefuses(t, r, crew, entryOf(least))
		}
		newRefuses(t, ring(7, least), crew, api.Entry{})
		newRefuses(t, api.RingId{}, 0, api.Entry{})
	}
	for _, crew := range noCrews() {
		for n := 1; n <= nodes; n++ {
			newRefuses(t, ring(7, n), crew, entryOf(n))
		}
	}
}

// P19.2

func TestVisitOfEveryHop(t *testing.T) {
	for _, crew := range crews() {
		l := nodesOf(crew)
		n := len(l)
		for i, node := range l { // each of them gets it twice, and the first one once more
			if i > 0 {
				visits(t, at(crew, i), node, first)
			}
			visits(t, at(crew, n+i), node, second)
		}
		visits(t, at(crew, 2*n), l[0], last)
		wrong(t, with(at(crew, 2*n), func(c *api.Commit) { c.Hop++ }))
	}
}

func TestVisitsOfFew(t *testing.T) {
	visits(t, at(16, 1), 4, second) // one alone has all at once
	visits(t, at(16, 2), 4, last)
	visits(t, at(10, 1), 3, first)
	visits(t, at(10, 2), 1, second)
	visits(t, at(10, 3), 3, second)
	visits(t, at(10, 4), 1, last)
	visits(t, at(whole, 1), 2, first)
	visits(t, at(whole, 7), 8, first)
	visits(t, at(whole, 8), 1, second)
	visits(t, at(whole, 9), 2, second)
	visits(t, at(whole, 15), 8, second)
	visits(t, at(whole, 16), 1, last)
}

func TestAddOfEveryHop(t *testing.T) {
	for _, crew := range crews() {
		l := nodesOf(crew)
		n := len(l)
		for hop := 1; hop <= 2*n; hop++ {
			c := at(crew, hop)
			for _, node := range nodesOf(whole) {
				if hop < n && node == l[hop] {
					adds(t, at(crew, hop+1), c, entryOf(node))
				} else {
					addRefuses(t, c, entryOf(node))
				}
			}
		}
	}
}

func TestAddTakesWhatMayBe(t *testing.T) {
	for _, crew := range fewCrews() {
		l := nodesOf(crew)
		for hop := 1; hop < len(l); hop++ {
			c := at(crew, hop)
			for _, own := range fit(l[hop]) {
				adds(t, with(at(crew, hop+1), func(c *api.Commit) { c.Entries[hop] = own }), c, own)
			}
			for _, own := range spoilt(entryOf(l[hop])) {
				addRefuses(t, c, own)
			}
			for _, node := range strangers() {
				own := entryOf(l[hop])
				own.Node = node
				addRefuses(t, c, own)
			}
			addRefuses(t, c, api.Entry{})
		}
	}
}

func TestAddToOneThatIsFull(t *testing.T) { // whoever comes, of those that are there and of others
	for _, crew := range fewCrews() {
		n := len(nodesOf(crew))
		for hop := n; hop <= 2*n; hop++ {
			c := at(crew, hop)
			for _, node := range append(nodesOf(whole), strangers()...) {
				addRefuses(t, c, entry(node, ring(2, 1), 3, 4, 5))
			}
		}
	}
}

func TestPassOfEveryHop(t *testing.T) {
	for _, crew := range crews() {
		n := len(nodesOf(crew))
		for hop := 1; hop <= 2*n; hop++ {
			if hop < n || hop == 2*n { // entries are missing, or it is back
				passRefuses(t, at(crew, hop))
			} else {
				passes(t, at(crew, hop+1), at(crew, hop))
			}
		}
	}
}

// P19.3

func TestStampIsAboveTheGreatestClock(t *testing.T) {
	for _, c := range well() {
		for i := range c.Entries {
			c.Entries[i].Clock = 40
		}
		stamps(t, 41, c)
		for i := range c.Entries {
			clock := func(v int) api.Commit { return with(c, func(c *api.Commit) { c.Entries[i].Clock = v }) }
			stamps(t, 42, clock(41))
			stamps(t, 1<<40+1, clock(1<<40))
			stamps(t, most-1, clock(most-2))
			stamps(t, most, clock(most-1))
			stamps(t, most, clock(most))
			want := 41
			if len(c.Entries) == 1 {
				want = 1
			}
			stamps(t, want, clock(0))
			stamps(t, 0, clock(-1))
			stamps(t, 0, clock(most+1))
			stamps(t, 0, clock(math.MaxInt))
			stamps(t, 0, clock(math.MinInt))
		}
	}
}

func TestStampHangsOnClocksAlone(t *testing.T) {
	for _, c := range edges() {
		for i := range c.Entries {
			c.Entries[i].Clock = i
		}
		want := len(c.Entries)
		stamps(t, want, c)
		stamps(t, want, with(c, func(c *api.Commit) { c.Ring.Seq = most }))
		for i := range c.Entries {
			stamps(t, want, with(c, func(c *api.Commit) { c.Entries[i].High = most }))
			stamps(t, want, with(c, func(c *api.Commit) { c.Entries[i].Aru, c.Entries[i].High = most, most }))
			stamps(t, want, with(c, func(c *api.Commit) { c.Entries[i].Old = ring(most, 8) }))
		}
		for i := range c.Entries {
			c.Entries[i].Clock = 0
		}
		stamps(t, 1, c)
	}
}

func TestKinOfEveryPart(t *testing.T) { // each member comes from one of two, or from a third one
	olds := []api.RingId{ring(5, 1), ring(5, 2), ring(6, 1)}
	const crew = 346 // 1 3 4 6 8
	for hop := 1; hop <= 10; hop++ {
		for ways := range 243 {
			c := at(crew, hop)
			for i := range c.Entries {
				c.Entries[i].Old = olds[ways%3]
				ways /= 3
			}
			all := 0
			for _, old := range olds {
				k := kinOf(c, old)
				if want := kinBy(c, old); k != want {
					t.Fatalf("Kin(%+v, %v): %+v, want %+v", c, old, k, want)
				}
				if all&k.members != 0 {
					t.Fatalf("Kin(%+v, %v): %+v, some come from two", c, old, k)
				}
				all |= k.members
			}
			if want := crewOf(nodesOf(crew)[:len(c.Entries)]...); all != want {
				t.Fatalf("%+v: %d are kin, want %d", c, all, want)
			}
		}
	}
}

func TestKinInNumbers(t *testing.T) {
	a, b := ring(5, 1), ring(6, 2)
	c := api.Commit{Ring: ring(9, 2), Members: crewOf(2, 3, 5, 8), Hop: 6, Entries: []api.Entry{
		entry(2, a, 7, 9, 1), entry(3, b, 0, most, 2), entry(5, a, 4, 4, 3), entry(8, a, 6, 12, 4)}}
	isKin(t, kin{crewOf(2, 5, 8), 4, 12}, c, a)
	isKin(t, kin{crewOf(3), 0, most}, c, b)
	isKin(t, kin{}, c, ring(5, 2))
	isKin(t, kin{}, c, ring(6, 1))
	isKin(t, kin{}, c, c.Ring) // it has no old one of its own
	isKin(t, kin{}, c, api.RingId{})
	isKin(t, kin{}, c, ring(0, 1))
	isKin(t, kin{}, c, ring(-5, 1))
	isKin(t, kin{}, c, ring(math.MinInt, math.MaxInt))

	c.Entries[0].Old = b
	isKin(t, kin{crewOf(5, 8), 4, 12}, c, a)
	isKin(t, kin{crewOf(2, 3), 0, most}, c, b)
}

func TestKinThatHaveNothing(t *testing.T) { // they are kin all the same
	for _, c := range edges() {
		for i := range c.Entries {
			c.Entries[i] = entry(c.Entries[i].Node, ring(3, 3), 0, 0, 0)
		}
		isKin(t, kin{crewOf(nodesOf(c.Members)[:len(c.Entries)]...), 0, 0}, c, ring(3, 3))
		isKin(t, kin{}, c, ring(3, 4))
	}
}

func TestKinAtTheEnds(t *testing.T) {
	for _, c := range edges() {
		for i := range c.Entries {
			c.Entries[i] = entry(c.Entries[i].Node, ring(3, 3), most, most, 0)
		}
		all := crewOf(nodesOf(c.Members)[:len(c.Entries)]...)
		isKin(t, kin{all, most, most}, c, ring(3, 3))
		for i := range c.Entries {
			d := with(c, func(c *api.Commit) { c.Entries[i].Aru = 0 })
			isKin(t, kin{all, 0, most}, d, ring(3, 3))
			d = with(c, func(c *api.Commit) { c.Entries[i].Aru, c.Entries[i].High = most-1, most-1 })
			if want := (kin{all, most - 1, most}); len(c.Entries) > 1 {
				isKin(t, want, d, ring(3, 3))
			}
			d = with(c, func(c *api.Commit) {
				for k := range c.Entries {
					c.Entries[k].Aru, c.Entries[k].High = 5, 5
				}
				c.Entries[i].High = 6
			})
			isKin(t, kin{all, 5, 6}, d, ring(3, 3))
		}
	}
}

func TestKinAheadOfAllEntries(t *testing.T) { // those that are there
	c := at(whole, 3)
	for i := range c.Entries {
		c.Entries[i].Old = ring(4, 4)
	}
	isKin(t, kin{crewOf(1, 2, 3), 10, 33}, c, ring(4, 4))
}

// P19.4

// roomy answers c with spare room behind its entries, in which something stands.
func roomy(c api.Commit) api.Commit {
	l := make([]api.Entry, 0, len(c.Entries)+5)
	l = append(l, c.Entries...)
	for i := range cap(l) - len(l) {
		l = append(l, entry(i+1, ring(77, 7), 7, 7, 7))
	}
	c.Entries = l[:len(c.Entries)]
	return c
}

// untouched asks that c is as it was, its spare room too, whatever is done.
func untouched(t testing.TB, c api.Commit, do func()) {
	t.Helper()
	before := c
	all := slices.Clone(c.Entries[:cap(c.Entries)])
	do()
	if !same(c, before) || !slices.Equal(c.Entries[:cap(c.Entries)], all) {
		t.Fatalf("it is %+v, was %v", c, all)
	}
}

// spoil changes all that a commit has, its spare room too.
func spoil(c api.Commit) {
	for i := range c.Entries[:cap(c.Entries)] {
		c.Entries[:cap(c.Entries)][i] = entry(9, ring(99, 9), 9, 9, 9)
	}
}

func TestWhatIsHandedInIsOnlyRead(t *testing.T) {
	for _, good := range well() {
		for _, c := range []api.Commit{roomy(good), roomy(with(good, func(c *api.Commit) { c.Entries[0].Clock = -1 }))} {
			untouched(t, c, func() {
				commit.Check(c)
				commit.Stamp(c)
				commit.Pass(c)
				for n := range nodes + 2 {
					commit.Visit(c, n)
					commit.Add(c, entry(n, ring(2, 1), 3, 4, 5))
					commit.Kin(c, ring(20+n, 9-n))
				}
			})
		}
	}
}

func TestWhatIsAnsweredIsNew(t *testing.T) {
	for _, crew := range fewCrews() {
		l := nodesOf(crew)
		n := len(l)
		for hop := 1; hop < 2*n; hop++ {
			next := func(c api.Commit) api.Commit {
				var d api.Commit
				var e api.Errno
				if hop < n {
					d, e = commit.Add(c, entryOf(l[hop]))
				} else {
					d, e = commit.Pass(c)
				}
				answers(t, "what comes next", at(crew, hop+1), d, e)
				return d
			}
			for _, c := range []api.Commit{at(crew, hop), roomy(at(crew, hop))} {
				one, other := next(c), next(c)
				untouched(t, c, func() { spoil(one) })
				if !same(other, at(crew, hop+1)) {
					t.Fatalf("one of two is changed, and the other one is %+v", other)
				}
				kept := next(c)
				spoil(c)
				if !same(kept, at(crew, hop+1)) {
					t.Fatalf("what was handed in is changed, and what was answered is %+v", kept)
				}
			}
		}
	}
}

func TestTwoThatAreNewShareNothing(t *testing.T) {
	one, e := commit.New(ring(9, 1), 10, three())
	refuses(t, "New", one, e)
	one, _ = commit.New(ring(300, 2), 12, entryOf(2))
	other, _ := commit.New(ring(300, 2), 12, entryOf(2))
	spoil(one)
	if !same(other, at(12, 1)) {
		t.Fatalf("%+v", other)
	}
	x, _ := commit.Add(other, entryOf(3))
	y, _ := commit.Add(other, entry(3, ring(2, 1), 3, 4, 5)) // another one of the same, in the same place
	if !same(x, at(12, 2)) || y.Entries[1] != entry(3, ring(2, 1), 3, 4, 5) {
		t.Fatalf("%+v, %+v", x, y)
	}
}
