package gather_test

import (
	"math/rand"
	"slices"
	"testing"

	"hauberk/api"
	"hauberk/gather"
)

// history is a gathering by the chapter's words alone: all that it was told, in order, of which nothing is left out.
type history struct {
	node, counter int
	told          []api.Join
}

// lastOf answers the last join of a sender that it was told.
func (h *history) lastOf(sender int) (api.Join, bool) {
	for i := len(h.told) - 1; i >= 0; i-- {
		if h.told[i].Sender == sender {
			return h.told[i], true
		}
	}
	return api.Join{}, false
}

// hears answers the nodes that it hears, itself among them.
func (h *history) hears() []int {
	var l []int
	for n := 1; n <= nodes; n++ {
		if _, ok := h.lastOf(n); ok || n == h.node {
			l = append(l, n)
		}
	}
	return l
}

func (h *history) hear(j api.Join) answer {
	if !mayBe(j) {
		return refused
	}
	if j.Sender == h.node {
		return nothing
	}
	before, was := h.lastOf(j.Sender)
	h.told = append(h.told, j)
	return answer{changed: !was || before != j, grown: !was}
}

func (h *history) state() state {
	heard := h.hears()
	s := state{own: join(h.node, crewOf(heard...), h.counter), agreed: true, counter: h.counter}
	for _, n := range heard {
		if j, ok := h.lastOf(n); ok && !slices.Equal(nodesOf(j.Proc), heard) {
			s.agreed = false
		}
	}
	for _, j := range h.told {
		s.counter = max(s.counter, j.Counter)
	}
	return s
}

// watch is a gathering, and what is to become of it.
type watch struct {
	t testing.TB
	g *gather.Gather
	history
}

func newWatch(t testing.TB, node, counter int) *watch {
	t.Helper()
	return &watch{t, made(t, node, counter), history{node: node, counter: counter}}
}

// hear lets both hear the same, and asks that they answer the same and come to the same.
func (w *watch) hear(j api.Join) answer {
	w.t.Helper()
	before := stateOf(w.g)
	want := w.history.hear(j)
	hears(w.t, w.g, j, want)
	stands(w.t, w.g, w.state())
	w.onlyGrows(before, j)
	return want
}

// onlyGrows asks for what P18.4 says, as it says it.
func (w *watch) onlyGrows(before state, j api.Join) {
	w.t.Helper()
	after := stateOf(w.g)
	if after.counter < before.counter {
		w.t.Fatalf("behind %v the counter falls from %d to %d", j, before.counter, after.counter)
	}
	more := after.own.Proc &^ before.own.Proc
	if before.own.Proc&^after.own.Proc != 0 || more != 0 && more != crewOf(j.Sender) {
		w.t.Fatalf("behind %v whom it hears goes from %d to %d", j, before.own.Proc, after.own.Proc)
	}
}

// anyJoin answers a join that may be, with a sender out of within.
func anyJoin(r *rand.Rand, within []int) api.Join {
	sender := within[r.Intn(len(within))]
	proc := crewOf(sender)
	for _, n := range within {
		if r.Intn(4) > 0 {
			proc |= crewOf(n)
		}
	}
	if r.Intn(4) == 0 {
		proc |= crewOf(1 + r.Intn(nodes))
	}
	counter := r.Intn(8)
	if r.Intn(6) == 0 {
		counter = counters()[r.Intn(len(counters()))]
	}
	return join(sender, proc, counter)
}

// someNodes answers so many nodes, rising.
func someNodes(r *rand.Rand, count int) []int {
	l := r.Perm(nodes)[:count]
	for i := range l {
		l[i]++
	}
	slices.Sort(l)
	return l
}

func TestEveryRowOfFewJoins(t *testing.T) {
	var joins []api.Join
	for sender := 1; sender <= 3; sender++ {
		for _, proc := range crewsWith(sender, crewOf(1, 2, 3)) {
			joins = append(joins, join(sender, proc, 1), join(sender, proc, 3))
		}
	}
	joins = append(joins, join(3, 6, 9), join(1, 2, -1), join(4, 16, 4), join(4, 30, 0))
	for _, a := range joins {
		for _, b := range joins {
			for _, c := range joins {
				w := newWatch(t, 2, 2)
				w.hear(a)
				w.hear(b)
				w.hear(c)
			}
		}
	}
}

func TestLongRows(t *testing.T) {
	r := rand.New(rand.NewSource(18))
	agreed := 0
	for range 400 {
		within := someNodes(r, 1+r.Intn(nodes))
		w := newWatch(t, 1+r.Intn(nodes), counters()[r.Intn(len(counters()))])
		for range 60 {
			w.hear(anyJoin(r, within))
			if r.Intn(4) == 0 {
				bad := mayNotBe()
				w.hear(bad[r.Intn(len(bad))])
			}
			if r.Intn(8) == 0 { // one that names just whom it hears
				j := w.g.Own()
				j.Sender = nodesOf(j.Proc)[r.Intn(len(nodesOf(j.Proc)))]
				w.hear(j)
			}
			if w.g.Agreed() {
				agreed++
			}
		}
	}
	if agreed < 100 {
		t.Errorf("only %d were agreed: the rows tell too little", agreed)
	}
}

// P18.4

func TestOnlyWhoIsHeardItselfIsHeard(t *testing.T) { // whomever others name
	for node := 1; node <= nodes; node++ {
		g := made(t, node, 5)
		heard := []int{node}
		for n := nodes; n >= 1; n-- {
			if n == node {
				continue
			}
			for _, proc := range crewsWith(n, whole) {
				hear(g, join(n, proc, 0))
				if got, want := g.Own().Proc, crewOf(append(heard, n)...); got != want {
					t.Fatalf("the node %d, %d names %d: %d is heard, want %d", node, n, proc, got, want)
				}
			}
			heard = append(heard, n)
		}
	}
}

func TestNobodyIsLost(t *testing.T) { // though those that were heard name each other no more
	g := made(t, 3, 5, join(1, whole, 7), join(2, whole, 6), join(8, whole, 9))
	want := crewOf(1, 2, 3, 8)
	for _, n := range []int{1, 2, 8, 8, 1} {
		hear(g, join(n, crewOf(n), 0))
		if g.Own().Proc != want || g.Counter() != 9 {
			t.Fatalf("%d says that it hears itself alone: %v, %d", n, g.Own(), g.Counter())
		}
	}
}

// P18.5

// party is gatherings of unlike nodes that tell each other what they say, late, or not at all.
type party struct {
	t     testing.TB
	r     *rand.Rand
	all   []*gather.Gather
	heard map[[2]int]api.Join // the last word that the first one has of the second one
}

// word is who says something to whom.
type word struct{ to, from int }

func partyOf(t testing.TB, r *rand.Rand, count int) *party {
	t.Helper()
	p := &party{t: t, r: r, heard: map[[2]int]api.Join{}}
	for _, n := range someNodes(r, count) {
		p.all = append(p.all, made(t, n, r.Intn(20)))
	}
	return p
}

// tell lets one hear a word of another one.
func (p *party) tell(w word, j api.Join) {
	p.t.Helper()
	if got := hear(p.all[w.to], j); got.e != api.OK {
		p.t.Fatalf("Hear(%v): %+v", j, got)
	}
	p.heard[[2]int{w.to, w.from}] = j
	p.holds()
}

// hearEachOther tells whether each of the two has the other one's last word.
func (p *party) hearEachOther(a, b int) bool {
	return p.heard[[2]int{a, b}] == p.all[b].Own() && p.heard[[2]int{b, a}] == p.all[a].Own()
}

// pairs answers all two that hear each other and are agreed.
func (p *party) pairs() [][2]*gather.Gather {
	var l [][2]*gather.Gather
	for a := range p.all {
		for b := range a {
			if p.hearEachOther(a, b) && p.all[a].Agreed() && p.all[b].Agreed() {
				l = append(l, [2]*gather.Gather{p.all[a], p.all[b]})
			}
		}
	}
	return l
}

func (p *party) holds() {
	p.t.Helper()
	for _, l := range p.pairs() {
		if one, other := l[0].Own(), l[1].Own(); one.Proc != other.Proc {
			p.t.Fatalf("%v and %v hear each other, and are agreed", one, other)
		}
	}
}

// talk lets some of them say something to some, as it is now or as it was some time ago.
func (p *party) talk(rounds int) int {
	p.t.Helper()
	agreed := 0
	old := map[int][]api.Join{}
	for range rounds {
		w := word{to: p.r.Intn(len(p.all)), from: p.r.Intn(len(p.all))}
		if w.to == w.from {
			continue
		}
		old[w.from] = append(old[w.from], p.all[w.from].Own())
		j := old[w.from][len(old[w.from])-1]
		if p.r.Intn(5) == 0 {
			j = old[w.from][p.r.Intn(len(old[w.from]))]
		}
		p.tell(w, j)
		agreed += len(p.pairs())
	}
	return agreed
}

// everybody lets each hear the last word of each.
func (p *party) everybody() {
	p.t.Helper()
	for range 2 { // first they hear of each other, then that they all have
		for from, g := range p.all {
			for to := range p.all {
				p.tell(word{to, from}, g.Own())
			}
		}
	}
}

func TestTwoThatAreAgreedHearTheSame(t *testing.T) {
	r := rand.New(rand.NewSource(185))
	for count := 2; count <= nodes; count++ {
		agreed := 0
		for range 20 {
			p := partyOf(t, r, count)
			agreed += p.talk(8 * count * count)
		}
		if agreed == 0 {
			t.Errorf("%d nodes: no two were ever agreed", count)
		}
	}
}

func TestAllHearTheSameWhenNothingIsLost(t *testing.T) {
	r := rand.New(rand.NewSource(186))
	for count := 1; count <= nodes; count++ {
		for range 10 {
			p := partyOf(t, r, count)
			p.talk(5 * count)
			p.everybody()
			crew, top := 0, 0
			for _, g := range p.all {
				crew |= crewOf(g.Own().Sender)
				top = max(top, g.Own().Counter)
			}
			for _, g := range p.all {
				stands(t, g, state{join(g.Own().Sender, crew, g.Own().Counter), true, top})
			}
		}
	}
}

// Two gatherings, to which two others, who need not be of one mind, have said anything.
func TestEveryTwoThatHearOthersToo(t *testing.T) {
	within := crewOf(1, 2, 3, 4)
	said := func(sender int) []api.Join {
		l := []api.Join{{}} // nothing
		for _, proc := range crewsWith(sender, within) {
			l = append(l, join(sender, proc, 0))
		}
		return l
	}
	both, same := 0, 0
	for _, a := range said(3) {
		for _, b := range said(4) {
			for _, c := range said(3) {
				for _, d := range said(4) {
					one, other := made(t, 1, 0), made(t, 2, 0)
					hear(one, a)
					hear(one, b)
					hear(other, c)
					hear(other, d)
					hear(one, other.Own())
					hears(t, other, one.Own(), first)
					hears(t, one, other.Own(), another) // it hears one more since
					hears(t, other, one.Own(), nothing)
					equal := one.Own().Proc == other.Own().Proc
					if one.Agreed() && other.Agreed() {
						both++
						if !equal {
							t.Fatalf("%v and %v are agreed", one.Own(), other.Own())
						}
					}
					if equal {
						same++
					}
				}
			}
		}
	}
	if both != 4 || same <= both { // one way for each crew of the two with or without 3 and 4
		t.Errorf("%d times both are agreed, %d times they hear the same", both, same)
	}
}

// P18.6

// asItWas asks that to hear a gathering's last joins again, in any order, is nothing.
func asItWas(t testing.TB, r *rand.Rand, g *gather.Gather, last []api.Join) {
	t.Helper()
	before := stateOf(g)
	for range 2 {
		for _, i := range r.Perm(len(last)) {
			hears(t, g, last[i], nothing)
			stands(t, g, before)
		}
	}
}

func permuted(l []api.Join) [][]api.Join {
	if len(l) == 0 {
		return [][]api.Join{nil}
	}
	var all [][]api.Join
	for i, j := range l {
		rest := slices.Delete(slices.Clone(l), i, i+1)
		for _, tail := range permuted(rest) {
			all = append(all, append([]api.Join{j}, tail...))
		}
	}
	return all
}

func TestEveryOrderOfThreeSenders(t *testing.T) {
	r := rand.New(rand.NewSource(187))
	within := crewOf(1, 2, 3, 4)
	for _, a := range crewsWith(1, within) {
		for _, b := range crewsWith(3, within) {
			for _, c := range crewsWith(4, within) {
				agreed := a == within && b == within && c == within
				last := []api.Join{join(1, a, a), join(3, b, b%7), join(4, c, 40-b)}
				want := state{join(2, within, 5), agreed, max(5, a, b%7, 40-b)}
				for _, l := range permuted(last) {
					g := made(t, 2, 5)
					for _, j := range l {
						hears(t, g, j, first)
					}
					stands(t, g, want)
					asItWas(t, r, g, last)
				}
			}
		}
	}
}

func TestEveryOrderOfAllSenders(t *testing.T) {
	last := []api.Join{join(1, whole, 3), join(2, whole, 8), join(4, whole, 0), join(5, whole, most), join(6, whole, 7), join(7, whole, 1), join(8, whole, 8)}
	for _, l := range permuted(last) {
		stands(t, made(t, 3, 5, l...), state{join(3, whole, 5), true, most})
	}
	last[3].Proc = whole &^ 2
	for _, l := range permuted(last) {
		stands(t, made(t, 3, 5, l...), state{join(3, whole, 5), false, most})
	}
}

// mixed answers the joins of several senders in one row, those of each in their order.
func mixed(r *rand.Rand, rows [][]api.Join) []api.Join {
	var whose []int
	for i, row := range rows {
		whose = append(whose, slices.Repeat([]int{i}, len(row))...)
	}
	r.Shuffle(len(whose), func(i, k int) { whose[i], whose[k] = whose[k], whose[i] })
	next := make([]int, len(rows))
	var l []api.Join
	for _, i := range whose {
		l = append(l, rows[i][next[i]])
		next[i]++
	}
	return l
}

func TestInWhichOrderSendersComeIsTheSame(t *testing.T) { // while they say one thing and another
	r := rand.New(rand.NewSource(188))
	for range 300 {
		senders := someNodes(r, 1+r.Intn(nodes))
		node := 1 + r.Intn(nodes)
		var rows [][]api.Join
		var last []api.Join
		for _, n := range senders {
			if n == node {
				continue
			}
			row := make([]api.Join, 1+r.Intn(4))
			for i := range row {
				row[i] = anyJoin(r, senders)
				row[i].Sender = n
				row[i].Proc |= crewOf(n)
				if i == len(row)-1 && r.Intn(2) == 0 {
					row[i].Proc = crewOf(append(senders, node)...)
				}
			}
			rows = append(rows, row)
			last = append(last, row[len(row)-1])
		}
		want := stateOf(made(t, node, 4, slices.Concat(rows...)...))
		for range 6 {
			g := made(t, node, 4, mixed(r, rows)...)
			stands(t, g, want)
			asItWas(t, r, g, last)
		}
	}
}

func TestManyJoins(t *testing.T) { // what was heard does not make what comes slow
	g := made(t, 8, 0)
	for i := range 200000 {
		sender := 1 + i%7
		hear(g, join(sender, crewOf(sender, 8), i))
		if g.Counter() != i || g.Agreed() != (i == 0) {
			t.Fatal(i, g.Counter(), g.Agreed())
		}
	}
	if g.Own() != join(8, whole, 0) {
		t.Error(g.Own())
	}
}

func FuzzCalls(f *testing.F) {
	f.Add([]byte{2, 5}, []byte{3, 12, 9, 3, 12, 9, 3, 8, 1, 1, 14, 0, 2, 14, 99})
	f.Add([]byte{8, 0}, []byte{4, 12, 0, 9, 0, 0, 1, 3, 0, 1, 2, 255, 1, 2, 254, 7, 128, 253})
	f.Add([]byte{1, 253}, []byte{8, 254, 3, 2, 6, 1, 2, 7, 1, 0, 1, 0})
	f.Fuzz(func(t *testing.T, of, calls []byte) {
		counter := func(b byte) int {
			switch b {
			case 255:
				return -1
			case 254:
				return most + 1
			case 253:
				return most
			}
			return int(b)
		}
		if len(of) < 2 {
			return
		}
		node, own := int(of[0])%11, counter(of[1])
		if node < 1 || node > nodes || own < 0 || own > most {
			if g, e := gather.New(node, own); g != nil || e != api.ErrArg {
				t.Fatalf("New(%d, %d): %v, %d", node, own, g, e)
			}
			return
		}
		w := newWatch(t, node, own)
		for ; len(calls) >= 3; calls = calls[3:] {
			w.hear(join(int(calls[0]&15)-2, int(calls[1])+int(calls[0]>>7)*256, counter(calls[2])))
		}
	})
}
