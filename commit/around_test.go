package commit_test

import (
	"math/rand"
	"slices"
	"testing"

	"hauberk/api"
	"hauberk/commit"
)

// P19.5

// circle is a crew's nodes, what each knows of its old configuration, and what each gets to see.
type circle struct {
	t       testing.TB
	members []int
	own     map[int]api.Entry
	seen    map[int][]api.Commit // by nodes: their second visits
	hops    int
}

func newCircle(t testing.TB, crew int, own func(node int) api.Entry) *circle {
	x := &circle{t: t, members: nodesOf(crew), own: map[int]api.Entry{}, seen: map[int][]api.Commit{}}
	for _, n := range x.members {
		x.own[n] = own(n)
	}
	return x
}

// all answers what all of them know.
func (x *circle) all() []api.Entry {
	var l []api.Entry
	for _, n := range x.members {
		l = append(l, x.own[n])
	}
	return l
}

// receiver answers the only node to which c is not strange, and which visit it is there.
func (x *circle) receiver(c api.Commit) (node, visit int) {
	x.t.Helper()
	for n := -1; n <= nodes+1; n++ {
		if v := commit.Visit(c, n); v != strange {
			if node != 0 {
				x.t.Fatalf("%+v goes to %d and to %d", c, node, n)
			}
			node, visit = n, v
		}
	}
	if !slices.Contains(x.members, node) {
		x.t.Fatalf("%+v goes to %d", c, node)
	}
	return node, visit
}

// hop lets the one that gets c hand it on, as a node of a ring does; ok false: it is back.
func (x *circle) hop(c api.Commit) (d api.Commit, ok bool) {
	x.t.Helper()
	node, visit := x.receiver(c)
	var e api.Errno
	switch visit {
	case first:
		d, e = commit.Add(c, x.own[node])
	case second:
		x.seen[node] = append(x.seen[node], c)
		d, e = commit.Pass(c)
	case last:
		x.isBack(c, node)
		return c, false
	}
	if e != api.OK {
		x.t.Fatalf("the node %d, visit %d of %+v: %d", node, visit, c, e)
	}
	return d, true
}

func (x *circle) isBack(c api.Commit, node int) {
	x.t.Helper()
	if node != x.members[0] || x.hops != 2*len(x.members) {
		x.t.Fatalf("it is back at %d behind %d hops: %+v", node, x.hops, c)
	}
	if !slices.Equal(c.Entries, x.all()) {
		x.t.Fatalf("it is back with %+v, want %+v", c.Entries, x.all())
	}
}

// around lets the least member begin, and all hand it on.
func (x *circle) around(r api.RingId) api.Commit {
	x.t.Helper()
	c, e := commit.New(r, crewOf(x.members...), x.own[x.members[0]])
	if e != api.OK {
		x.t.Fatalf("New: %d", e)
	}
	order := slices.Concat(x.members[1:], x.members, x.members[:1])
	for x.hops = 1; ; x.hops++ { // New is its first hop
		if x.hops > len(order) {
			x.t.Fatalf("it is not back behind %d hops: %+v", x.hops-1, c)
		}
		node, _ := x.receiver(c)
		if node != order[x.hops-1] || c.Hop != x.hops {
			x.t.Fatalf("behind %d hops it goes to %d: %+v", x.hops, node, c)
		}
		d, ok := x.hop(c)
		if !ok {
			return c
		}
		c = d
	}
}

// holds asks that each member had all entries at its second visit, and only one such visit.
func (x *circle) holds(c api.Commit) {
	x.t.Helper()
	for _, n := range x.members {
		l := x.seen[n]
		if len(l) != 1 || !slices.Equal(l[0].Entries, x.all()) {
			x.t.Fatalf("the node %d saw %+v, want once %+v", n, l, x.all())
		}
		if l[0].Ring != c.Ring || l[0].Members != c.Members {
			x.t.Fatalf("the node %d saw %+v, and it came back as %+v", n, l[0], c)
		}
		x.agrees(l[0], c)
	}
}

// agrees asks that two commits tell the same of the configuration.
func (x *circle) agrees(a, b api.Commit) {
	x.t.Helper()
	if one, other := commit.Stamp(a), commit.Stamp(b); one != other || one == 0 {
		x.t.Fatalf("%d and %d are the stamps of %+v and %+v", one, other, a, b)
	}
	for _, n := range x.members {
		old := x.own[n].Old
		one, other := kinOf(a, old), kinOf(b, old)
		if one != other || one.members&crewOf(n) == 0 || one.low > x.own[n].Aru || one.high < x.own[n].High {
			x.t.Fatalf("the node %d, from %v: %+v and %+v", n, old, one, other)
		}
	}
}

// anyEntry answers one that may be, of one of few old configurations.
func anyEntry(r *rand.Rand, node int) api.Entry {
	l := numbers()
	high := l[r.Intn(len(l))]
	aru := 0
	for _, v := range l {
		if v <= high && r.Intn(2) == 0 {
			aru = v
		}
	}
	return entry(node, ring(1+r.Intn(2), 1+r.Intn(2)), aru, high, l[r.Intn(len(l))])
}

func TestEveryCrewGoesAround(t *testing.T) {
	r := rand.New(rand.NewSource(19))
	for _, crew := range crews() {
		x := newCircle(t, crew, entryOf)
		x.holds(x.around(ring(300, x.members[0])))
		for range 4 {
			x := newCircle(t, crew, func(n int) api.Entry { return anyEntry(r, n) })
			x.holds(x.around(ring(1+r.Intn(most), x.members[0])))
		}
	}
}

func TestOneAloneGoesAround(t *testing.T) {
	for n := 1; n <= nodes; n++ {
		x := newCircle(t, crewOf(n), entryOf)
		c := x.around(ring(5, n))
		x.holds(c)
		if x.hops != 2 || commit.Visit(c, n) != last {
			t.Fatalf("%d hops: %+v", x.hops, c)
		}
	}
}

func TestAnotherOneCannotBegin(t *testing.T) {
	for _, crew := range crews() {
		for _, n := range nodesOf(crew)[1:] {
			newRefuses(t, ring(300, n), crew, entryOf(n))
			newRefuses(t, ring(300, nodesOf(crew)[0]), crew, entryOf(n))
		}
	}
}

// What comes twice, late or to a wrong node leads nowhere else: each state has one way on.
func TestItHasOneWay(t *testing.T) {
	for _, crew := range crews() {
		x := newCircle(t, crew, entryOf)
		n := len(x.members)
		states := map[int]api.Commit{}
		c, e := commit.New(ring(300, x.members[0]), crew, entryOf(x.members[0]))
		for hop := 1; e == api.OK; hop++ {
			states[hop] = c
			x.hops = hop
			d, ok := x.hop(c)
			if !ok {
				break
			}
			c = d
		}
		if len(states) != 2*n {
			t.Fatalf("%d states of %d nodes", len(states), n)
		}
		for hop, c := range states {
			if !same(c, at(crew, hop)) {
				t.Fatalf("behind %d hops: %+v", hop, c)
			}
			for _, node := range nodesOf(whole) {
				d, e := commit.Add(c, entryOf(node))
				if (e == api.OK) != (commit.Visit(c, node) == first) || e == api.OK && !same(d, states[hop+1]) {
					t.Fatalf("Add at %d behind %d hops: %+v, %d", node, hop, d, e)
				}
			}
			d, e := commit.Pass(c)
			if (e == api.OK) != (hop >= n && hop < 2*n) || e == api.OK && !same(d, states[hop+1]) {
				t.Fatalf("Pass behind %d hops: %+v, %d", hop, d, e)
			}
		}
	}
}

// strayed answers c with something in it changed, so that it mostly may not be.
func strayed(r *rand.Rand, c api.Commit) api.Commit {
	edge := append(append(numbers(), noNumbers()...), 2, 3, 8, 9)
	v := edge[r.Intn(len(edge))]
	return with(c, func(c *api.Commit) {
		i := r.Intn(max(len(c.Entries), 1))
		part := r.Intn(12)
		if len(c.Entries) == 0 {
			part %= 4
		}
		switch part {
		case 0:
			c.Hop += r.Intn(5) - 2
		case 1:
			c.Members ^= 1 << r.Intn(11)
		case 2:
			c.Ring.Seq = v
		case 3:
			c.Ring.Rep = v
		case 4:
			c.Entries[i].Node = v
		case 5:
			c.Entries[i].Old.Seq = v
		case 6:
			c.Entries[i].Old.Rep = v
		case 7:
			c.Entries[i].Aru = v
		case 8:
			c.Entries[i].High = v
		case 9:
			c.Entries[i].Clock = v
		case 10:
			c.Entries = slices.Delete(c.Entries, i, i+1)
		case 11:
			c.Entries = append(c.Entries, anyEntry(r, 1+r.Intn(nodes)))
		}
	})
}

func TestManyByWords(t *testing.T) {
	r := rand.New(rand.NewSource(191))
	good, bad := 0, 0
	for range 40000 {
		crew := 2 * (1 + r.Intn(whole/2))
		l := nodesOf(crew)
		c := at(crew, 1+r.Intn(2*len(l)))
		for i := range c.Entries {
			c.Entries[i] = anyEntry(r, l[i])
		}
		for range r.Intn(3) {
			c = strayed(r, c)
		}
		own := anyEntry(r, 1+r.Intn(nodes))
		if c.Hop > 0 && c.Hop < len(l) && r.Intn(4) > 0 {
			own.Node = l[c.Hop]
		}
		if r.Intn(4) == 0 {
			bad := spoilt(own)
			own = bad[r.Intn(len(bad))]
		}
		byWords(t, c, own)
		if mayBe(c) {
			good++
		} else {
			bad++
		}
	}
	if good < 5000 || bad < 5000 {
		t.Errorf("%d may be, %d may not: they tell too little", good, bad)
	}
}

func FuzzCommits(f *testing.F) {
	f.Add(9, 1, 10, 1, []byte{1, 2, 1, 3, 4, 5}, []byte{3, 2, 1, 2, 6, 8})
	f.Add(9, 1, 10, 2, []byte{1, 2, 1, 3, 4, 5, 3, 2, 1, 2, 6, 8}, []byte{1, 2, 1, 3, 4, 5})
	f.Add(9, 1, 10, 4, []byte{1, 2, 1, 3, 4, 255, 3, 2, 1, 2, 6, 8}, []byte{1, 2, 1, 3, 4, 5})
	f.Add(most, 4, 16, 1, []byte{4, 255, 8, 0, 255, 254}, []byte{4, 1, 1, 0, 0, 0})
	f.Add(-1, 9, -512, 1<<62, []byte{}, []byte{})
	f.Fuzz(func(t *testing.T, seq, rep, members, hop int, list, more []byte) {
		number := func(b byte) int {
			switch b {
			case 255:
				return most
			case 254:
				return most + 1
			case 253:
				return -1
			}
			return int(b)
		}
		read := func(b []byte) api.Entry {
			return entry(number(b[0]), ring(number(b[1]), number(b[2])), number(b[3]), number(b[4]), number(b[5]))
		}
		c := api.Commit{Ring: ring(seq, rep), Members: members, Hop: hop}
		for ; len(list) >= 6; list = list[6:] {
			c.Entries = append(c.Entries, read(list))
		}
		own := entryOf(1)
		if len(more) >= 6 {
			own = read(more)
		}
		untouched(t, roomy(c), func() { byWords(t, c, own) })
		byWords(t, roomy(c), own)
	})
}
