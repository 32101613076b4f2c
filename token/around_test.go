package token_test

import (
	"math/rand"
	"slices"
	"testing"

	"hauberk/api"
	"hauberk/token"
)

// P16.6

// member is a node of those among which a token goes around.
type member struct {
	number, aru, left, safe int
	have                    map[int]bool
}

func (m *member) take(seq int) {
	m.have[seq] = true
	for m.have[m.aru+1] {
		m.aru++
	}
}

// gaps answers all that m lacks up to last, be it more than a token asks for.
func (m *member) gaps(last int) []int {
	return slices.DeleteFunc(row(1, last), func(seq int) bool { return m.have[seq] })
}

// late is one of the data on its way.
type late struct {
	to  *member
	seq int
}

// circle is a token among members.
type circle struct {
	t       testing.TB
	r       *rand.Rand
	members []*member
	next    int // at whom the token comes in
	token   api.Token
	late    []late
	luck    int // how many of eight data come at once
}

// circleOf answers a circle of some nodes, n of them, through which the token goes by rising numbers, from any on.
func circleOf(t testing.TB, r *rand.Rand, n int) *circle {
	t.Helper()
	first, e := token.New(api.RingId{Seq: 4, Rep: 1}, 20)
	if e != api.OK {
		t.Fatal(e)
	}
	c := &circle{t: t, r: r, token: first, next: r.Intn(n), luck: 1 + r.Intn(6)}
	numbers := r.Perm(nodes)[:n]
	slices.Sort(numbers)
	for _, number := range numbers {
		c.members = append(c.members, &member{number: number + 1, left: -1, have: map[int]bool{}})
	}
	return c
}

// spread sends one of the data to all: some get it at once, some later on, some never.
func (c *circle) spread(from *member, seq int) {
	for _, m := range c.members {
		chance := c.r.Intn(8)
		switch {
		case m == from || chance < c.luck:
			m.take(seq)
		case chance == c.luck:
			c.late = append(c.late, late{m, seq})
		}
	}
}

// comeLate lets some of what is on its way come in.
func (c *circle) comeLate() {
	c.late = slices.DeleteFunc(c.late, func(l late) bool {
		comes := c.r.Intn(3) == 0
		if comes {
			l.to.take(l.seq)
		}
		return comes
	})
}

// allHave asks that each member has all up to seq.
func (c *circle) allHave(seq int) {
	c.t.Helper()
	for _, m := range c.members {
		if m.aru < seq {
			c.t.Fatalf("%d members: the node %d has all up to %d, and %d is said; the token: %+v", len(c.members), m.number, m.aru, seq, c.token)
		}
	}
}

// visit lets the token come to the next member, which sends so many, and answers up to where it knows then that all have all.
func (c *circle) visit(sends int) int {
	c.t.Helper()
	m := c.members[c.next]
	c.next = (c.next + 1) % len(c.members)
	lesser := min(m.left, c.token.Aru)
	c.allHave(lesser)
	m.safe = token.Safe(m.safe, m.left, c.token.Aru)
	c.allHave(m.safe)
	c.comeLate()
	c.sendAgain(m)
	for range sends {
		c.token.Seq++
		c.spread(m, c.token.Seq)
	}
	c.leave(m)
	return lesser
}

// sendAgain lets m send what is asked for, as far as it has it.
func (c *circle) sendAgain(m *member) {
	var have []int
	for _, seq := range c.token.Ask {
		if m.have[seq] {
			have = append(have, seq)
			c.spread(m, seq)
		}
	}
	c.token = token.Answer(c.token, have)
}

func (c *circle) leave(m *member) {
	c.t.Helper()
	hop := c.token.Hop
	c.token = token.Visit(c.token, m.number, m.aru, m.gaps(c.token.Seq))
	if e := token.Check(c.token); e != api.OK || c.token.Hop != hop+1 || c.token.Aru > m.aru {
		c.t.Fatalf("%+v, behind %d, that has %d: %d", c.token, m.number, m.aru, e)
	}
	m.left = c.token.Aru
}

// endsWell asks that all know it two rounds later, when nobody sends, and all have all.
func (c *circle) endsWell() {
	c.t.Helper()
	c.allHave(c.token.Seq)
	for range 2 * len(c.members) {
		c.visit(0)
	}
	for range 2 * len(c.members) {
		if lesser := c.visit(0); lesser != c.token.Seq {
			c.t.Fatalf("%d members: two rounds later %d, want %d", len(c.members), lesser, c.token.Seq)
		}
	}
	for _, m := range c.members {
		if m.safe != c.token.Seq {
			c.t.Fatalf("%d members: safe is %d at %d, want %d", len(c.members), m.safe, m.number, c.token.Seq)
		}
	}
}

// bustle lets the token go around for a while, while nodes send.
func (c *circle) bustle() {
	c.t.Helper()
	for range c.r.Intn(8 * len(c.members)) {
		c.visit(max(0, c.r.Intn(10)-5))
	}
}

func TestAround(t *testing.T) {
	r := rand.New(rand.NewSource(167))
	for n := 1; n <= nodes; n++ {
		for range 150 {
			c := circleOf(t, r, n)
			for range 3 { // what begins anew behind a quiet time holds as well
				c.bustle()
				for _, m := range c.members {
					for _, seq := range m.gaps(c.token.Seq) {
						m.take(seq)
					}
				}
				c.endsWell()
			}
		}
	}
}

// What is asked for is enough: all come to have all by the token alone, when nothing is lost any more.
func TestAroundByWhatIsAskedFor(t *testing.T) {
	r := rand.New(rand.NewSource(168))
	for n := 1; n <= nodes; n++ {
		for range 60 {
			c := circleOf(t, r, n)
			c.bustle()
			c.luck, c.late = 8, nil
			for range 2 * n * (2 + c.token.Seq/asks) {
				c.visit(0)
			}
			if c.endsWell(); len(c.token.Ask) > 0 {
				t.Fatalf("%d members: %+v", n, c.token)
			}
		}
	}
}

const few = 4 // how many members there are at most, where all that can happen is gone through

// state is how things stand, when the token comes.
type state struct {
	members, at, seq, aru, low int
	has, left                  [few]int
}

func (s state) lesser() int { return min(s.left[s.at], s.aru) }

// isTrue asks that each member has all up to what is said.
func (s state) isTrue() bool {
	for i := range s.members {
		if s.has[i] < s.lesser() {
			return false
		}
	}
	return true
}

// after answers how things stand behind a visit at which the node sends so many.
func (s state) after(sends int) state {
	if s.has[s.at] == s.seq { // else it lacks some ahead of what it sends
		s.has[s.at] += sends
	}
	s.seq += sends
	number := [few]int{2, 5, 7, 8}[s.at]
	x := token.Visit(api.Token{Ring: api.RingId{Seq: 1, Rep: 2}, Hop: 1, Seq: s.seq, Aru: s.aru, Low: s.low}, number, s.has[s.at], nil)
	s.aru, s.low, s.left[s.at] = x.Aru, x.Low, x.Aru
	s.at = (s.at + 1) % s.members
	return s
}

// got answers all ways in which the members from i on can have got data.
func (s state) got(i int) []state {
	if i == s.members {
		return []state{s}
	}
	var all []state
	for has := s.has[i]; has <= s.seq; has++ {
		now := s
		now.has[i] = has
		all = append(all, now.got(i+1)...)
	}
	return all
}

// endsWell tells whether all know it two rounds later, when nobody sends, and all have all.
func (s state) endsWell() bool {
	for i := range s.members {
		s.has[i] = s.seq
	}
	for range 2 * s.members {
		s = s.after(0)
	}
	for range s.members {
		if s.lesser() != s.seq {
			return false
		}
		s = s.after(0)
	}
	return true
}

// Everything that can happen among few members with few data is gone through.
func TestAroundInEveryWay(t *testing.T) {
	for i, last := range []int{6, 7, 5, 3} {
		first := state{members: i + 1, left: [few]int{-1, -1, -1, -1}}
		seen := map[state]bool{first: true}
		work := []state{first}
		for len(work) > 0 {
			s := work[len(work)-1]
			work = work[:len(work)-1]
			if !s.isTrue() || !s.endsWell() {
				t.Fatalf("%+v: true %v, ends well %v", s, s.isTrue(), s.endsWell())
			}
			for _, now := range s.got(0) {
				for sends := range last - now.seq + 1 {
					if next := now.after(sends); !seen[next] {
						seen[next] = true
						work = append(work, next)
					}
				}
			}
		}
		t.Logf("%d members, %d data: %d states", i+1, last, len(seen))
	}
}
