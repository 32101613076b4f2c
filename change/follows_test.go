package change_test

import (
	"math/rand"
	"slices"
	"testing"

	"hauberk/api"
	"hauberk/change"
	"hauberk/order"
	"hauberk/regain"
	"hauberk/window"
)

// P21.3

// rows calls f with each row of that length of these letters.
func rows(length int, letters string, f func(r row)) {
	count := 1
	for range length {
		count *= len(letters)
	}
	b := make([]byte, length)
	for n := range count {
		for i := range b {
			b[i] = letters[n%len(letters)]
			n /= len(letters)
		}
		f(row(b))
	}
}

// aru answers up to which number all of the row are there.
func (r row) aru() int {
	aru := 0
	for r.isThere(aru + 1) {
		aru++
	}
	return aru
}

// mixed answers a window with all of the row, that came in any order.
func (r row) mixed(t testing.TB, by *rand.Rand) *window.Window {
	t.Helper()
	w := window.New()
	for _, i := range by.Perm(len(r)) {
		if r.isThere(i + 1) {
			puts(t, w, r.data(i+1))
		}
	}
	return w
}

// changes answers what is told of the example's configurations.
func changes(t testing.TB, w *window.Window, done, safe int) []api.Event {
	t.Helper()
	l, e := change.At(old(done, safe), w, kin, next())
	if e != api.OK {
		t.Fatalf("At(%d, %d): %d", done, safe, e)
	}
	return l
}

// messages answers the data that are told, and how many of them ahead of the transitional configuration.
func messages(l []api.Event) (all []api.Data, ahead int) {
	for _, x := range l {
		switch {
		case x.Kind == ofMessage:
			all = append(all, x.Data)
		case x.Config.Trans:
			ahead = len(all)
		}
	}
	return all, ahead
}

func numbers(l []api.Data) []int {
	var seqs []int
	for _, d := range l {
		seqs = append(seqs, d.Seq)
	}
	return seqs
}

func TestEveryRowByWords(t *testing.T) {
	rows(4, ".psoPSOx", func(r row) {
		w := r.window(t)
		for done := range 6 {
			for safe := range 6 {
				ahead, behind := r.words(done, safe)
				want := slices.Concat(ahead, []int{0}, behind, []int{-1})
				if got := brief(changes(t, w, done, safe)); !slices.Equal(got, want) {
					t.Fatalf("%s, Done %d, Safe %d: %v, want %v", r, done, safe, got, want)
				}
			}
		}
	})
}

func TestHoweverFarEachHasDelivered(t *testing.T) {
	by := rand.New(rand.NewSource(21))
	rows(5, ".pPsSo", func(r row) {
		var want []int // what both deliver in all
		for done := 0; done <= r.aru(); done++ {
			var all []int
			for seq := 1; seq <= done; seq++ {
				if !r.isOld(seq) {
					all = append(all, seq)
				}
			}
			l, _ := messages(changes(t, r.mixed(t, by), done, by.Intn(7)))
			all = append(all, numbers(l)...)
			if done == 0 {
				want = all
			}
			if !slices.Equal(all, want) {
				t.Fatalf("%s, Done %d: %v in all, else %v", r, done, all, want)
			}
		}
	})
}

func TestTwoOfTheKinWithOrders(t *testing.T) { // each has delivered as far as it could, and knew of other data that all have them
	by := rand.New(rand.NewSource(2121))
	rows(5, ".pPsSx", func(r row) {
		var want []api.Data
		for safe := range 7 {
			w, o := r.mixed(t, by), order.New()
			all, e := o.Next(w, safe)
			if e != api.OK {
				t.Fatal(e)
			}
			l, _ := messages(changes(t, w, o.Done(), safe+by.Intn(2)))
			all = append(all, l...)
			if safe == 0 {
				want = all
			}
			if !slices.EqualFunc(all, want, same) {
				t.Fatalf("%s, safe %d: %v in all, else %v", r, safe, numbers(all), numbers(want))
			}
		}
	})
}

func TestWhatIsSafeIsToldAhead(t *testing.T) {
	rows(5, ".pPsSo", func(r row) {
		w := r.window(t)
		for safe := 0; safe <= r.aru(); safe++ { // all have it: so these have it
			for done := 0; done <= r.aru(); done++ {
				l, ahead := messages(changes(t, w, done, safe))
				for i, d := range l {
					if d.Seq <= safe && i >= ahead || d.Message.Safe && d.Seq > safe && i < ahead {
						t.Fatalf("%s, Done %d, Safe %d: %v, %d of these ahead", r, done, safe, numbers(l), ahead)
					}
				}
			}
		}
	})
}

func TestNothingBehindAGapButOfTheKin(t *testing.T) {
	rows(5, ".pPsSo", func(r row) {
		w := r.window(t)
		for done := 0; done <= r.aru(); done++ {
			l, ahead := messages(changes(t, w, done, 3))
			for i, d := range l {
				if d.Seq > r.aru() && (d.Sender == 3 || i < ahead) {
					t.Fatalf("%s, Done %d: %v, %d of these ahead", r, done, numbers(l), ahead)
				}
			}
			for seq := done + 1; seq <= len(r); seq++ { // of the kin nothing is left out
				if r.is(seq, "ps") && !slices.Contains(numbers(l), seq) {
					t.Fatalf("%s, Done %d: %v without %d", r, done, numbers(l), seq)
				}
			}
		}
	})
}

func TestNothingBetweenBothConfigurations(t *testing.T) {
	rows(6, "pPsSo", func(r row) {
		w := r.window(t)
		safe := len(r) // from there on nothing is unsafe
		for safe > 0 && !r.isSafe(safe) {
			safe--
		}
		for _, done := range []int{0, 1, 3, 6, 9} {
			for _, more := range []int{0, 1} {
				l, ahead := messages(changes(t, w, done, safe+more))
				if ahead != len(l) {
					t.Fatalf("%s, Done %d, Safe %d: %v, %d of these ahead", r, done, safe+more, numbers(l), ahead)
				}
			}
		}
		if l, ahead := messages(changes(t, w, 0, safe-1)); safe > 0 && (ahead == len(l) || l[ahead].Seq != safe) {
			t.Fatalf("%s, Safe %d: %v, %d of these ahead", r, safe-1, numbers(l), ahead)
		}
	})
}

// story is a configuration that falls apart: its members have some of its data each.
type story struct {
	sent    []api.Data // all that was sent, by numbers
	members []*member
	allHave int // up to which number all have all
}

type member struct {
	node      int
	w         *window.Window
	o         *order.Order
	safe      int        // up to where it knows that all have all
	delivered []api.Data // in all
	ahead     int        // so many of these ahead of the transitional configuration
}

// begun answers a story of the nodes 1 to 4: each has what it has sent itself, all have what was sent again, the rest is by chance.
func begun(t testing.TB, by *rand.Rand) *story {
	t.Helper()
	s := &story{}
	for node := 1; node <= 4; node++ {
		s.members = append(s.members, &member{node: node, w: window.New(), o: order.New()})
	}
	again, known, luck := by.Intn(3), by.Intn(8), 1+by.Intn(8)
	for seq := 1; seq <= 14; seq++ {
		d := api.Data{Ring: api.RingId{Seq: 2, Rep: 1}, Seq: seq, Sender: 1 + by.Intn(4), Stamp: 9 + seq, Message: api.Message{Kind: 1, Origin: 1 + by.Intn(4), Life: 1, Id: seq, Parts: 1, Groups: 2, Safe: by.Intn(3) == 0, Body: filled(5, seq)}}
		if seq <= again {
			d.Message = api.Message{Kind: sentAgain, Origin: d.Sender, Id: d.Sender, From: api.Key{Ring: api.RingId{Seq: 1, Rep: 1}, Seq: seq}}
		}
		s.sent = append(s.sent, d)
		for _, m := range s.members {
			if seq <= again+known || m.node == d.Sender || by.Intn(10) < luck {
				puts(t, m.w, d)
			}
		}
	}
	s.allHave = len(s.sent)
	for _, m := range s.members {
		s.allHave = min(s.allHave, m.w.Aru())
	}
	for _, m := range s.members {
		m.safe = by.Intn(s.allHave + 1)
		m.delivers(t, by.Intn(m.safe+1))
		if by.Intn(2) == 0 {
			m.delivers(t, m.safe)
		}
	}
	return s
}

func (m *member) delivers(t testing.TB, safe int) {
	t.Helper()
	l, e := m.o.Next(m.w, safe)
	if e != api.OK {
		t.Fatal(e)
	}
	m.delivered = append(m.delivered, l...)
	m.ahead = len(m.delivered)
}

// share lets these send each other what they have.
func share(t testing.TB, l []*member) {
	t.Helper()
	low := l[0].w.Aru()
	for _, m := range l {
		low = min(low, m.w.Aru())
	}
	for _, from := range l {
		r, e := regain.New(from.w, low)
		if e != api.OK {
			t.Fatal(e)
		}
		for r.Left() > 0 {
			m, _ := r.Next()
			for _, to := range l {
				if _, e := regain.Take(to.w, api.RingId{Seq: 2, Rep: 1}, m); e != api.OK {
					t.Fatal(e)
				}
			}
		}
	}
}

// crewOf answers these as bits.
func crewOf(l []*member) int {
	c := 0
	for _, m := range l {
		c |= 1 << m.node
	}
	return c
}

// come lets these come into a configuration of their own, with a node that is new there.
func come(t testing.TB, l []*member) {
	t.Helper()
	share(t, l)
	crew := crewOf(l)
	for _, m := range l {
		o := change.Old{Config: api.Config{Ring: api.RingId{Seq: 2, Rep: 1}, Members: 30}, Done: m.o.Done(), Safe: m.safe}
		n := api.Config{Ring: api.RingId{Seq: 3, Rep: l[0].node}, Members: crew | 1<<7, Stamp: 90}
		events, e := change.At(o, m.w, crew, n)
		if e != api.OK {
			t.Fatal(e)
		}
		told, ahead := messages(events)
		m.ahead = len(m.delivered) + ahead
		m.delivered = append(m.delivered, told...)
	}
}

// parted answers the members in groups, by chance.
func (s *story) parted(by *rand.Rand) [][]*member {
	groups := make([][]*member, 1+by.Intn(4))
	for _, m := range s.members {
		i := by.Intn(len(groups))
		groups[i] = append(groups[i], m)
	}
	return slices.DeleteFunc(groups, func(l []*member) bool { return len(l) == 0 })
}

// isInOrder asks that of each sender nothing is left out between, and of the kin nothing at all.
func (s *story) isInOrder(t testing.TB, m *member, kin int) {
	t.Helper()
	if !slices.IsSortedFunc(m.delivered, func(a, b api.Data) int { return a.Seq - b.Seq }) {
		t.Fatalf("the node %d delivers %v", m.node, numbers(m.delivered))
	}
	for sender := 1; sender <= 4; sender++ {
		var sent, got []int
		for _, d := range s.sent {
			if d.Sender == sender && d.Message.Kind != sentAgain {
				sent = append(sent, d.Seq)
			}
		}
		for _, d := range m.delivered {
			if d.Sender == sender {
				got = append(got, d.Seq)
			}
		}
		isAll := len(got) == len(sent)
		if len(got) > len(sent) || !slices.Equal(got, sent[:len(got)]) || kin>>sender&1 == 1 && !isAll {
			t.Fatalf("the node %d, its kin %d: of the node %d it delivers %v of %v", m.node, kin, sender, got, sent)
		}
	}
}

// isSafeEverywhere asks that what the member delivered as safe is delivered by all.
func (s *story) isSafeEverywhere(t testing.TB, m *member) {
	t.Helper()
	for _, d := range m.delivered[:m.ahead] {
		if !d.Message.Safe {
			continue
		}
		for _, other := range s.members {
			if !slices.ContainsFunc(other.delivered, func(x api.Data) bool { return same(x, d) }) {
				t.Fatalf("%d is safe for the node %d; the node %d delivers %v", d.Seq, m.node, other.node, numbers(other.delivered))
			}
		}
	}
}

func TestConfigurationsThatFallApart(t *testing.T) {
	by := rand.New(rand.NewSource(212121))
	for range 3000 {
		s := begun(t, by)
		groups := s.parted(by)
		for _, l := range groups {
			come(t, l)
		}
		for _, l := range groups {
			for _, m := range l {
				if !slices.EqualFunc(m.delivered, l[0].delivered, same) {
					t.Fatalf("the nodes %d and %d deliver %v and %v", m.node, l[0].node, numbers(m.delivered), numbers(l[0].delivered))
				}
				s.isInOrder(t, m, crewOf(l))
				s.isSafeEverywhere(t, m)
			}
		}
	}
}

func TestLongRows(t *testing.T) {
	by := rand.New(rand.NewSource(12))
	letters := []string{".psoxPSOX", "pPpPpPpPpPs.", "pPsSpPpPpPo.", "ppppPPPPpppp.", "sSpP"}
	for range 400 {
		b := make([]byte, by.Intn(200))
		some := letters[by.Intn(len(letters))]
		for i := range b {
			b[i] = some[by.Intn(len(some))]
		}
		r := row(b)
		w := r.mixed(t, by)
		for range 10 {
			done, safe := by.Intn(len(r)+3), by.Intn(len(r)+3)
			ahead, behind := r.words(done, safe)
			at(t, old(done, safe), w, kin, next(), r.events(ahead, behind))
		}
	}
}

func TestManyData(t *testing.T) {
	const last = 50000
	w := window.New()
	for seq := 1; seq <= last; seq++ {
		if seq != 30000 {
			puts(t, w, api.Data{Seq: seq, Sender: 1 + seq%4, Message: api.Message{Safe: seq == 20000}})
		}
	}
	l, ahead := messages(changes(t, w, 1, 9))
	if ahead != 19998 || len(l) != 29998+10000 || l[len(l)-1].Seq != last {
		t.Error(ahead, len(l), l[len(l)-1])
	}
}

func FuzzAnyRows(f *testing.F) {
	f.Add("psPs.pP", 1, 2)
	f.Add("sOSoP.Oo.ps.xXPp", 0, 1)
	f.Add("", greatest, least)
	f.Fuzz(func(t *testing.T, text string, done, safe int) {
		if len(text) > 200 {
			return
		}
		b := []byte(text)
		for i := range b {
			b[i] = ".psoxPSOX"[b[i]%9]
		}
		r := row(b)
		w := r.window(t)
		if done < 0 {
			refuses(t, old(done, safe), w, kin, next(), api.ErrArg)
			return
		}
		ahead, behind := r.words(done, safe)
		at(t, old(done, safe), w, kin, next(), r.events(ahead, behind))
	})
}

func FuzzAnyConfigurations(f *testing.F) {
	f.Add(2, 1, members, 5, 1, nextMembers, kin, 40)
	f.Add(2, 8, 510, 3, 1, 510, 510, -1)
	f.Add(1, 1, 2, 1, 2, 2, 2, most)
	f.Fuzz(func(t *testing.T, seq, rep, crew, nextSeq, nextRep, nextCrew, k, stamp int) {
		o := change.Old{Config: api.Config{Ring: api.RingId{Seq: seq, Rep: rep}, Members: crew}, Done: 1, Safe: 2}
		n := api.Config{Ring: api.RingId{Seq: nextSeq, Rep: nextRep}, Members: nextCrew, Stamp: stamp}
		w := example.window(t)
		isCrew := func(c int) bool { return c&^510 == 0 }
		if !isRing(o.Config.Ring) || !isRing(n.Ring) || !isLess(o.Config.Ring, n.Ring) || !isCrew(crew) || !isCrew(nextCrew) || !isCrew(k) || k == 0 || k&crew != k || k&nextCrew != k {
			refuses(t, o, w, k, n, api.ErrArg)
			return
		}
		var behind []int
		for _, seq := range []int{4, 6, 7} {
			if seq == 4 || k>>example.data(seq).Sender&1 == 1 {
				behind = append(behind, seq)
			}
		}
		at(t, o, w, k, n, slices.Concat(
			example.messages([]int{2, 3}),
			[]api.Event{{Kind: ofConfig, Config: api.Config{Ring: n.Ring, Old: o.Config.Ring, Members: k, Trans: true}}},
			example.messages(behind),
			[]api.Event{{Kind: ofConfig, Config: n}}))
	})
}
