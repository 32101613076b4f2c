package token_test

import (
	"maps"
	"math"
	"math/rand"
	"slices"
	"testing"

	"hauberk/api"
	"hauberk/packet"
	"hauberk/token"
)

// The numbers of the document, written out, so that the package is not held against itself.
const (
	most     = 1<<53 - 1
	asks     = 16
	nodes    = 8
	least    = math.MinInt
	greatest = math.MaxInt
)

// usual is the chapter's T.
func usual() api.Token {
	return api.Token{Ring: api.RingId{Seq: 4, Rep: 1}, Hop: 1, Seq: 9, Aru: 5, Low: 3, Stamp: 20}
}

// wide has a Seq that leaves room for more than may be asked for.
func wide() api.Token {
	return with(usual(), func(x *api.Token) { x.Seq = 100 })
}

// with answers x as change leaves it.
func with(x api.Token, change func(x *api.Token)) api.Token {
	x.Ask = slices.Clone(x.Ask)
	change(&x)
	return x
}

// asking answers x, but that it asks for these.
func asking(x api.Token, l ...int) api.Token {
	return with(x, func(x *api.Token) { x.Ask = l })
}

// row answers the numbers from one to another one.
func row(from, to int) []int {
	var l []int
	for v := from; v <= to; v++ {
		l = append(l, v)
	}
	return l
}

// same holds tokens against each other; a list without elements may be nil or not.
func same(a, b api.Token) bool {
	return a.Ring == b.Ring && a.Hop == b.Hop && a.Seq == b.Seq && a.Aru == b.Aru && a.Low == b.Low &&
		a.Stamp == b.Stamp && a.Idle == b.Idle && slices.Equal(a.Ask, b.Ask)
}

// mayBe tells by the words of chapter 6 whether a token may be.
func mayBe(x api.Token) bool {
	for _, v := range []int{x.Ring.Seq, x.Ring.Rep, x.Hop, x.Seq, x.Aru, x.Low, x.Stamp, x.Idle} {
		if v < 0 || v > most {
			return false
		}
	}
	if x.Ring.Seq == 0 || x.Ring.Rep == 0 || x.Ring.Rep > nodes || x.Hop == 0 || x.Aru > x.Seq || x.Low > nodes || len(x.Ask) > asks {
		return false
	}
	for i, v := range x.Ask {
		if v < 1 || v > x.Seq || i > 0 && v <= x.Ask[i-1] {
			return false
		}
	}
	return true
}

// visited answers by the words of P16.2 what becomes of a token.
func visited(x api.Token, node, aru int, gaps []int) api.Token {
	if !mayBe(x) || x.Hop >= most || node < 1 || node > nodes || aru < 0 {
		return api.Token{}
	}
	y := with(x, func(y *api.Token) { y.Hop, y.Ask = x.Hop+1, asked(x, gaps) })
	if aru < x.Aru || x.Low == node || x.Low == 0 {
		y.Aru, y.Low = aru, node
		if aru >= x.Seq {
			y.Aru, y.Low = x.Seq, 0
		}
	}
	return y
}

// asked answers by the words of P16.2 what is asked for.
func asked(x api.Token, gaps []int) []int {
	all := map[int]bool{}
	for _, v := range x.Ask {
		all[v] = true
	}
	for _, v := range gaps {
		if v >= 1 && v <= x.Seq {
			all[v] = true
		}
	}
	l := slices.Sorted(maps.Keys(all))
	return l[:min(len(l), asks)]
}

func checks(t testing.TB, x api.Token, want api.Errno) {
	t.Helper()
	if e := token.Check(x); e != want {
		t.Errorf("Check(%+v): %d, want %d", x, e, want)
	}
}

// leaves asks how the node leaves the token.
func leaves(t testing.TB, want, x api.Token, node, aru int, gaps ...int) {
	t.Helper()
	if y := token.Visit(x, node, aru, gaps); !same(y, want) {
		t.Errorf("Visit(%+v, %d, %d, %v): %+v, want %+v", x, node, aru, gaps, y, want)
	}
}

// refuses asks for the zero token.
func refuses(t testing.TB, x api.Token, node, aru int, gaps ...int) {
	t.Helper()
	leaves(t, api.Token{}, x, node, aru, gaps...)
}

// asksFor asks for what the token asks behind a visit with these gaps.
func asksFor(t testing.TB, want []int, x api.Token, gaps ...int) {
	t.Helper()
	for _, aru := range []int{0, x.Aru, x.Seq, greatest} { // what a node has does not matter here
		if y := token.Visit(x, 2, aru, gaps); !slices.Equal(y.Ask, want) || y.Hop != x.Hop+1 {
			t.Errorf("Visit(%+v, 2, %d, %v): %+v, want %v", x, aru, gaps, y, want)
		}
	}
}

// answers asks what the token asks for, when have is there, and that all else stays.
func answers(t testing.TB, want []int, x api.Token, have ...int) {
	t.Helper()
	if y := token.Answer(x, have); !same(y, asking(x, want...)) {
		t.Errorf("Answer(%+v, %v): %+v, want %v", x, have, y, want)
	}
}

// counts asks how often x was idle one behind the other, and that all else stays.
func counts(t testing.TB, want int, x api.Token, quiet bool) {
	t.Helper()
	if y := token.Idle(x, quiet); !same(y, with(x, func(y *api.Token) { y.Idle = want })) {
		t.Errorf("Idle(%+v, %v): %+v, want %d", x, quiet, y, want)
	}
}

// wrongNumbers are none that go over the wire.
func wrongNumbers() []int {
	return []int{-1, -2, -most, -most - 1, least, most + 1, most + 2, 1 << 62, greatest}
}

func wrongNodes() []int {
	return []int{0, -1, -8, least, 9, 10, 16, 1 << 32, 1<<32 + 1, most, greatest}
}

// wrongRings may not be, or are none.
func wrongRings() []api.RingId {
	l := []api.RingId{{}, {Seq: most}, {Rep: 1}, {Rep: 8}, {Rep: 9}, {Rep: -1}}
	for _, n := range wrongNodes() {
		l = append(l, api.RingId{Seq: 1, Rep: n}, api.RingId{Seq: most, Rep: n})
	}
	for _, n := range wrongNumbers() {
		l = append(l, api.RingId{Seq: n}, api.RingId{Seq: n, Rep: 1}, api.RingId{Seq: n, Rep: 8}, api.RingId{Seq: n, Rep: 9})
	}
	return l
}

func goodRings() []api.RingId {
	return []api.RingId{{Seq: 1, Rep: 1}, {Seq: 1, Rep: 8}, {Seq: 4, Rep: 1}, {Seq: most - 1, Rep: 5}, {Seq: most, Rep: 1}, {Seq: most, Rep: 8}}
}

// wrongFields answers tokens one field of which is wrong.
func wrongFields() []api.Token {
	l := []api.Token{
		with(usual(), func(x *api.Token) { x.Hop = 0 }),
		with(usual(), func(x *api.Token) { x.Aru = x.Seq + 1 }),
		with(usual(), func(x *api.Token) { x.Aru = most }),
		with(usual(), func(x *api.Token) { x.Seq, x.Aru = 0, 1 }),
		with(usual(), func(x *api.Token) { x.Seq = x.Aru - 1 }),
		with(usual(), func(x *api.Token) { x.Seq, x.Aru = most+1, most+1 }),
		with(usual(), func(x *api.Token) { x.Seq, x.Aru = -1, -1 }),
	}
	for _, r := range wrongRings() {
		l = append(l, with(usual(), func(x *api.Token) { x.Ring = r }))
	}
	for _, n := range wrongNumbers() {
		l = append(l,
			with(usual(), func(x *api.Token) { x.Hop = n }),
			with(usual(), func(x *api.Token) { x.Seq = n }),
			with(usual(), func(x *api.Token) { x.Aru = n }),
			with(usual(), func(x *api.Token) { x.Stamp = n }),
			with(usual(), func(x *api.Token) { x.Idle = n }),
		)
	}
	for _, n := range wrongNodes() {
		if n != 0 {
			l = append(l, with(usual(), func(x *api.Token) { x.Low = n }))
		}
	}
	return l
}

// wrongAsks answers tokens that ask for what they may not.
func wrongAsks() []api.Token {
	first := with(usual(), func(x *api.Token) { x.Seq, x.Aru = 0, 0 })
	last := with(usual(), func(x *api.Token) { x.Seq = most })
	return []api.Token{
		asking(usual(), 0), asking(usual(), -1), asking(usual(), least), asking(usual(), 10), asking(usual(), most), asking(usual(), greatest),
		asking(usual(), 0, 1), asking(usual(), -3, 5), asking(usual(), 5, 10), asking(usual(), 9, 10),
		asking(usual(), 5, 5), asking(usual(), 9, 9), asking(usual(), 5, 4), asking(usual(), 9, 8), asking(usual(), 1, 3, 2), asking(usual(), 1, 3, 3), asking(usual(), 3, 4, 1),
		asking(first, 0), asking(first, 1), asking(last, most+1), asking(last, most, greatest), asking(last, most, most), asking(last, most, most-1),
		asking(wide(), row(1, 17)...), asking(wide(), row(84, 100)...), asking(wide(), row(1, 100)...), asking(wide(), row(86, 101)...), asking(wide(), row(0, 15)...),
		asking(wide(), append(row(1, 15), 15)...), asking(wide(), append(row(2, 16), 1)...),
	}
}

// wrongTokens may not be.
func wrongTokens() []api.Token {
	return slices.Concat([]api.Token{{}, {Ring: usual().Ring}, {Hop: 1}}, wrongFields(), wrongAsks())
}

// goodTokens are at the edges of what may be.
func goodTokens() []api.Token {
	first := with(usual(), func(x *api.Token) { x.Seq, x.Aru = 0, 0 })
	last := with(usual(), func(x *api.Token) { x.Seq, x.Aru = most, most })
	l := []api.Token{
		usual(), wide(), first, last,
		asking(usual(), 1), asking(usual(), 9), asking(usual(), 1, 9), asking(usual(), row(1, 9)...), asking(usual(), 5, 7, 9),
		asking(wide(), row(1, 16)...), asking(wide(), row(85, 100)...), asking(wide(), row(1, 15)...), asking(wide(), 1, 100),
		asking(last, 1, most), asking(last, row(most-15, most)...), asking(last, most-1, most),
		with(usual(), func(x *api.Token) { x.Seq, x.Aru, x.Ask = 1, 1, []int{1} }),
		{Ring: api.RingId{Seq: most, Rep: 8}, Hop: most, Seq: most, Aru: most, Low: 8, Stamp: most, Idle: most, Ask: row(most-15, most)},
		{Ring: api.RingId{Seq: 1, Rep: 1}, Hop: 1},
	}
	for _, n := range []int{1, 2, most - 1, most} {
		l = append(l, with(usual(), func(x *api.Token) { x.Hop = n }))
	}
	for _, n := range []int{0, 1, most - 1, most} {
		l = append(l, with(usual(), func(x *api.Token) { x.Stamp = n }), with(usual(), func(x *api.Token) { x.Idle = n }))
	}
	for _, aru := range []int{0, 1, 8, 9} {
		for low := range nodes + 1 { // Low and Aru hang together only behind a visit
			l = append(l, with(usual(), func(x *api.Token) { x.Aru, x.Low = aru, low }))
		}
	}
	for _, r := range goodRings() {
		l = append(l, with(usual(), func(x *api.Token) { x.Ring = r }))
	}
	return l
}

// some makes tokens, numbers and lists about the edges, most of which may be.
type some struct{ r *rand.Rand }

func (s some) pick(l ...int) int { return l[s.r.Intn(len(l))] }

// number answers one that may be, or, seldom, another one.
func (s some) number(may ...int) int {
	if s.r.Intn(60) == 0 {
		return s.pick(least, -1, 0, 9, most, most+1, greatest)
	}
	return s.pick(may...)
}

// list answers some numbers about those from 1 to last.
func (s some) list(last int) []int {
	var l []int
	for range s.r.Intn(24) {
		near := min(max(last, 0), 40)
		l = append(l, s.pick(s.r.Intn(near+3), s.r.Intn(near+3), last-s.r.Intn(near+1), s.pick(least, -1, 0, 1, last, most, greatest)))
	}
	return l
}

func (s some) token() api.Token {
	x := api.Token{Ring: api.RingId{Seq: s.number(1, 4, most), Rep: s.number(1, 3, 8)}, Hop: s.number(1, 2, 7, most-1, most)}
	x.Seq = s.number(0, 1, 2, 9, 15, 16, 17, 40, most-1, most)
	x.Aru = s.number(0, min(1, x.Seq), x.Seq/2, max(0, x.Seq-1), x.Seq)
	x.Low = s.number(0, 0, 1, 2, 3, 8)
	x.Stamp, x.Idle = s.number(0, 1, 20, most), s.number(0, 1, 4, most-1, most)
	x.Ask = s.list(x.Seq)
	if s.r.Intn(8) > 0 { // mostly in an order that may be
		x.Ask = asked(api.Token{Seq: x.Seq}, x.Ask)
	}
	return x
}

func TestExamples(t *testing.T) {
	x, e := token.New(api.RingId{Seq: 4, Rep: 1}, 20)
	x.Seq, x.Aru, x.Low = 9, 5, 3
	if e != api.OK || !same(x, usual()) {
		t.Fatal(x, e)
	}
	left := func(aru, low int, ask ...int) api.Token {
		return with(usual(), func(y *api.Token) { y.Hop, y.Aru, y.Low, y.Ask = 2, aru, low, ask })
	}
	leaves(t, left(5, 3), x, 2, 9)
	leaves(t, left(4, 2, 5, 7), x, 2, 4, 5, 7)
	leaves(t, left(9, 0), x, 3, 9)
	leaves(t, left(7, 3, 8), x, 3, 7, 8)
	answers(t, []int{5, 9}, asking(x, 5, 7, 9), 7, 8)
	counts(t, 1, x, true)
	counts(t, 0, with(x, func(x *api.Token) { x.Idle = 4 }), false)
	if a, b := token.Safe(3, 5, 4), token.Safe(6, 5, 4); a != 4 || b != 6 {
		t.Error(a, b)
	}
	refuses(t, x, 9, 1)
	if x, e := token.New(api.RingId{}, 1); e != 2 || !same(x, api.Token{}) {
		t.Error(x, e)
	}
}

func TestLimits(t *testing.T) {
	if api.MaxAsk != asks || api.MaxNodes != nodes || api.MaxNumber != most || api.ErrArg != 2 {
		t.Error(api.MaxAsk, api.MaxNodes, api.MaxNumber, api.ErrArg)
	}
}

// P16.1

func TestCheck(t *testing.T) {
	for _, x := range goodTokens() {
		checks(t, x, api.OK)
	}
	for _, x := range wrongTokens() {
		checks(t, x, api.ErrArg)
	}
	checks(t, asking(usual()), api.OK)
	checks(t, with(usual(), func(x *api.Token) { x.Ask = []int{} }), api.OK)
}

func TestCheckEachWrongFieldOfEachToken(t *testing.T) {
	for _, x := range goodTokens() {
		for _, n := range wrongNumbers() {
			for _, p := range []*int{&x.Ring.Seq, &x.Ring.Rep, &x.Hop, &x.Seq, &x.Aru, &x.Low, &x.Stamp, &x.Idle} {
				was := *p
				*p = n
				checks(t, x, api.ErrArg)
				*p = was
			}
		}
		for i := range x.Ask {
			for _, n := range []int{least, -1, 0, x.Seq + 1, greatest} {
				checks(t, with(x, func(x *api.Token) { x.Ask[i] = n }), api.ErrArg)
			}
		}
		checks(t, x, api.OK)
	}
}

// A token may be, as chapter 6 says of one.
func TestCheckAsPacketsDo(t *testing.T) {
	s := some{rand.New(rand.NewSource(161))}
	l := slices.Concat(goodTokens(), wrongTokens())
	for range 20000 {
		l = append(l, s.token())
	}
	well := 0
	for _, x := range l {
		want := api.ErrArg
		if mayBe(x) {
			want = api.OK
			well++
		}
		checks(t, x, want)
		if e := packet.Check(api.Packet{Kind: api.PacketToken, To: 1, Token: x}); e != want {
			t.Fatalf("of %+v packet says %d", x, e)
		}
	}
	if well < len(l)/4 || well > len(l)*9/10 {
		t.Errorf("of %d tokens %d may be", len(l), well)
	}
}

func TestNew(t *testing.T) {
	for _, r := range goodRings() {
		for _, stamp := range []int{0, 1, 20, 1 << 32, most - 1, most} {
			x, e := token.New(r, stamp)
			if e != api.OK || !same(x, api.Token{Ring: r, Hop: 1, Stamp: stamp}) {
				t.Errorf("New(%v, %d): %+v, %d", r, stamp, x, e)
			}
			checks(t, x, api.OK)
		}
	}
}

func TestNewRefuses(t *testing.T) {
	none := func(r api.RingId, stamp int) {
		t.Helper()
		if x, e := token.New(r, stamp); e != api.ErrArg || !same(x, api.Token{}) {
			t.Errorf("New(%v, %d): %+v, %d", r, stamp, x, e)
		}
	}
	for _, r := range wrongRings() {
		for _, stamp := range append(wrongNumbers(), 0, 1, 20, most) {
			none(r, stamp)
		}
	}
	for _, r := range goodRings() {
		for _, stamp := range wrongNumbers() {
			none(r, stamp)
		}
	}
}

// P16.2

func TestVisitCountsHops(t *testing.T) {
	for _, hop := range []int{1, 2, 7, 1 << 32, most - 2, most - 1} {
		x := with(usual(), func(x *api.Token) { x.Hop = hop })
		leaves(t, with(x, func(x *api.Token) { x.Hop = hop + 1 }), x, 2, 9)
	}
	refuses(t, with(usual(), func(x *api.Token) { x.Hop = most }), 2, 9)
}

func TestVisitLeavesAllElseAsItIs(t *testing.T) {
	for _, x := range goodTokens() {
		if x.Hop == most {
			continue
		}
		for _, aru := range []int{0, x.Aru, x.Seq, greatest} {
			y := token.Visit(x, 4, aru, []int{1, x.Seq})
			if y.Ring != x.Ring || y.Seq != x.Seq || y.Stamp != x.Stamp || y.Idle != x.Idle || y.Hop != x.Hop+1 {
				t.Errorf("Visit(%+v, 4, %d): %+v", x, aru, y)
			}
			checks(t, y, api.OK)
		}
	}
}

func TestVisitAruAndLow(t *testing.T) {
	for _, c := range []struct{ seq, aru, low, node, has, wantAru, wantLow int }{
		{9, 5, 3, 2, 5, 5, 3}, {9, 5, 3, 2, 6, 5, 3}, {9, 5, 3, 2, 9, 5, 3}, {9, 5, 3, 2, 10, 5, 3}, {9, 5, 3, 2, greatest, 5, 3}, // another one holds it down
		{9, 5, 3, 2, 4, 4, 2}, {9, 5, 3, 2, 0, 0, 2}, {9, 5, 3, 8, 1, 1, 8}, {9, 9, 3, 2, 8, 8, 2}, // less is there
		{9, 5, 3, 3, 5, 5, 3}, {9, 5, 3, 3, 6, 6, 3}, {9, 5, 3, 3, 8, 8, 3}, {9, 5, 3, 3, 4, 4, 3}, {9, 5, 3, 3, 0, 0, 3}, // the node itself
		{9, 5, 3, 3, 9, 9, 0}, {9, 5, 3, 3, 10, 9, 0}, {9, 5, 3, 3, greatest, 9, 0}, {9, 9, 3, 3, 9, 9, 0}, {9, 9, 3, 3, 8, 8, 3},
		{9, 5, 0, 3, 5, 5, 3}, {9, 5, 0, 3, 4, 4, 3}, {9, 5, 0, 3, 8, 8, 3}, {9, 5, 0, 3, 9, 9, 0}, {9, 5, 0, 3, 11, 9, 0}, {9, 9, 0, 3, 9, 9, 0}, {9, 9, 0, 3, 8, 8, 3}, // nobody
		{9, 9, 3, 2, 9, 9, 3}, {9, 9, 3, 2, 12, 9, 3}, // that stays, though Aru is Seq
		{0, 0, 0, 1, 0, 0, 0}, {0, 0, 0, 1, 7, 0, 0}, {0, 0, 5, 1, 0, 0, 5}, {0, 0, 5, 5, 0, 0, 0}, {0, 0, 5, 5, 3, 0, 0},
		{1, 0, 0, 8, 0, 0, 8}, {1, 0, 0, 8, 1, 1, 0}, {1, 1, 0, 8, 0, 0, 8},
		{most, most - 1, 4, 4, most - 1, most - 1, 4}, {most, most - 1, 4, 4, most, most, 0}, {most, most - 1, 4, 4, most + 1, most, 0}, {most, most, 0, 4, most - 1, most - 1, 4}, {most, 0, 4, 5, most, 0, 4},
	} {
		x := with(usual(), func(x *api.Token) { x.Seq, x.Aru, x.Low = c.seq, c.aru, c.low })
		leaves(t, with(x, func(x *api.Token) { x.Hop, x.Aru, x.Low = 2, c.wantAru, c.wantLow }), x, c.node, c.has)
	}
}

func TestVisitOfAllSmallNumbers(t *testing.T) {
	for seq := range 5 {
		for aru := range seq + 1 {
			for low := range nodes + 1 {
				x := with(usual(), func(x *api.Token) { x.Seq, x.Aru, x.Low = seq, aru, low })
				for node := -1; node <= nodes+1; node++ {
					for has := -1; has <= seq+2; has++ {
						leaves(t, visited(x, node, has, nil), x, node, has)
						leaves(t, visited(x, node, has, []int{seq}), x, node, has, seq)
					}
				}
			}
		}
	}
}

// A node raises nothing but what it holds down itself, and is never behind what it leaves.
func TestVisitIsNeverAboveWhatIsThere(t *testing.T) {
	s := some{rand.New(rand.NewSource(162))}
	for range 20000 {
		x := s.token()
		if !mayBe(x) {
			continue
		}
		node, aru := 1+s.r.Intn(nodes), s.pick(0, 1, 5, 9, 16, most, greatest)
		if y := token.Visit(x, node, aru, nil); y.Aru > aru || y.Aru > x.Aru && x.Low != node && x.Low != 0 || y.Low == 0 && y.Aru != y.Seq {
			t.Fatalf("Visit(%+v, %d, %d): %+v", x, node, aru, y)
		}
	}
}

func TestVisitAsks(t *testing.T) {
	x := usual()
	asksFor(t, nil, x)
	asksFor(t, []int{8}, x, 8)
	asksFor(t, []int{5, 7}, x, 5, 7)
	asksFor(t, []int{5, 7}, x, 7, 5)
	asksFor(t, []int{5}, x, 5, 5, 5)
	asksFor(t, []int{2, 5, 7}, x, 7, 5, 7, 2, 5, 2)
	asksFor(t, []int{1, 9}, x, 0, 1, 9, 10)
	asksFor(t, []int{1, 9}, x, 10, 9, 1, 0)
	asksFor(t, nil, x, 0, 10)
	asksFor(t, []int{9}, x, least, -1, 9, most, most+1, greatest)
	asksFor(t, row(1, 9), x, row(-20, 20)...)
}

func TestVisitAsksForWhatItAskedForStill(t *testing.T) {
	x := asking(usual(), 3, 6)
	asksFor(t, []int{3, 6}, x)
	asksFor(t, []int{3, 6}, x, 3)
	asksFor(t, []int{3, 6}, x, 6, 3, 6)
	asksFor(t, []int{1, 3, 6}, x, 1)
	asksFor(t, []int{3, 4, 6}, x, 4)
	asksFor(t, []int{3, 6, 9}, x, 9)
	asksFor(t, []int{1, 2, 3, 4, 6, 9}, x, 9, 6, 4, 2, 3, 1)
	asksFor(t, []int{3, 6}, x, 0, 10, -1)
}

func TestVisitAsksForTheLeast(t *testing.T) {
	x := wide()
	for count := range 40 {
		want := row(11, min(10+count, 26))
		asksFor(t, want, x, row(11, 10+count)...)
		down := row(11, 10+count)
		slices.Reverse(down)
		asksFor(t, want, x, down...)
		for split := range count + 1 { // asked for already, and lacking, overlapping by 2
			if split <= asks {
				asksFor(t, want, asking(x, row(11, 10+split)...), row(max(11, 9+split), 10+count)...)
			}
		}
	}
	asksFor(t, row(1, 16), x, row(1, 100)...)
	asksFor(t, row(85, 100), x, row(85, 130)...)
}

func TestVisitDropsTheGreatest(t *testing.T) {
	x := asking(wide(), row(50, 65)...)
	asksFor(t, row(50, 65), x)
	asksFor(t, row(50, 65), x, 66)
	asksFor(t, row(50, 65), x, 100, 66)
	asksFor(t, row(49, 64), x, 49)
	asksFor(t, row(50, 65), x, row(50, 66)...)
	asksFor(t, append([]int{1}, row(50, 64)...), x, 1, 1, 99)
	asksFor(t, append([]int{1, 2}, row(50, 63)...), x, 2, 65, 1)
	asksFor(t, row(1, 16), x, row(1, 16)...)
	asksFor(t, row(1, 16), x, row(1, 49)...)
	asksFor(t, append(row(20, 34), 50), x, row(20, 34)...)
	y := asking(wide(), row(50, 64)...)
	asksFor(t, row(50, 65), y, 65, 66)
	asksFor(t, row(50, 65), y, 66, 65)
	asksFor(t, append(row(50, 64), 66), y, 66)
}

func TestVisitAsksAtTheEnd(t *testing.T) {
	last := with(usual(), func(x *api.Token) { x.Seq = most })
	asksFor(t, []int{1, most - 1, most}, last, most+1, most, most-1, 1, 0, greatest, least)
	asksFor(t, row(most-15, most), last, row(most-15, most+3)...)
	first := with(usual(), func(x *api.Token) { x.Seq, x.Aru = 0, 0 })
	asksFor(t, nil, first, 0, 1, -1, 2, greatest)
	one := with(usual(), func(x *api.Token) { x.Seq, x.Aru = 1, 0 })
	asksFor(t, []int{1}, one, 2, 1, 0, 1)
}

func TestVisitTakesGapsInAnyOrder(t *testing.T) {
	s := some{rand.New(rand.NewSource(163))}
	for range 2000 {
		x := asking(wide(), asked(wide(), s.list(100))...)
		gaps := s.list(100)
		want := asked(x, gaps)
		for range 3 {
			s.r.Shuffle(len(gaps), func(i, k int) { gaps[i], gaps[k] = gaps[k], gaps[i] })
			asksFor(t, want, x, gaps...)
		}
	}
}

func TestVisitOfVeryManyGaps(t *testing.T) {
	x := with(usual(), func(x *api.Token) { x.Seq = most })
	gaps := row(1, 1<<20)
	slices.Reverse(gaps)
	asksFor(t, row(1, 16), x, gaps...)
	asksFor(t, []int{7}, x, slices.Repeat([]int{7, 0}, 1<<19)...)
}

func TestVisitRefuses(t *testing.T) {
	for _, x := range wrongTokens() {
		for node := range nodes + 2 {
			refuses(t, x, node, 0)
			refuses(t, x, node, 9, 1, 5)
		}
	}
	for _, x := range goodTokens() {
		for _, n := range wrongNodes() {
			refuses(t, x, n, 0)
			refuses(t, x, n, 9, 5)
		}
		for _, aru := range []int{-1, -2, -9, -most, -1 << 62, least} {
			refuses(t, x, 3, aru)
			refuses(t, x, 1, aru, 5)
		}
		refuses(t, with(x, func(x *api.Token) { x.Hop = most }), 3, 9, 5)
	}
}

func TestVisitByEachNode(t *testing.T) {
	for node := 1; node <= nodes; node++ {
		leaves(t, with(usual(), func(x *api.Token) { x.Hop, x.Aru, x.Low = 2, 4, node }), usual(), node, 4)
	}
}

func TestVisitByWords(t *testing.T) {
	s := some{rand.New(rand.NewSource(164))}
	went := 0
	for range 50000 {
		x := s.token()
		node, aru, gaps := s.number(row(1, nodes)...), s.number(0, 1, x.Aru-1, x.Aru, x.Aru+1, x.Seq-1, x.Seq, x.Seq+1), s.list(x.Seq)
		want := visited(x, node, aru, gaps)
		leaves(t, want, x, node, aru, gaps...)
		if want.Hop > 0 {
			went++
		}
	}
	if went < 10000 {
		t.Errorf("%d tokens went on", went)
	}
}

// P16.3

func TestAnswer(t *testing.T) {
	x := asking(usual(), 5, 7, 9)
	answers(t, []int{5, 7, 9}, x)
	answers(t, []int{5, 7, 9}, x, 1, 4, 6, 8, 10)
	answers(t, []int{5, 7, 9}, x, least, -5, 0, most, greatest)
	answers(t, []int{7, 9}, x, 5)
	answers(t, []int{5, 9}, x, 7)
	answers(t, []int{5, 7}, x, 9)
	answers(t, []int{7}, x, 9, 5)
	answers(t, []int{7}, x, 5, 9, 5, 5)
	answers(t, nil, x, 5, 7, 9)
	answers(t, nil, x, 9, 7, 5)
	answers(t, nil, x, row(0, 20)...)
	answers(t, nil, usual())
	answers(t, nil, usual(), 1, 5)
	full := asking(wide(), row(21, 36)...)
	answers(t, row(21, 36), full)
	answers(t, nil, full, row(1, 100)...)
	answers(t, row(22, 36), full, row(1, 21)...)
	answers(t, row(21, 35), full, row(36, 100)...)
}

func TestAnswerOfEachSet(t *testing.T) {
	ask := []int{1, 2, 4, 8, 9}
	for gone := range 1 << len(ask) {
		var have, stay []int
		for i, v := range ask {
			if gone>>i&1 == 1 {
				have = append(have, v)
			} else {
				stay = append(stay, v)
			}
		}
		answers(t, stay, asking(usual(), ask...), have...)
		slices.Reverse(have)
		answers(t, stay, asking(usual(), ask...), append(append([]int{3, 10, -1}, have...), 7, 0)...)
	}
}

// What may not be is answered, too: the numbers stay in their order, and twice where they were.
func TestAnswerOfAnyToken(t *testing.T) {
	answers(t, nil, api.Token{})
	answers(t, nil, api.Token{}, 0, 1)
	answers(t, []int{9, 3, 9, 1}, asking(usual(), 9, 3, 9, 1), 2)
	answers(t, []int{9, 9, 1}, asking(usual(), 9, 3, 9, 3, 1), 3)
	answers(t, []int{3, 1}, asking(usual(), 9, 3, 9, 1), 9)
	answers(t, []int{greatest, -1}, asking(usual(), greatest, least, 0, -1), 0, least)
	answers(t, append(row(1, 9), row(11, 100)...), asking(wide(), row(1, 100)...), 10)
	for _, x := range slices.Concat(wrongTokens(), goodTokens()) {
		answers(t, x.Ask, x)
		answers(t, nil, x, x.Ask...)
		if len(x.Ask) > 0 {
			answers(t, slices.DeleteFunc(slices.Clone(x.Ask), func(v int) bool { return v == x.Ask[0] }), x, x.Ask[0])
		}
	}
}

func TestAnswerByWords(t *testing.T) {
	s := some{rand.New(rand.NewSource(165))}
	for range 20000 {
		x, have := s.token(), []int(nil)
		for _, v := range append(s.list(x.Seq), x.Ask...) {
			if s.r.Intn(2) == 0 {
				have = append(have, v)
			}
		}
		s.r.Shuffle(len(have), func(i, k int) { have[i], have[k] = have[k], have[i] })
		var want []int
		for _, v := range x.Ask {
			if !slices.Contains(have, v) {
				want = append(want, v)
			}
		}
		answers(t, want, x, have...)
	}
}

func TestAnswerOfLongLists(t *testing.T) {
	const count = 1 << 18
	even, odd := make([]int, count), make([]int, count)
	for i := range count {
		even[i], odd[i] = 2*i, 2*(count-i)+1
	}
	answers(t, even, asking(usual(), even...), odd...)
	answers(t, nil, asking(usual(), even...), even...)
	answers(t, odd[:count/2], asking(usual(), odd...), odd[count/2:]...)
}

func TestIdle(t *testing.T) {
	for _, n := range []int{0, 1, 2, 4, 7, 8, 1 << 32, most - 2, most - 1} {
		counts(t, n+1, with(usual(), func(x *api.Token) { x.Idle = n }), true)
		counts(t, 0, with(usual(), func(x *api.Token) { x.Idle = n }), false)
	}
	counts(t, most, with(usual(), func(x *api.Token) { x.Idle = most }), true)
	counts(t, 0, with(usual(), func(x *api.Token) { x.Idle = most }), false)
}

func TestIdleOfAnyToken(t *testing.T) {
	for _, n := range []int{most + 1, most + 2, 1 << 62, greatest - 1, greatest} {
		counts(t, most, with(usual(), func(x *api.Token) { x.Idle = n }), true)
	}
	for _, n := range []int{-1, -2, -most, least + 1, least} {
		counts(t, n+1, with(usual(), func(x *api.Token) { x.Idle = n }), true)
	}
	for _, n := range wrongNumbers() {
		counts(t, 0, with(usual(), func(x *api.Token) { x.Idle = n }), false)
	}
	counts(t, 1, api.Token{}, true)
	counts(t, 0, api.Token{}, false)
	counts(t, 1, asking(usual(), 9, 3, 9, 1, -4), true)
	for _, x := range slices.Concat(wrongFields(), wrongAsks(), goodTokens()) {
		counts(t, 0, x, false)
		x.Idle = 6
		counts(t, 7, x, true)
	}
}

func TestIdleOneBehindTheOther(t *testing.T) {
	x := asking(usual(), 5)
	for n := range 20 {
		if x.Idle != n {
			t.Fatal(x.Idle, n)
		}
		x = token.Idle(x, true)
	}
	if x = token.Idle(token.Idle(x, false), true); !same(x, with(asking(usual(), 5), func(x *api.Token) { x.Idle = 1 })) {
		t.Error(x)
	}
}

// P16.4

func TestSafe(t *testing.T) {
	for _, c := range []struct{ safe, left, came, want int }{
		{3, 5, 4, 4}, {3, 4, 5, 4}, {6, 5, 4, 6}, {4, 5, 4, 4}, {5, 5, 4, 5}, {3, 3, 3, 3}, {0, 0, 0, 0},
		{0, -1, 9, 0}, {0, -1, 0, 0}, {0, 9, 0, 0}, {2, 0, 9, 2}, {2, 9, 0, 2}, {0, 9, 9, 9},
		{-5, -1, 9, -1}, {least, -1, -2, -2}, {0, most, most, most}, {most, 0, 0, most},
		{least, greatest, least, least}, {least, greatest, greatest, greatest}, {greatest, least, least, greatest}, {0, greatest, least, 0}, {0, greatest, most, most},
	} {
		if n := token.Safe(c.safe, c.left, c.came); n != c.want {
			t.Errorf("Safe(%d, %d, %d): %d, want %d", c.safe, c.left, c.came, n, c.want)
		}
	}
}

func TestSafeOfAllEdges(t *testing.T) {
	all := []int{least, least + 1, -most, -2, -1, 0, 1, 2, 3, 9, most - 1, most, most + 1, greatest - 1, greatest}
	for _, safe := range all {
		for _, left := range all {
			for _, came := range all {
				lesser := left
				if came < left {
					lesser = came
				}
				want := safe
				if lesser > safe {
					want = lesser
				}
				if n := token.Safe(safe, left, came); n != want {
					t.Errorf("Safe(%d, %d, %d): %d, want %d", safe, left, came, n, want)
				}
			}
		}
	}
}

// P16.5

// room answers l with spare room behind it, in which something stands.
func room(l []int) []int {
	const spare = 40
	with := make([]int, len(l)+spare)
	copy(with, l)
	for i := range spare {
		with[len(l)+i] = -1000 - i
	}
	return with[:len(l)]
}

// whole answers all that stands in l, and in its spare room.
func whole(l []int) []int { return slices.Clone(l[:cap(l)]) }

// spoil writes over l and its spare room.
func spoil(l []int) {
	l = l[:cap(l)]
	for i := range l {
		l[i] ^= -1
	}
}

// calls are all that take a token and answer one.
func calls() map[string]func(x api.Token, l []int) api.Token {
	return map[string]func(x api.Token, l []int) api.Token{
		"Visit":  func(x api.Token, l []int) api.Token { return token.Visit(x, 2, 4, l) },
		"Answer": token.Answer,
		"quiet":  func(x api.Token, l []int) api.Token { return token.Idle(x, true) },
		"busy":   func(x api.Token, l []int) api.Token { return token.Idle(x, false) },
	}
}

// lists are some that are handed in.
func lists() [][]int {
	return [][]int{nil, {}, {5}, {7, 5}, {9, 7, 5, 3, 1}, {0, 10}, {5, 5, 7, 7}, row(1, 16), row(15, 40), {60, 59, 2, 1}}
}

func TestWhatIsHandedInIsOnlyRead(t *testing.T) {
	for name, call := range calls() {
		for _, ask := range [][]int{nil, {}, {5}, {5, 7, 9}, row(5, 20), {9, 3, 9}, row(1, 40)} {
			for _, l := range lists() {
				x, l := asking(wide(), room(ask)...), room(l)
				wasAsk, wasList, wasAll := whole(x.Ask), whole(l), x
				y := call(x, l)
				spoil(y.Ask)
				if !slices.Equal(whole(x.Ask), wasAsk) || !slices.Equal(whole(l), wasList) || !same(x, wasAll) {
					t.Errorf("%s of %v, %v has changed what was handed in: %v, %v", name, wasAsk, wasList, whole(x.Ask), whole(l))
				}
			}
		}
	}
}

func TestWhatIsAnsweredIsNewMemory(t *testing.T) {
	for name, call := range calls() {
		for _, ask := range [][]int{nil, {}, {5}, {5, 7, 9}, row(5, 20), {9, 3, 9}, row(1, 40)} {
			for _, l := range lists() {
				x, l := asking(wide(), room(ask)...), room(l)
				y, z := call(x, l), call(x, l)
				want := with(y, func(*api.Token) {})
				spoil(z.Ask)
				spoil(x.Ask)
				spoil(l)
				if !same(y, want) {
					t.Errorf("%s of %v, %v: %+v, it was %+v", name, ask, l, y, want)
				}
			}
		}
	}
}

// An answer that is gone on with is not written over by another one that goes on with it.
func TestAnswersBranch(t *testing.T) {
	x := asking(wide(), 5, 7)
	a, b := token.Visit(x, 2, 4, []int{9}), token.Visit(x, 2, 4, []int{11})
	c, d := append(a.Ask, 50), append(a.Ask, 60)
	left, right := token.Answer(a, []int{5}), token.Answer(a, []int{7})
	for i, want := range [][]int{{5, 7, 9}, {5, 7, 11}, {5, 7, 9, 50}, {5, 7, 9, 60}, {7, 9}, {5, 9}} {
		if got := [][]int{a.Ask, b.Ask, c, d, left.Ask, right.Ask}[i]; !slices.Equal(got, want) {
			t.Errorf("%d: %v, want %v", i, got, want)
		}
	}
}

// A list without elements may be nil or not.
func TestNoneIsAsGoodAsEmpty(t *testing.T) {
	for name, call := range calls() {
		x, y := call(asking(usual()), nil), call(with(usual(), func(x *api.Token) { x.Ask = []int{} }), []int{})
		if !same(x, y) || len(x.Ask) > 0 {
			t.Errorf("%s: %+v, %+v", name, x, y)
		}
	}
}

// R2

func TestAnswersHangOnArgumentsAlone(t *testing.T) {
	s := some{rand.New(rand.NewSource(166))}
	for range 2000 {
		x := s.token()
		l := s.list(x.Seq)
		for name, call := range calls() {
			first := call(x, l)
			token.Visit(wide(), 1, 0, row(1, 50))
			token.Answer(asking(wide(), row(1, 16)...), []int{3})
			token.Idle(x, true)
			if again := call(x, room(l)); !same(first, again) {
				t.Fatalf("%s of %+v, %v: %+v, then %+v", name, x, l, first, again)
			}
		}
	}
}

func FuzzAnyTokens(f *testing.F) {
	f.Add(4, 1, 1, 9, 5, 3, 20, 0, []byte{5, 7, 9}, 2, 4, []byte{7, 5, 8})
	f.Add(4, 1, most-1, 9, 5, 0, most, most, []byte{}, 8, greatest, []byte{0, 1, 9, 10})
	f.Add(0, 0, 0, 0, 0, 0, 0, greatest, []byte{3, 3}, 9, -1, []byte{3})
	f.Fuzz(func(t *testing.T, ringSeq, rep, hop, seq, aru, low, stamp, idle int, ask []byte, node, has int, list []byte) {
		x := api.Token{Ring: api.RingId{Seq: ringSeq, Rep: rep}, Hop: hop, Seq: seq, Aru: aru, Low: low, Stamp: stamp, Idle: idle, Ask: numbers(ask)}
		l := numbers(list)
		if (token.Check(x) == api.OK) != mayBe(x) {
			t.Errorf("Check(%+v): %d", x, token.Check(x))
		}
		leaves(t, visited(x, node, has, l), x, node, has, l...)
		answers(t, slices.DeleteFunc(slices.Clone(x.Ask), func(v int) bool { return slices.Contains(l, v) }), x, l...)
		counts(t, 0, x, false)
		if idle < most {
			counts(t, idle+1, x, true)
		} else {
			counts(t, most, x, true)
		}
	})
}

// numbers answers bytes as numbers, some of them below 0.
func numbers(b []byte) []int {
	var l []int
	for _, v := range b {
		l = append(l, int(v)-2)
	}
	return l
}
