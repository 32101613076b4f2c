package regain_test

import (
	"fmt"
	"math/rand"
	"reflect"
	"slices"
	"testing"

	"hauberk/api"
	"hauberk/parcel"
	"hauberk/regain"
	"hauberk/window"
)

// P20.4

// node is one that has come from a configuration into the next one.
type node struct {
	w    *window.Window
	r    *regain.Regain // nil: it has not begun
	box  []api.Message  // what has reached it, and was not taken yet
	hand []api.Data     // what it had at first
}

// others sends m to all nodes but one.
func others(l []*node, from int, m api.Message) {
	for i, n := range l {
		if i != from {
			n.box = append(n.box, m)
		}
	}
}

// takeOne takes the message at a place of its box.
func (n *node) takeOne(t testing.TB, at int) {
	t.Helper()
	m := n.box[at]
	n.box = slices.Delete(n.box, at, at+1)
	_, there := n.w.Get(m.From.Seq)
	takes(t, n.w, home, m, !there, api.OK)
}

// union answers all that one of the nodes has had, by numbers.
func union(l []*node) []api.Data {
	var all []api.Data
	for _, n := range l {
		for _, d := range n.hand {
			if !slices.ContainsFunc(all, func(x api.Data) bool { return x.Seq == d.Seq }) {
				all = append(all, d)
			}
		}
	}
	slices.SortFunc(all, func(a, b api.Data) int { return a.Seq - b.Seq })
	return all
}

// reach answers up to where all are there, and the greatest number.
func reach(l []api.Data) (aru, high int) {
	for _, d := range l {
		if d.Seq == aru+1 {
			aru++
		}
		high = d.Seq
	}
	return aru, high
}

// areAlike asks that each has all that one of them has had, and nothing else.
func areAlike(t testing.TB, l []*node) {
	t.Helper()
	all := union(l)
	aru, high := reach(all)
	for _, n := range l {
		has(t, n.w, aru, high, all...)
	}
}

// among answers a node that has all up to low, and of the next numbers those whose bit is set.
func among(t testing.TB, low, bits int) *node {
	t.Helper()
	var l []api.Data
	for _, seq := range row(1, low) {
		l = append(l, data(seq))
	}
	for i := 0; bits>>i != 0; i++ {
		if bits>>i&1 != 0 {
			l = append(l, data(low+1+i))
		}
	}
	return &node{w: filledBy(t, l...), hand: l}
}

func TestEveryThreeWindows(t *testing.T) { // of each of the sets of three numbers, in several orders
	r := rand.New(rand.NewSource(20))
	shuffle := func(l []api.Message) { r.Shuffle(len(l), func(i, k int) { l[i], l[k] = l[k], l[i] }) }
	ways := []func(l []api.Message){func([]api.Message) {}, slices.Reverse[[]api.Message], shuffle, shuffle, shuffle}
	for sets := range 1 << 9 {
		for low := range 3 {
			for _, way := range ways {
				l := []*node{among(t, low, sets&7), among(t, low, sets>>3&7), among(t, low, sets>>6)}
				for i, n := range l {
					n.r = begins(t, n.w, low)
					for n.r.Left() > 0 {
						m, e := n.r.Next()
						if e != api.OK {
							t.Fatal(e)
						}
						others(l, i, m)
					}
				}
				for _, n := range l {
					way(n.box)
					for len(n.box) > 0 {
						n.takeOne(t, 0)
					}
				}
				areAlike(t, l)
			}
		}
	}
}

// turn lets the node do one thing: begin, send, or take something.
func turn(t testing.TB, r *rand.Rand, l []*node, i, low int) {
	t.Helper()
	n := l[i]
	switch {
	case n.r == nil:
		if r.Intn(3) == 0 { // it sends what it has taken by then, too
			n.r = begins(t, n.w, low)
		}
	case n.r.Left() > 0 && r.Intn(2) == 0:
		m, e := n.r.Next()
		if e != api.OK {
			t.Fatal(e)
		}
		others(l, i, m)
		if r.Intn(4) == 0 { // it comes twice
			others(l, i, m)
		}
	}
	if len(n.box) > 0 && r.Intn(3) > 0 {
		n.takeOne(t, r.Intn(len(n.box)))
	}
}

// isDone tells whether all have sent and taken all.
func isDone(l []*node) bool {
	return !slices.ContainsFunc(l, func(n *node) bool { return n.r == nil || n.r.Left() > 0 || len(n.box) > 0 })
}

func TestManyWindows(t *testing.T) {
	r := rand.New(rand.NewSource(204))
	for range 150 {
		low, spread := r.Intn(20), r.Intn(24)
		var l []*node
		for range 1 + r.Intn(8) {
			n := among(t, low, r.Intn(1<<spread))
			if r.Intn(2) == 0 { // it has more in a row
				n = among(t, low, 1<<r.Intn(spread+1)-1)
			}
			l = append(l, n)
		}
		for !isDone(l) {
			turn(t, r, l, r.Intn(len(l)), low)
		}
		areAlike(t, l)
	}
}

func TestLowMayBeBelow(t *testing.T) { // what all have is sent again, and changes nothing
	for low := -1; low <= 4; low++ {
		a, b := among(t, 4, 5), among(t, 4, 2)
		for _, x := range [][2]*node{{a, b}, {b, a}} {
			for r := begins(t, x[0].w, low); r.Left() > 0; {
				m, _ := r.Next()
				_, e := regain.Take(x[1].w, home, m)
				if e != api.OK {
					t.Fatal(e)
				}
			}
		}
		areAlike(t, []*node{a, b})
	}
}

func TestRefusedStayWhereTheyAre(t *testing.T) { // and the rest comes together
	for i := range refused(3) {
		bad := []api.Data{refused(3)[i], refused(6)[i]}
		a := filledBy(t, data(1), bad[0], data(4), bad[1])
		b := filledBy(t, data(1), bad[0], data(5), data(7))
		for _, x := range [][2]*window.Window{{a, b}, {b, a}} {
			for r := begins(t, x[0], 1); r.Left() > 0; {
				m, e := r.Next()
				if _, f := regain.Take(x[1], home, m); e != api.OK || f != api.OK {
					t.Fatal(e, f)
				}
			}
		}
		has(t, a, 1, 7, data(1), bad[0], data(4), data(5), bad[1], data(7))
		has(t, b, 1, 7, data(1), bad[0], data(4), data(5), data(7))
	}
}

func TestOtherConfigurationsDoNotMix(t *testing.T) { // what is sent of several ones at once
	r := rand.New(rand.NewSource(42))
	rings := []api.RingId{home, {Seq: 7, Rep: 2}, {Seq: 8, Rep: 3}}
	for range 50 {
		var sent []api.Message
		var want [3][]api.Data
		for i, ring := range rings {
			for seq := 1; seq <= 20; seq++ {
				if r.Intn(2) == 0 {
					want[i] = append(want[i], with(other(seq, i), func(d *api.Data) { d.Ring = ring }))
				}
			}
			for x := begins(t, filledBy(t, want[i]...), 0); x.Left() > 0; {
				m, _ := x.Next()
				sent = append(sent, m)
			}
		}
		for i, ring := range rings {
			w := window.New()
			for _, at := range r.Perm(len(sent)) {
				takes(t, w, ring, sent[at], sent[at].From.Ring == ring, api.OK)
			}
			aru, high := reach(want[i])
			has(t, w, aru, high, want[i]...)
		}
	}
}

func TestManyData(t *testing.T) { // what was sent does not make what comes slow
	const last = 20000
	one, two := window.New(), window.New()
	for seq := 1; seq <= last; seq++ {
		one.Put(data(seq))
	}
	r := begins(t, one, 0)
	for seq := 1; seq <= last; seq++ {
		m, e := r.Next()
		if e != api.OK || m.From.Seq != seq || r.Left() != last-seq {
			t.Fatal(seq, m, e, r.Left())
		}
		takes(t, two, home, m, true, api.OK)
	}
	if two.Aru() != last || two.High() != last {
		t.Error(two.Aru(), two.High())
	}
}

// The chapter's words, once more: what is there, and what is left, are lists.

type both struct {
	w    *window.Window
	list []api.Data
	seen int
	r    *regain.Regain
	left []api.Message
}

func newBoth() *both { return &both{w: window.New()} }

func (b *both) has(seq int) bool {
	return slices.ContainsFunc(b.list, func(d api.Data) bool { return d.Seq == seq })
}

// add has d in the list, and answers whether it is new there.
func (b *both) add(d api.Data) bool {
	if b.has(d.Seq) {
		return false
	}
	b.list = append(b.list, d)
	slices.SortFunc(b.list, func(x, y api.Data) int { return x.Seq - y.Seq })
	b.seen = max(b.seen, d.Seq)
	return true
}

func (b *both) put(d api.Data) string {
	want := b.add(d)
	if fresh, e := b.w.Put(d); fresh != want || e != api.OK {
		return fmt.Sprintf("Put(%d): %v, %d, want %v", d.Seq, fresh, e, want)
	}
	return b.holds()
}

func (b *both) begin(low int) string {
	b.left = nil
	for _, d := range b.list {
		if _, e := parcel.Old(d); e == api.OK && d.Seq > low {
			b.left = append(b.left, again(d))
		}
	}
	r, e := regain.New(b.w, low)
	if r == nil || e != api.OK {
		return fmt.Sprintf("New(%d): %v, %d", low, r, e)
	}
	b.r = r
	return b.holds()
}

func (b *both) next() string {
	var want api.Message
	wantE := api.OK
	switch {
	case b.r == nil:
		wantE = api.ErrNil
	case len(b.left) == 0:
		wantE = api.ErrEmpty
	default:
		want, b.left = b.left[0], b.left[1:]
	}
	if m, e := b.r.Next(); !sameMessage(m, want) || e != wantE {
		return fmt.Sprintf("Next: %+v, %d, want %+v, %d", m, e, want, wantE)
	}
	return b.holds()
}

func (b *both) take(old api.RingId, m api.Message) string {
	want, wantE := false, api.OK
	switch {
	case parcel.Check(m) != api.OK || m.Kind != kindOld:
		wantE = api.ErrArg
	case m.From.Ring == old:
		d, _ := parcel.Inner(m)
		want = b.add(d)
	}
	if fresh, e := regain.Take(b.w, old, m); fresh != want || e != wantE {
		return fmt.Sprintf("Take(%v, %+v): %v, %d, want %v, %d", old, m, fresh, e, want, wantE)
	}
	return b.holds()
}

func (b *both) holds() string {
	if got := b.w.Above(least); !slices.EqualFunc(got, b.list, same) {
		return fmt.Sprintf("%+v, want %+v", got, b.list)
	}
	if aru, _ := reach(b.list); b.w.Aru() != aru || b.w.High() != b.seen {
		return fmt.Sprintf("Aru %d, High %d, want %d, %d", b.w.Aru(), b.w.High(), aru, b.seen)
	}
	if n := b.r.Left(); n != len(b.left) {
		return fmt.Sprintf("Left: %d, want %d", n, len(b.left))
	}
	return ""
}

func TestEveryShortRow(t *testing.T) {
	far := with(data(3), func(d *api.Data) { d.Ring.Seq = 9 })
	turns := []func(b *both) string{
		(*both).next,
		func(b *both) string { return b.begin(0) },
		func(b *both) string { return b.begin(1) },
		func(b *both) string { return b.put(data(1)) },
		func(b *both) string { return b.put(refused(2)[0]) },
		func(b *both) string { return b.put(data(3)) },
		func(b *both) string { return b.take(home, again(data(2))) },
		func(b *both) string { return b.take(home, again(other(3, 2))) },
		func(b *both) string { return b.take(home, again(far)) },
		func(b *both) string { return b.take(home, message(1)) },
	}
	const length = 5
	rows := 1
	for range length {
		rows *= len(turns)
	}
	for row := range rows {
		b := newBoth()
		for i, left := 0, row; i < length; i, left = i+1, left/len(turns) {
			if bad := turns[left%len(turns)](b); bad != "" {
				t.Fatalf("row %d, turn %d: %s", row, i, bad)
			}
		}
	}
}

var badOnes = badOlds() // made once, since many calls ask for one of them

// call does what two bytes say, and tells what is wrong.
func (b *both) call(what, at byte) string {
	seq := 1 + int(at%32)
	switch what % 8 {
	case 0:
		return b.begin(anyNumbers()[int(at)%len(anyNumbers())])
	case 1:
		return b.begin(seq)
	case 2:
		bad := refused(seq)
		return b.put(bad[int(what/8)%len(bad)])
	case 3:
		return b.put(other(seq, int(what/8)))
	case 4:
		return b.take(home, again(other(seq, int(what/8))))
	case 5:
		return b.take(api.RingId{Seq: 6 + int(what/8)%3, Rep: 3}, again(data(seq)))
	case 6:
		return b.take(home, badOnes[(int(what/8)*256+int(at))%len(badOnes)])
	}
	return b.next()
}

func TestLongRows(t *testing.T) {
	r := rand.New(rand.NewSource(2020))
	for row := range 60 {
		b := newBoth()
		for i := range 150 {
			if bad := b.call(byte(r.Intn(256)), byte(r.Intn(256))); bad != "" {
				t.Fatalf("row %d, turn %d: %s", row, i, bad)
			}
		}
	}
}

func TestWhatIsRefusedChangesNothing(t *testing.T) { // of two that are alike one is handed what is refused, or of another configuration
	r := rand.New(rand.NewSource(202))
	bad := slices.Concat(badOnes, noOlds())
	for range 20 {
		a, b := newBoth(), newBoth()
		for range 60 {
			for range 5 {
				takes(t, b.w, home, bad[r.Intn(len(bad))], false, api.ErrArg)
				takes(t, b.w, api.RingId{Seq: 9, Rep: 1}, again(data(1+r.Intn(32))), false, api.OK)
			}
			what, at := byte(r.Intn(256)), byte(r.Intn(256))
			if say := a.call(what, at); say != "" {
				t.Fatal(say)
			}
			if say := b.call(what, at); say != "" {
				t.Fatal(say)
			}
		}
		if !slices.EqualFunc(a.w.Above(least), b.w.Above(least), same) || a.r.Left() != b.r.Left() {
			t.Fatal("they are not alike any more")
		}
	}
}

func FuzzCalls(f *testing.F) {
	f.Add([]byte{3, 1, 11, 2, 2, 3, 3, 4, 1, 0, 7, 0, 7, 0, 7, 0})
	f.Add([]byte{4, 2, 4, 2, 5, 2, 13, 2, 6, 9, 0, 8, 7, 0, 7, 0})
	f.Add([]byte{7, 7, 255, 255, 130, 40, 66, 80, 190, 3, 0, 0, 7, 1})
	f.Fuzz(func(t *testing.T, calls []byte) {
		b := newBoth()
		for i := 0; i+1 < len(calls); i += 2 {
			if bad := b.call(calls[i], calls[i+1]); bad != "" {
				t.Fatalf("call %d: %s", i/2, bad)
			}
		}
	})
}

func FuzzTake(f *testing.F) {
	f.Add(kindOld, 2, 0, 2, 0, 0, 0, false, 77, 4, 1, 9, written(message(4)))
	f.Add(kindOld, 8, 0, 1, 0, 0, 0, false, 0, 1, 8, most, written(message(2)))
	f.Add(kindOld, 9, 1, 0, 1, 1, 1, true, -1, 0, 0, 0, []byte{5})
	f.Fuzz(func(t *testing.T, kind, origin, life, id, part, parts, groups int, safe bool, stamp, ring, rep, seq int, body []byte) {
		m := api.Message{Kind: kind, Origin: origin, Life: life, Id: id, Part: part, Parts: parts, Groups: groups, Safe: safe, From: key(stamp, ring, rep, seq), Body: body}
		for _, old := range []api.RingId{m.From.Ring, home, {}} {
			b := newBoth()
			for range 2 {
				if bad := b.take(old, m); bad != "" {
					t.Fatal(bad)
				}
			}
			if bad := b.begin(0); bad != "" {
				t.Fatal(bad)
			}
			if len(b.left) > 0 && !reflect.DeepEqual(b.left[0].From, m.From) {
				t.Fatalf("%+v, want %+v", b.left[0].From, m.From)
			}
			if bad := b.next(); bad != "" {
				t.Fatal(bad)
			}
		}
	})
}
