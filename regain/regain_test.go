package regain_test

import (
	"bytes"
	"encoding/binary"
	"math"
	"reflect"
	"runtime"
	"slices"
	"testing"
	"weak"

	"hauberk/api"
	"hauberk/regain"
	"hauberk/window"
)

// The numbers of the document, written out, so that the package is not held against itself.
const (
	most     = 1<<53 - 1
	kindOld  = 5
	longest  = 160 // bytes of a message's body
	least    = math.MinInt
	greatest = math.MaxInt
)

var home = api.RingId{Seq: 7, Rep: 3} // the configuration of the data below

func key(stamp, seq, rep, last int) api.Key {
	return api.Key{Stamp: stamp, Ring: api.RingId{Seq: seq, Rep: rep}, Seq: last}
}

// filled answers so many bytes; salt makes them others.
func filled(size, salt int) []byte {
	b := make([]byte, size)
	for i := range b {
		b[i] = byte(i*7 + salt*31)
	}
	return b
}

// written answers the bytes of a message by the words of chapter 5 and the library.
func written(m api.Message) []byte {
	safe := 0
	if m.Safe {
		safe = 1
	}
	var b []byte
	for _, v := range []int{m.Kind, m.Origin, m.Life, m.Id, m.Part, m.Parts, m.Groups, safe, m.From.Stamp, m.From.Ring.Seq, m.From.Ring.Rep, m.From.Seq, len(m.Body)} {
		b = binary.AppendUvarint(b, uint64(v))
	}
	return append(b, m.Body...)
}

// message answers one that may be, and is no MsgOld; its kind and all that it has hang on salt.
func message(salt int) api.Message {
	id := (salt%1000 + 1000) % 1000
	m := api.Message{Kind: 1 + id%4, Origin: 1 + id%8}
	if id%3 == 0 {
		m.From = key(id, 9, 2, id+1)
	}
	switch m.Kind {
	case 1:
		m.Life, m.Id, m.Part, m.Parts, m.Groups, m.Safe, m.Body = 1+id, id, id%2, 2, 1+id%255, id%8 == 0, filled(id%49, id)
	case 3:
		m.From = api.Key{}
	case 4:
		m.Body = []byte{1, byte(id % 4), 3, 2, 6}
	}
	return m
}

// data answers data of that number that can be sent again, other ones for each number.
func data(seq int) api.Data { return other(seq, 0) }

// other answers data of that number; salt makes them others.
func other(seq, salt int) api.Data {
	id := (seq%1000+1000)%1000 + salt
	return api.Data{Ring: home, Seq: seq, Sender: 1 + id%8, Stamp: 50 + id, Message: message(id)}
}

// with answers d as change leaves it.
func with(d api.Data, change func(d *api.Data)) api.Data {
	d.Message.Body = bytes.Clone(d.Message.Body)
	change(&d)
	return d
}

// again answers the message by which d is sent again, by the words of chapter 5.
func again(d api.Data) api.Message {
	return api.Message{Kind: kindOld, Origin: d.Sender, Id: d.Sender, From: api.Key{Stamp: d.Stamp, Ring: d.Ring, Seq: d.Seq}, Body: written(d.Message)}
}

// changed answers m as change leaves it.
func changed(m api.Message, change func(m *api.Message)) api.Message {
	m.Body = bytes.Clone(m.Body)
	change(&m)
	return m
}

func several(seqs ...int) []api.Data {
	var l []api.Data
	for _, seq := range seqs {
		l = append(l, data(seq))
	}
	return l
}

// row answers the numbers from one to another one.
func row(from, to int) []int {
	var l []int
	for seq := from; seq <= to; seq++ {
		l = append(l, seq)
	}
	return l
}

// same holds data against each other; a body without bytes may be nil or not.
func same(a, b api.Data) bool {
	return a.Ring == b.Ring && a.Seq == b.Seq && a.Sender == b.Sender && a.Stamp == b.Stamp && sameMessage(a.Message, b.Message)
}

func sameMessage(a, b api.Message) bool {
	if !bytes.Equal(a.Body, b.Body) {
		return false
	}
	a.Body, b.Body = nil, nil
	return reflect.DeepEqual(a, b)
}

// filledBy answers a window into which these came, in this order.
func filledBy(t testing.TB, l ...api.Data) *window.Window {
	t.Helper()
	w := window.New()
	for _, d := range l {
		if fresh, e := w.Put(d); !fresh || e != api.OK {
			t.Fatalf("Put(%+v): %v, %d, want true", d, fresh, e)
		}
	}
	return w
}

// has asks that this is all that a window has, up to where all are there, and what the greatest number is.
func has(t testing.TB, w *window.Window, aru, high int, want ...api.Data) {
	t.Helper()
	if got := w.Above(least); !slices.EqualFunc(got, want, same) {
		t.Fatalf("the window has %+v, want %+v", got, want)
	}
	if w.Aru() != aru || w.High() != high {
		t.Fatalf("Aru %d, High %d, want %d, %d", w.Aru(), w.High(), aru, high)
	}
}

func begins(t testing.TB, w *window.Window, low int) *regain.Regain {
	t.Helper()
	r, e := regain.New(w, low)
	if r == nil || e != api.OK {
		t.Fatalf("New(%d): %v, %d", low, r, e)
	}
	return r
}

// sends asks that these data come next.
func sends(t testing.TB, r *regain.Regain, want ...api.Data) {
	t.Helper()
	for i, d := range want {
		before := r.Left()
		m, e := r.Next()
		if e != api.OK || !sameMessage(m, again(d)) {
			t.Fatalf("Next, %d: %+v, %d, want %+v", i, m, e, again(d))
		}
		if after := r.Left(); after != before-1 {
			t.Fatalf("Next, %d: Left %d, behind %d", i, after, before)
		}
	}
}

// isEmpty asks that nothing is left, however often it is asked.
func isEmpty(t testing.TB, r *regain.Regain) {
	t.Helper()
	for range 3 {
		if n := r.Left(); n != 0 {
			t.Fatalf("Left: %d", n)
		}
		if m, e := r.Next(); !reflect.DeepEqual(m, api.Message{}) || e != api.ErrEmpty {
			t.Fatalf("Next: %+v, %d, want %d", m, e, api.ErrEmpty)
		}
	}
}

// sendsAll asks that these data, and no others, are left.
func sendsAll(t testing.TB, r *regain.Regain, want ...api.Data) {
	t.Helper()
	if n := r.Left(); n != len(want) {
		t.Fatalf("Left: %d, want %d", n, len(want))
	}
	sends(t, r, want...)
	isEmpty(t, r)
}

func takes(t testing.TB, w *window.Window, old api.RingId, m api.Message, fresh bool, want api.Errno) {
	t.Helper()
	if got, e := regain.Take(w, old, m); got != fresh || e != want {
		t.Fatalf("Take(%v, %+v): %v, %d, want %v, %d", old, m, got, e, fresh, want)
	}
}

// noWindows are windows that are none.
func noWindows() []*window.Window {
	var none window.Window
	return []*window.Window{nil, {}, new(window.Window), &none}
}

// noRegains are none that New has made.
func noRegains() []*regain.Regain {
	var none regain.Regain
	return []*regain.Regain{nil, {}, new(regain.Regain), &none}
}

// anyNumbers are some that low may be.
func anyNumbers() []int {
	return []int{least, least + 1, -1 << 62, -most - 1, -most, -17, -2, -1, 0, 1, 2, 3, 4, 5, 6, 9, 1 << 32, 1<<32 + 2, most - 1, most, most + 1, 1 << 62, greatest - 1, greatest}
}

// without are numbers that cannot be on the wire.
func without() []int { return []int{-1, -2, least, most + 1, greatest} }

// refused answers data of that number that a window takes, and that can't be sent again.
func refused(seq int) []api.Data {
	text := with(other(seq, 4), func(d *api.Data) {
		d.Message = api.Message{Kind: 1, Origin: 3, Life: 9, Id: 2, Parts: 1, Groups: 130, Body: []byte{0x41}}
	})
	var l []api.Data
	change := func(f func(d *api.Data)) { l = append(l, with(text, f)) }
	change(func(d *api.Data) { d.Ring = api.RingId{} })
	for _, v := range append(without(), 0, 9) {
		change(func(d *api.Data) { d.Sender = v })
		change(func(d *api.Data) { d.Message.Origin = v })
	}
	for _, v := range without() {
		change(func(d *api.Data) { d.Stamp = v })
		change(func(d *api.Data) { d.Message.Id = v })
		change(func(d *api.Data) { d.Message.From.Stamp = v })
	}
	change(func(d *api.Data) { d.Message = api.Message{} })
	change(func(d *api.Data) { d.Message.Kind = 6 })
	change(func(d *api.Data) { d.Message.Parts = 6 })
	change(func(d *api.Data) { d.Message.Groups = 256 })
	change(func(d *api.Data) { d.Message.From.Ring.Rep = 1 })
	for _, size := range []int{49, longest, longest + 1, 1000} {
		change(func(d *api.Data) { d.Message.Body = filled(size, 1) })
	}
	for _, inner := range []int{0, 1, 2, 3} { // sent again already
		change(func(d *api.Data) { d.Message = again(other(5, inner)) })
	}
	return l
}

// The chapter's examples

func TestExamples(t *testing.T) {
	old, newer := api.RingId{Seq: 2, Rep: 1}, api.RingId{Seq: 3, Rep: 1}
	of := func(seq int) api.Data { return with(data(seq), func(d *api.Data) { d.Ring = old }) }
	w := filledBy(t, of(1), of(2), of(4))
	r := begins(t, w, 1)
	if n := r.Left(); n != 2 {
		t.Fatal(n)
	}
	first, e := r.Next()
	if e != api.OK || first.From.Seq != 2 || !sameMessage(first, again(of(2))) {
		t.Fatal(first, e)
	}
	sendsAll(t, r, of(4))

	v := window.New()
	takes(t, v, old, first, true, api.OK)
	takes(t, v, old, first, false, api.OK)
	takes(t, v, newer, first, false, api.OK)
	takes(t, v, old, api.Message{Kind: 2, Origin: 1}, false, api.ErrArg)
	has(t, v, 0, 2, of(2))
}

func TestNumbersOfErrors(t *testing.T) {
	_, a := regain.New(nil, 0)
	_, b := regain.Take(nil, home, again(data(1)))
	_, c := noRegains()[0].Next()
	_, d := regain.Take(window.New(), home, api.Message{})
	_, e := begins(t, window.New(), 0).Next()
	if a != 1 || b != 1 || c != 1 || d != 2 || e != 8 {
		t.Error(a, b, c, d, e)
	}
}

// P20.1

func TestNewOfNoWindow(t *testing.T) {
	for _, w := range noWindows() {
		for _, low := range anyNumbers() {
			if r, e := regain.New(w, low); r != nil || e != api.ErrNil {
				t.Errorf("New(%d): %v, %d, want %d", low, r, e, api.ErrNil)
			}
		}
	}
}

func TestNextAndLeftOfNone(t *testing.T) {
	for _, r := range noRegains() {
		for range 2 {
			if m, e := r.Next(); !reflect.DeepEqual(m, api.Message{}) || e != api.ErrNil {
				t.Errorf("Next: %+v, %d, want %d", m, e, api.ErrNil)
			}
			if n := r.Left(); n != 0 {
				t.Errorf("Left: %d", n)
			}
		}
	}
}

func TestNewOfWindowWithoutData(t *testing.T) {
	seen := window.New()
	if e := seen.See(9); e != api.OK { // what was but seen can't be sent
		t.Fatal(e)
	}
	for _, w := range []*window.Window{window.New(), seen} {
		for _, low := range anyNumbers() {
			isEmpty(t, begins(t, w, low))
		}
	}
}

func TestLow(t *testing.T) {
	for _, have := range [][]int{{1}, {7}, {1, 2, 3}, {9, 4, 1, 6}, {most, 1}, {most, most - 1, 1 << 32, 3}, {5, 2, 4}, row(1, 40), row(17, 60)} {
		w := filledBy(t, several(have...)...)
		lows := anyNumbers()
		for _, seq := range have {
			lows = append(lows, seq-1, seq, seq+1)
		}
		for _, low := range lows {
			var want []int
			for _, seq := range have {
				if seq > low {
					want = append(want, seq)
				}
			}
			slices.Sort(want)
			sendsAll(t, begins(t, w, low), several(want...)...)
		}
	}
}

func TestSeenIsNotSent(t *testing.T) { // above the greatest number that is there
	w := filledBy(t, several(2, 5)...)
	if e := w.See(20); e != api.OK {
		t.Fatal(e)
	}
	sendsAll(t, begins(t, w, 1), several(2, 5)...)
	sendsAll(t, begins(t, w, 4), several(5)...)
	for _, low := range []int{5, 6, 19, 20, 21} {
		isEmpty(t, begins(t, w, low))
	}
}

func TestManyOrders(t *testing.T) { // whatever order the map of a window has
	seqs := row(1, 200)
	slices.Reverse(seqs)
	w := filledBy(t, several(seqs...)...)
	slices.Sort(seqs)
	for range 20 {
		sendsAll(t, begins(t, w, 0), several(seqs...)...)
	}
}

func TestEachKind(t *testing.T) {
	places := []byte{4, 0, 1, 1, 2, 1, 1, 8, 4, 2, 3, 4, 16, 3, 5, 5, 6}
	for i, m := range []api.Message{
		{Kind: 1, Origin: 1, Life: 1, Parts: 1, Groups: 1},
		{Kind: 1, Origin: 8, Life: most, Id: most, Part: 4, Parts: 5, Groups: 255, Safe: true, From: key(most, most, 8, most), Body: filled(48, 1)},
		{Kind: 1, Origin: 2, Life: 1, Id: 3, Part: 1, Parts: 3, Groups: 7, Body: filled(20, 2)},
		{Kind: 2, Origin: 1},
		{Kind: 2, Origin: 8, From: key(most, most, 8, most)},
		{Kind: 3, Origin: 5},
		{Kind: 4, Origin: 4, Body: []byte{0}},
		{Kind: 4, Origin: 8, From: key(5, 2, 1, 7), Body: places},
	} {
		for _, d := range []api.Data{
			{Ring: home, Seq: 1 + i, Sender: 1, Message: m},
			{Ring: api.RingId{Seq: 1, Rep: 1}, Seq: 1, Sender: 8, Stamp: 1, Message: m},
			{Ring: api.RingId{Seq: most, Rep: 8}, Seq: most, Sender: 8, Stamp: most, Message: m},
		} {
			sendsAll(t, begins(t, filledBy(t, d), 0), d)
			v := window.New()
			takes(t, v, d.Ring, again(d), true, api.OK)
			if got, ok := v.Get(d.Seq); !ok || !same(got, d) {
				t.Errorf("%+v, %v, want %+v", got, ok, d)
			}
		}
	}
}

func TestRefusedAreLeftOut(t *testing.T) {
	for i, bad := range refused(3) {
		w := filledBy(t, data(1), data(2), bad, data(4), data(6))
		sendsAll(t, begins(t, w, 0), several(1, 2, 4, 6)...) // in the middle
		sendsAll(t, begins(t, w, 2), several(4, 6)...)       // first
		sendsAll(t, begins(t, w, 3), several(4, 6)...)
		w = filledBy(t, data(1), data(2), bad) // last
		sendsAll(t, begins(t, w, 1), several(2)...)
		for low := 2; low < 5; low++ { // nothing else
			isEmpty(t, begins(t, w, low))
		}
		if t.Failed() {
			t.Fatalf("refused, %d: %+v", i, bad)
		}
	}
}

func TestManyRefusedAreLeftOut(t *testing.T) {
	var l, want []api.Data
	for i := range refused(1) {
		l = append(l, refused(3*i + 1)[i], refused(3*i + 2)[i], data(3*i+3))
		want = append(want, data(3*i+3))
	}
	sendsAll(t, begins(t, filledBy(t, l...), 0), want...)
	l = l[:0]
	for i := range refused(1) {
		l = append(l, refused(i + 1)[i])
	}
	w := filledBy(t, l...)
	for _, low := range anyNumbers() {
		isEmpty(t, begins(t, w, low))
	}
}

func TestDataOfSeveralRings(t *testing.T) { // a window does not ask that all are of one
	far := with(data(2), func(d *api.Data) { d.Ring = api.RingId{Seq: 8, Rep: 1} })
	sendsAll(t, begins(t, filledBy(t, data(1), far, data(3)), 0), data(1), far, data(3))
}

func TestLeftAllAlong(t *testing.T) {
	w := filledBy(t, several(row(1, 50)...)...)
	r := begins(t, w, 10)
	for left := 40; left > 0; left-- {
		for range 2 { // it changes nothing
			if n := r.Left(); n != left {
				t.Fatalf("Left: %d, want %d", n, left)
			}
		}
		sends(t, r, data(51-left))
	}
	isEmpty(t, r)
}

func TestWindowThatChangesBehindNew(t *testing.T) {
	w := filledBy(t, several(1, 3, 6)...)
	r := begins(t, w, 1)
	grow := func(seqs ...int) {
		for _, seq := range seqs {
			if fresh, e := w.Put(data(seq)); !fresh || e != api.OK {
				t.Fatal(seq, fresh, e)
			}
		}
	}
	grow(2, 9)
	takes(t, w, home, again(data(4)), true, api.OK)
	if e := w.See(30); e != api.OK || r.Left() != 2 {
		t.Fatal(e, r.Left())
	}
	sends(t, r, data(3))
	grow(5, 7)
	sendsAll(t, r, data(6))
	grow(8)
	isEmpty(t, r)
	sendsAll(t, begins(t, w, 1), several(row(2, 9)...)...)

	w = window.New()
	r = begins(t, w, 0)
	grow(1)
	isEmpty(t, r)
}

func TestSeveralOfOneWindow(t *testing.T) { // one has nothing to do with the other
	w := filledBy(t, several(1, 2, 3, 4)...)
	a, b, c := begins(t, w, 0), begins(t, w, 0), begins(t, w, 2)
	if a == b {
		t.Fatal("New answers the same twice")
	}
	sends(t, a, several(1, 2)...)
	sends(t, c, data(3))
	sends(t, b, data(1))
	sendsAll(t, a, several(3, 4)...)
	sendsAll(t, c, data(4))
	sendsAll(t, b, several(2, 3, 4)...)
}

func TestWindowStaysAsItIs(t *testing.T) {
	l := append(several(1, 2), refused(4)[0], data(7))
	w := filledBy(t, l...)
	if e := w.See(9); e != api.OK {
		t.Fatal(e)
	}
	for _, low := range anyNumbers() {
		r := begins(t, w, low)
		for range 5 {
			r.Next()
			r.Left()
		}
		has(t, w, 2, 9, l...)
	}
	w = window.New()
	begins(t, w, 0)
	has(t, w, 0, 0)
}

// P20.2

func TestTakeOfNoWindow(t *testing.T) { // that is looked for first
	for _, w := range noWindows() {
		for _, old := range []api.RingId{home, {}, {Seq: 7, Rep: 9}} {
			for _, m := range []api.Message{again(data(1)), message(1), {}, {Body: filled(161, 1)}} {
				takes(t, w, old, m, false, api.ErrNil)
			}
		}
	}
}

func TestTake(t *testing.T) {
	w := window.New()
	var had []api.Data
	for _, seq := range []int{3, 1, 9, 2, most, 1 << 32} {
		takes(t, w, home, again(data(seq)), true, api.OK)
		had = append(had, data(seq))
		slices.SortFunc(had, func(a, b api.Data) int { return a.Seq - b.Seq })
		for _, d := range had {
			takes(t, w, home, again(d), false, api.OK)
		}
		if got := w.Above(0); !slices.EqualFunc(got, had, same) {
			t.Fatalf("%+v, want %+v", got, had)
		}
	}
	has(t, w, 3, most, had...)
}

func TestTakeWhatIsThere(t *testing.T) { // it stays, though the other one is not the same
	w := filledBy(t, data(1), data(2))
	for seq := 1; seq <= 2; seq++ {
		takes(t, w, home, again(data(seq)), false, api.OK)
		takes(t, w, home, again(other(seq, 5)), false, api.OK)
	}
	takes(t, w, home, again(data(3)), true, api.OK)
	takes(t, w, home, again(other(3, 5)), false, api.OK)
	far := with(data(3), func(d *api.Data) { d.Ring.Seq++ })
	takes(t, w, far.Ring, again(far), false, api.OK)
	has(t, w, 3, 3, several(1, 2, 3)...)
}

func TestTakeFillsGaps(t *testing.T) {
	w := filledBy(t, several(1, 3, 6)...)
	for i, seq := range []int{2, 5, 4, 7} {
		takes(t, w, home, again(data(seq)), true, api.OK)
		if aru := []int{3, 3, 6, 7}[i]; w.Aru() != aru {
			t.Errorf("behind %d: Aru %d, want %d", seq, w.Aru(), aru)
		}
	}
	has(t, w, 7, 7, several(row(1, 7)...)...)
}

func TestTakeOfAnotherConfiguration(t *testing.T) {
	w := filledBy(t, data(1))
	for _, m := range []api.Message{again(data(1)), again(data(2)), again(data(most))} {
		for _, old := range []api.RingId{{Seq: 8, Rep: 3}, {Seq: 6, Rep: 3}, {Seq: 7, Rep: 2}, {Seq: 7, Rep: 4}, {Seq: 3, Rep: 7}, {}, {Seq: 7}, {Rep: 3}, {Seq: -7, Rep: 3}, {Seq: 7, Rep: 3 + 1<<32}, {Seq: most, Rep: 8}, {Seq: least, Rep: greatest}} {
			takes(t, w, old, m, false, api.OK)
		}
	}
	far := with(data(2), func(d *api.Data) { d.Ring = api.RingId{Seq: 6, Rep: 3} })
	takes(t, w, home, again(far), false, api.OK)
	has(t, w, 1, 1, data(1))
	takes(t, w, far.Ring, again(far), true, api.OK)
	has(t, w, 2, 2, data(1), far)
}

func TestTakeOfZeroRing(t *testing.T) { // such a message may not be
	m := changed(again(data(2)), func(m *api.Message) { m.From.Ring = api.RingId{} })
	w := window.New()
	takes(t, w, api.RingId{}, m, false, api.ErrArg)
	has(t, w, 0, 0)
}

func TestTakeTellsTheSender(t *testing.T) { // Id says it; the Origin may be another one
	for origin := 1; origin <= 8; origin++ {
		for sender := 1; sender <= 8; sender++ {
			d := with(data(4), func(d *api.Data) { d.Sender = sender })
			m := changed(again(d), func(m *api.Message) { m.Origin = origin })
			w := window.New()
			takes(t, w, home, m, true, api.OK)
			has(t, w, 0, 4, d)
		}
	}
}

// noOlds answers messages that may be, and are no MsgOld.
func noOlds() []api.Message {
	l := []api.Message{
		{Kind: 1, Origin: 1, Life: 1, Parts: 1, Groups: 1, From: key(57, 7, 3, 2)},
		{Kind: 2, Origin: 1, From: key(57, 7, 3, 2)},
		{Kind: 3, Origin: 1},
		{Kind: 4, Origin: 1, From: key(57, 7, 3, 2), Body: []byte{0}},
	}
	for salt := range 100 {
		l = append(l, message(salt))
	}
	return l
}

// badOlds answers messages like one that sends data again, that may not be.
func badOlds() []api.Message {
	var l []api.Message
	change := func(f func(m *api.Message)) {
		for _, seq := range []int{2, 4, 5, 6, 7} { // of each kind
			l = append(l, changed(again(data(seq)), f))
		}
	}
	for _, v := range append(without(), 0, 6, kindOld+256, kindOld+1<<32) {
		change(func(m *api.Message) { m.Kind = v })
	}
	for _, v := range append(without(), 0, 9) {
		change(func(m *api.Message) { m.Origin = v })
		change(func(m *api.Message) { m.Id = v })
		change(func(m *api.Message) { m.From.Ring.Rep = v })
		change(func(m *api.Message) { m.From.Ring.Rep, m.From.Ring.Seq = v, 0 })
	}
	for _, v := range without() {
		change(func(m *api.Message) { m.From.Seq = v })
		change(func(m *api.Message) { m.From.Stamp = v })
		change(func(m *api.Message) { m.From.Ring.Seq = v })
		change(func(m *api.Message) { m.Groups = v })
	}
	for _, v := range append(without(), 1, 2, most) {
		change(func(m *api.Message) { m.Life = v })
		change(func(m *api.Message) { m.Part = v })
		change(func(m *api.Message) { m.Parts = v })
	}
	change(func(m *api.Message) { m.From.Seq = 0 })
	change(func(m *api.Message) { m.From.Ring.Seq = 0 })
	change(func(m *api.Message) { m.From.Ring = api.RingId{} })
	change(func(m *api.Message) { m.From = api.Key{} })
	change(func(m *api.Message) { m.Groups = 1 })
	change(func(m *api.Message) { m.Groups = 256 })
	change(func(m *api.Message) { m.Safe = true })
	return append(l, badBodies()...)
}

// badBodies answers those whose body is of no message that may be, and be sent again.
func badBodies() []api.Message {
	whole := written(message(4))
	bodies := [][]byte{nil, {}, {0}, {1}, whole[:len(whole)-1], append(bytes.Clone(whole), 0), filled(longest, 3), filled(longest+1, 3), append(bytes.Clone(whole), filled(longest, 1)...), filled(1000, 5)}
	for salt := range 8 {
		inner := message(salt)
		for _, f := range []func(m *api.Message){
			func(m *api.Message) { m.Kind = 0 },
			func(m *api.Message) { m.Kind = 6 },
			func(m *api.Message) { m.Origin = 0 },
			func(m *api.Message) { m.Origin = 9 },
			func(m *api.Message) { m.Groups = 256 },
			func(m *api.Message) { m.From = key(1, 1, 9, 1) },
			func(m *api.Message) { m.Body = filled(60, 1) },
		} {
			bodies = append(bodies, written(changed(inner, f)))
		}
		bodies = append(bodies, written(again(data(salt+1)))) // one in another one
	}
	var l []api.Message
	for _, b := range bodies {
		l = append(l, changed(again(data(2)), func(m *api.Message) { m.Body = b }))
	}
	return l
}

func TestTakeRefuses(t *testing.T) {
	w := filledBy(t, data(1), data(3))
	if e := w.See(5); e != api.OK {
		t.Fatal(e)
	}
	for _, m := range slices.Concat(noOlds(), badOlds(), []api.Message{{}, {Kind: kindOld}}) {
		for _, old := range []api.RingId{home, m.From.Ring, {}, {Seq: 1, Rep: 1}, {Seq: 1, Rep: 9}} { // whatever configuration is taken
			takes(t, w, old, m, false, api.ErrArg)
		}
	}
	has(t, w, 1, 5, data(1), data(3))
}

func TestTakeOfLongBodies(t *testing.T) { // ErrArg, though parcel.Check answers ErrLimit
	for _, m := range append(noOlds(), again(data(2))) {
		for _, size := range []int{longest + 1, longest + 2, 500} {
			takes(t, window.New(), home, changed(m, func(m *api.Message) { m.Body = filled(size, 1) }), false, api.ErrArg)
		}
	}
}

// P20.3

// spoil writes over b and its spare room.
func spoil(b []byte) {
	b = b[:cap(b)]
	for i := range b {
		b[i] ^= 0xFF
	}
}

func TestWhatIsSentIsNewMemory(t *testing.T) {
	l := several(row(1, 30)...)
	w := filledBy(t, l...)
	a, b := begins(t, w, 0), begins(t, w, 0)
	for _, d := range l {
		m, e := a.Next()
		if e != api.OK || !sameMessage(m, again(d)) {
			t.Fatalf("%+v, %d, want %+v", m, e, again(d))
		}
		spoil(m.Body)
		_ = append(m.Body, 1, 2, 3)
		has(t, w, 30, 30, l...)
		sends(t, b, d)
	}
	isEmpty(t, a)
	sendsAll(t, begins(t, w, 0), l...)
}

func TestWhatWasSentStays(t *testing.T) { // whatever is called later on, and whatever becomes of the others
	body := filled(30, 5)
	w := window.New()
	for seq := 1; seq <= 6; seq++ {
		w.Put(with(data(seq), func(d *api.Data) {
			d.Message = api.Message{Kind: 1, Origin: 1, Life: 1, Parts: 1, Groups: 1, Body: body}
		}))
	}
	all := w.Above(0)
	var sent []api.Message
	for _, r := range []*regain.Regain{begins(t, w, 0), begins(t, w, 0)} {
		for r.Left() > 0 {
			m, _ := r.Next()
			sent = append(sent, m)
		}
		isEmpty(t, r)
	}
	if len(sent) != 12 {
		t.Fatal(len(sent))
	}
	for i, m := range sent {
		if !sameMessage(m, again(all[i%6])) {
			t.Errorf("%d has changed: %+v", i, m)
		}
		spoil(m.Body)
		_ = append(m.Body, 9, 9, 9)
	}
	if !bytes.Equal(body, filled(30, 5)) {
		t.Error("what a window was handed is answered")
	}
}

// roomy answers m whose body has spare room, and all of that room.
func roomy(m api.Message) (api.Message, []byte) {
	room := append(bytes.Clone(m.Body), filled(20, 9)...)
	m.Body = room[:len(m.Body)]
	return m, room
}

func TestTakeOnlyReads(t *testing.T) {
	w := filledBy(t, data(3))
	l := append(noOlds(), badOlds()...)
	for seq := 1; seq <= 20; seq++ {
		l = append(l, again(data(seq)), again(other(seq, 3)))
	}
	for _, m := range l {
		handed, room := roomy(m)
		before := bytes.Clone(room)
		regain.Take(w, home, handed)
		regain.Take(w, home, handed)
		if got, ok := w.Get(m.From.Seq); ok {
			spoil(got.Message.Body)
		}
		if !bytes.Equal(room, before) || !sameMessage(handed, m) {
			t.Fatalf("Take has written into %+v", m)
		}
	}
}

func TestTakePutsNewMemory(t *testing.T) {
	w := window.New()
	for seq := 1; seq <= 60; seq++ {
		m, room := roomy(again(data(seq)))
		takes(t, w, home, m, true, api.OK)
		spoil(room)
		if got, ok := w.Get(seq); !ok || !same(got, data(seq)) {
			t.Fatalf("%+v, want %+v", got, data(seq))
		}
	}
	has(t, w, 60, 60, several(row(1, 60)...)...)
}

func TestTwoWindowsShareNothing(t *testing.T) { // of one message
	m := again(data(8))
	a, b := window.New(), window.New()
	takes(t, a, home, m, true, api.OK)
	takes(t, b, home, m, true, api.OK)
	got, _ := a.Get(8)
	spoil(got.Message.Body)
	has(t, a, 0, 8, data(8))
	has(t, b, 0, 8, data(8))
	if !sameMessage(m, again(data(8))) {
		t.Error("the message has changed")
	}
}

func TestWindowIsNotKept(t *testing.T) {
	var r *regain.Regain
	begin := func() weak.Pointer[window.Window] {
		w := filledBy(t, several(8, 16)...)
		r = begins(t, w, 0)
		return weak.Make(w)
	}
	w := begin()
	runtime.GC()
	if w.Value() != nil {
		t.Error("the window is kept")
	}
	sendsAll(t, r, several(8, 16)...)
}

func TestWhatWasSentIsNotKept(t *testing.T) {
	r := begins(t, filledBy(t, several(8, 16, 24)...), 0)
	send := func() weak.Pointer[byte] {
		m, e := r.Next()
		if e != api.OK {
			t.Fatal(e)
		}
		return weak.Make(&m.Body[0])
	}
	first, second := send(), send()
	runtime.GC()
	if first.Value() != nil || second.Value() != nil {
		t.Error("what was sent is kept")
	}
	sendsAll(t, r, data(24))
}

func TestWhatIsTakenIsNotKept(t *testing.T) {
	w := filledBy(t, data(8))
	take := func(seq int, old api.RingId, fresh bool) weak.Pointer[byte] {
		m := again(data(seq))
		takes(t, w, old, m, fresh, api.OK)
		return weak.Make(&m.Body[0])
	}
	handed := []weak.Pointer[byte]{take(8, home, false), take(16, home, true), take(24, api.RingId{}, false)}
	runtime.GC()
	for i, p := range handed {
		if p.Value() != nil {
			t.Errorf("the body %d is kept", i)
		}
	}
	has(t, w, 0, 16, several(8, 16)...)
}
