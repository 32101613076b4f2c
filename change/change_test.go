package change_test

import (
	"bytes"
	"math"
	"runtime"
	"slices"
	"strings"
	"testing"
	"weak"

	"hauberk/api"
	"hauberk/change"
	"hauberk/window"
)

// The numbers of the document, written out, so that the package is not held against itself.
const (
	most      = 1<<53 - 1
	sentAgain = 5 // the kind of what is sent again
	ofConfig  = 1 // the kinds of events
	ofMessage = 2
	least     = math.MinInt
	greatest  = math.MaxInt
)

// Crews of the chapter's examples, as bits.
const (
	members     = 1<<1 | 1<<2 | 1<<3 // of the old configuration
	kin         = 1<<1 | 1<<2
	nextMembers = 1<<1 | 1<<2 | 1<<4
)

// row is data by their numbers, the first letter that of the number 1, a capital letter one that none of the kin has sent:
//
//	.  is not there
//	p  is plain
//	s  is Safe
//	o  was sent again
//	x  was sent again, and is Safe
type row string

func (r row) isThere(seq int) bool { return seq >= 1 && seq <= len(r) && r[seq-1] != '.' }

func (r row) is(seq int, letters string) bool {
	return r.isThere(seq) && strings.ContainsRune(letters, rune(r[seq-1]))
}

func (r row) isSafe(seq int) bool { return r.is(seq, "sSxX") }

func (r row) isOld(seq int) bool { return r.is(seq, "oOxX") }

func (r row) isKins(seq int) bool { return r.is(seq, "psox") }

// data answers those of that number, other ones for each number.
func (r row) data(seq int) api.Data {
	id := seq % 1000
	m := api.Message{Kind: 1 + id%4, Origin: 1 + id%8, Life: 1 + id, Id: id, Part: id % 2, Parts: 2, Groups: 1 + id%255, Safe: r.isSafe(seq), Body: filled(1+id%48, id)}
	if r.isOld(seq) {
		m.Kind = sentAgain
	}
	if id%3 == 0 {
		m.From = api.Key{Stamp: id, Ring: api.RingId{Seq: 9, Rep: 2}, Seq: id + 1}
	}
	sender := 3
	if r.isKins(seq) {
		sender = 1 + id%2
	}
	return api.Data{Ring: api.RingId{Seq: 2, Rep: 1}, Seq: seq, Sender: sender, Stamp: 50 + id, Message: m}
}

// filled answers so many bytes; salt makes them others.
func filled(size, salt int) []byte {
	b := make([]byte, size)
	for i := range b {
		b[i] = byte(i*7 + salt*31)
	}
	return b
}

// window answers a window with all of the row.
func (r row) window(t testing.TB) *window.Window {
	t.Helper()
	w := window.New()
	for seq := 1; seq <= len(r); seq++ {
		if r.isThere(seq) {
			puts(t, w, r.data(seq))
		}
	}
	return w
}

// first answers by the chapter's words what is told ahead of the transitional configuration, and up to where that goes.
func (r row) first(done, safe int) ([]int, int) {
	var ahead []int
	seq := done + 1
	for r.isThere(seq) && (!r.isSafe(seq) || seq <= safe) {
		if !r.isOld(seq) {
			ahead = append(ahead, seq)
		}
		seq++
	}
	return ahead, seq - 1
}

// then answers by the chapter's words what is told behind it.
func (r row) then(last int) []int {
	gap := last + 1
	for r.isThere(gap) {
		gap++
	}
	var behind []int
	for seq := 1; seq <= len(r); seq++ {
		if seq > last && r.isThere(seq) && !r.isOld(seq) && (seq < gap || r.isKins(seq)) {
			behind = append(behind, seq)
		}
	}
	return behind
}

// words answers both.
func (r row) words(done, safe int) (ahead, behind []int) {
	ahead, last := r.first(done, safe)
	return ahead, r.then(last)
}

// messages answers events of the data of these numbers.
func (r row) messages(seqs []int) []api.Event {
	var l []api.Event
	for _, seq := range seqs {
		l = append(l, api.Event{Kind: ofMessage, Data: r.data(seq)})
	}
	return l
}

// events answers all of a change: what is told ahead of the transitional configuration, and behind it.
func (r row) events(ahead, behind []int) []api.Event {
	return slices.Concat(r.messages(ahead), transitional(), r.messages(behind), regular())
}

func transitional() []api.Event {
	return []api.Event{{Kind: ofConfig, Config: api.Config{Ring: api.RingId{Seq: 5, Rep: 1}, Old: api.RingId{Seq: 2, Rep: 1}, Members: kin, Trans: true}}}
}

func regular() []api.Event {
	return []api.Event{{Kind: ofConfig, Config: api.Config{Ring: api.RingId{Seq: 5, Rep: 1}, Members: nextMembers, Stamp: 40}}}
}

// old answers the old configuration of the examples.
func old(done, safe int) change.Old {
	return change.Old{Config: api.Config{Ring: api.RingId{Seq: 2, Rep: 1}, Members: members}, Done: done, Safe: safe}
}

// next answers the next configuration of the examples.
func next() api.Config {
	return api.Config{Ring: api.RingId{Seq: 5, Rep: 1}, Members: nextMembers, Stamp: 40}
}

// puts asks that d is new in w.
func puts(t testing.TB, w *window.Window, d api.Data) {
	t.Helper()
	if fresh, e := w.Put(d); !fresh || e != api.OK {
		t.Fatalf("Put(%d): %v, %d, want true", d.Seq, fresh, e)
	}
}

// same holds data against each other; a body without bytes may be nil or not.
func same(a, b api.Data) bool {
	return a.Ring == b.Ring && a.Seq == b.Seq && a.Sender == b.Sender && a.Stamp == b.Stamp && sameMessage(a.Message, b.Message)
}

func sameMessage(a, b api.Message) bool {
	return bytes.Equal(a.Body, b.Body) && a.Kind == b.Kind && a.Origin == b.Origin && a.Life == b.Life && a.Id == b.Id &&
		a.Part == b.Part && a.Parts == b.Parts && a.Groups == b.Groups && a.Safe == b.Safe && a.From == b.From
}

func sameEvent(a, b api.Event) bool {
	return a.Kind == b.Kind && a.Config == b.Config && same(a.Data, b.Data)
}

// brief answers events as numbers: those of data, 0 for a transitional configuration, -1 for a regular one.
func brief(l []api.Event) []int {
	var seqs []int
	for _, x := range l {
		switch {
		case x.Kind == ofMessage:
			seqs = append(seqs, x.Data.Seq)
		case x.Config.Trans:
			seqs = append(seqs, 0)
		default:
			seqs = append(seqs, -1)
		}
	}
	return seqs
}

// at asks that this is told.
func at(t testing.TB, o change.Old, w *window.Window, kin int, next api.Config, want []api.Event) {
	t.Helper()
	got, e := change.At(o, w, kin, next)
	if e != api.OK || !slices.Equal(brief(got), brief(want)) {
		t.Fatalf("At(%+v, %d, %+v): %v, %d, want %v", o, kin, next, brief(got), e, brief(want))
	}
	if !slices.EqualFunc(got, want, sameEvent) {
		t.Fatalf("At(%+v, %d, %+v): %+v, want %+v", o, kin, next, got, want)
	}
}

// refuses asks that there is nothing but that error.
func refuses(t testing.TB, o change.Old, w *window.Window, kin int, next api.Config, want api.Errno) {
	t.Helper()
	if l, e := change.At(o, w, kin, next); len(l) != 0 || e != want {
		t.Fatalf("At(%+v, %d, %+v): %v, %d, want %d", o, kin, next, brief(l), e, want)
	}
}

// noWindows are windows that are none.
func noWindows() []*window.Window {
	var none window.Window
	return []*window.Window{nil, {}, new(window.Window), &none}
}

// anyNumbers are some that may be said to be safe, or to be delivered.
func anyNumbers() []int {
	return []int{least, least + 1, -1 << 62, -most - 1, -most, -17, -2, -1, 0, 1, 2, 3, 4, 5, 6, 7, 1 << 32, 1<<32 + 2, most - 1, most, most + 1, 1 << 62, greatest - 1, greatest}
}

// The chapter's examples

const example row = "psPs.pP"

func TestExamples(t *testing.T) {
	w := example.window(t)
	at(t, old(1, 2), w, kin, next(), example.events([]int{2, 3}, []int{4, 6}))
	at(t, old(7, 2), w, kin, next(), example.events(nil, nil))
	refuses(t, old(1, 2), w, 1<<4, next(), api.ErrArg)
	same := next()
	same.Ring = api.RingId{Seq: 2, Rep: 1}
	refuses(t, old(1, 2), w, kin, same, api.ErrArg)
	refuses(t, old(1, 2), w, 0, next(), api.ErrArg)
}

func TestNumbersOfErrors(t *testing.T) {
	_, a := change.At(old(0, 0), nil, kin, next())
	_, b := change.At(old(-1, 0), window.New(), kin, next())
	if a != 1 || b != 2 {
		t.Error(a, b)
	}
}

// P21.1

func TestWhatIsTold(t *testing.T) {
	for _, c := range []struct {
		r             row
		done, safe    int
		ahead, behind []int
	}{
		// no data
		{"", 0, 0, nil, nil},
		{"", 0, greatest, nil, nil},
		{"", 3, 9, nil, nil},
		// all of the data can be delivered
		{"p", 0, 0, []int{1}, nil},
		{"P", 0, 0, []int{1}, nil},
		{"pPp", 0, 0, []int{1, 2, 3}, nil},
		{"pPp", 0, least, []int{1, 2, 3}, nil},
		{"sSs", 0, 3, []int{1, 2, 3}, nil},
		{"sSs", 0, 4, []int{1, 2, 3}, nil},
		{"pSpPsp", 0, 5, []int{1, 2, 3, 4, 5, 6}, nil},
		// so far it was delivered
		{"pPpPp", 1, 0, []int{2, 3, 4, 5}, nil},
		{"pPpPp", 3, 0, []int{4, 5}, nil},
		{"pPpPp", 4, 0, []int{5}, nil},
		{"pPpPp", 5, 0, nil, nil},
		{"pPpPp", 6, 0, nil, nil},
		{"pPpPp", 99, 99, nil, nil},
		{"sSsSs", 2, 1, nil, []int{3, 4, 5}},
		{"sSsSs", 2, 2, nil, []int{3, 4, 5}},
		{"sSsSs", 2, 3, []int{3}, []int{4, 5}},
		{"sSsSs", 5, 0, nil, nil},
		// what is Safe, and not known to be so, ends it
		{"s", 0, 0, nil, []int{1}},
		{"S", 0, 0, nil, []int{1}},
		{"s", 0, 1, []int{1}, nil},
		{"ps", 0, 1, []int{1}, []int{2}},
		{"psp", 0, 1, []int{1}, []int{2, 3}},
		{"pSP", 0, 1, []int{1}, []int{2, 3}},
		{"psPsP", 0, 2, []int{1, 2, 3}, []int{4, 5}},
		{"psPsP", 0, 3, []int{1, 2, 3}, []int{4, 5}},
		{"psPsP", 0, 4, []int{1, 2, 3, 4, 5}, nil},
		{"psPsP", 0, -1, []int{1}, []int{2, 3, 4, 5}},
		// and so does a gap: behind it there is what the kin have sent
		{".p", 0, 9, nil, []int{2}},
		{".P", 0, 9, nil, nil},
		{".s", 0, 9, nil, []int{2}},
		{".S", 0, 9, nil, nil},
		{".pPpP", 0, 9, nil, []int{2, 4}},
		{".PpPp", 0, 9, nil, []int{3, 5}},
		{"p.pP", 0, 0, []int{1}, []int{3}},
		{"P.Pp", 0, 0, []int{1}, []int{4}},
		{"P..pP", 0, 0, []int{1}, []int{4}},
		{"PpP.p.P.pP", 0, 0, []int{1, 2, 3}, []int{5, 9}},
		{"PpP.P.P.PP", 0, 0, []int{1, 2, 3}, nil},
		{"pP.sSpP", 1, 9, []int{2}, []int{4, 6}},
		{"pP.sSpP", 2, 9, nil, []int{4, 6}},
		{"...p", 0, 0, nil, []int{4}},
		// both: up to the gap there is what anybody has sent
		{"pSPp.pP", 0, 1, []int{1}, []int{2, 3, 4, 6}},
		{"sSPp.sS", 0, 0, nil, []int{1, 2, 3, 4, 6}},
		{"sSPp.sS", 0, 1, []int{1}, []int{2, 3, 4, 6}},
		{"PS.SpP.ps", 0, 0, []int{1}, []int{2, 5, 8, 9}},
		{"ps.ps", 0, 5, []int{1, 2}, []int{4, 5}}, // what is behind a gap is left, however safe it is
		// gaps below what was delivered are none
		{"p..Pp", 3, 0, []int{4, 5}, nil},
		{".....SPp", 5, 0, nil, []int{6, 7, 8}},
		{".....SPp.Pp", 5, 6, []int{6, 7, 8}, []int{11}},
		// what was delivered ends within a gap
		{"p..Pp", 1, 0, nil, []int{5}},
		{"p..Pp", 2, 0, nil, []int{5}},
	} {
		at(t, old(c.done, c.safe), c.r.window(t), kin, next(), c.r.events(c.ahead, c.behind))
	}
}

func TestWhatWasSentAgainIsPassedOver(t *testing.T) {
	for _, c := range []struct {
		r             row
		done, safe    int
		ahead, behind []int
	}{
		{"o", 0, 0, nil, nil},
		{"O", 0, 0, nil, nil},
		{"oOo", 0, 0, nil, nil},
		{"oOo", 1, 9, nil, nil},
		{"op", 0, 0, []int{2}, nil},
		{"Op", 0, 0, []int{2}, nil},
		{"pOoP", 0, 0, []int{1, 4}, nil},
		{"pOoP", 2, 0, []int{4}, nil},
		{"pOoP", 3, 0, []int{4}, nil},
		{"poo", 0, 0, []int{1}, nil},
		{"sOs", 0, 0, nil, []int{1, 3}},
		{"sOs", 0, 1, []int{1}, []int{3}},
		{"sOs", 0, 2, []int{1}, []int{3}},
		{"sOs", 0, 3, []int{1, 3}, nil},
		{"osP", 0, 1, nil, []int{2, 3}},
		{"osOP", 0, 1, nil, []int{2, 4}},
		{"so.oP", 0, 0, nil, []int{1}}, // where one stands there is no gap
		{"sO.op", 0, 0, nil, []int{1, 5}},
		{"po.pP", 0, 0, []int{1}, []int{4}},
		{".oPp", 0, 0, nil, []int{4}},
		{".OpP", 0, 0, nil, []int{3}},
		{".o", 0, 0, nil, nil},
		{"sOSoP.Oo", 0, 0, nil, []int{1, 3, 5}},
		{".xXp", 0, 9, nil, []int{4}},
	} {
		at(t, old(c.done, c.safe), c.r.window(t), kin, next(), c.r.events(c.ahead, c.behind))
	}
}

func TestWhatWasSentAgainAndIsSafeWaits(t *testing.T) { // it is not told, but ends what is told ahead, as all that is Safe
	for _, c := range []struct {
		r             row
		done, safe    int
		ahead, behind []int
	}{
		// at the first number
		{"xp", 0, least, nil, []int{2}},
		{"xp", 0, -1, nil, []int{2}},
		{"xp", 0, 0, nil, []int{2}},
		{"XP", 0, 0, nil, []int{2}},
		{"xp", 0, 1, []int{2}, nil},
		{"XP", 0, 1, []int{2}, nil},
		{"xp", 0, 2, []int{2}, nil},
		{"xp", 0, greatest, []int{2}, nil},
		{"xp", 1, 0, []int{2}, nil}, // what was delivered so far does not wait
		{"xp", 2, 0, nil, nil},
		// in the middle
		{"pxp", 0, 0, []int{1}, []int{3}},
		{"pXP", 0, 1, []int{1}, []int{3}},
		{"pxp", 0, 2, []int{1, 3}, nil},
		{"pXP", 0, 2, []int{1, 3}, nil},
		{"pxp", 0, 3, []int{1, 3}, nil},
		{"pxp", 1, 1, nil, []int{3}},
		{"pxp", 1, 2, []int{3}, nil},
		{"pxp", 2, 0, []int{3}, nil},
		{"pXxP", 0, 0, []int{1}, []int{4}},
		{"pXxP", 0, 2, []int{1}, []int{4}},
		{"pXxP", 0, 3, []int{1, 4}, nil},
		{"oxop", 0, 1, nil, []int{4}},
		{"oxop", 0, 2, []int{4}, nil},
		{"sxs", 0, 1, []int{1}, []int{3}},
		{"sxs", 0, 2, []int{1}, []int{3}},
		{"sxs", 0, 3, []int{1, 3}, nil},
		{"pxsP", 0, 2, []int{1}, []int{3, 4}},
		{"pxsP", 0, 3, []int{1, 3, 4}, nil},
		// at the last one
		{"ppx", 0, 0, []int{1, 2}, nil},
		{"ppx", 0, 2, []int{1, 2}, nil},
		{"ppx", 0, 3, []int{1, 2}, nil},
		{"psx", 0, 1, []int{1}, []int{2}},
		{"psx", 0, 2, []int{1, 2}, nil},
		// with none beside them
		{"x", 0, 0, nil, nil},
		{"x", 0, 1, nil, nil},
		{"X", 1, 0, nil, nil},
		{"xXx", 0, 0, nil, nil},
		{"xXx", 0, 2, nil, nil},
		{"xXx", 0, 9, nil, nil},
		{"oxO", 0, 0, nil, nil},
		// ahead of a gap, and behind it
		{"px.pP", 0, 0, []int{1}, []int{4}},
		{"xP.pP", 0, 0, nil, []int{2, 4}},
		{"xP.pP", 0, 1, []int{2}, []int{4}},
		{"P.xpP", 0, 9, []int{1}, []int{4}},
		{".xp", 0, 0, nil, []int{3}},
	} {
		at(t, old(c.done, c.safe), c.r.window(t), kin, next(), c.r.events(c.ahead, c.behind))
	}
}

func TestSentAgainAndSafeAboutANumber(t *testing.T) {
	const last = 6
	for seq := 1; seq <= last; seq++ {
		for _, letter := range []string{"x", "X"} {
			r := row(strings.Repeat("P", seq-1) + letter + strings.Repeat("P", last-seq))
			w := r.window(t)
			below, above := upTo(seq-1), upTo(last)[seq:]
			at(t, old(0, seq-1), w, kin, next(), r.events(below, above))
			at(t, old(0, seq), w, kin, next(), r.events(slices.Concat(below, above), nil))
			at(t, old(0, seq+1), w, kin, next(), r.events(slices.Concat(below, above), nil))
			at(t, old(seq-1, seq-1), w, kin, next(), r.events(nil, above))
			at(t, old(seq, seq-1), w, kin, next(), r.events(above, nil))
		}
	}
}

func TestDoneAndSafeOfAnySize(t *testing.T) {
	for _, r := range []row{"", "p", "s", "psPsO", "sSpP.Pp", "xsOP.os"} {
		w := r.window(t)
		for _, done := range anyNumbers() {
			for _, safe := range anyNumbers() {
				if done < 0 {
					refuses(t, old(done, safe), w, kin, next(), api.ErrArg)
					continue
				}
				ahead, behind := r.words(done, safe)
				at(t, old(done, safe), w, kin, next(), r.events(ahead, behind))
			}
		}
	}
}

func TestSafeAboutANumber(t *testing.T) {
	const last = 6
	for seq := 1; seq <= last; seq++ {
		r := row(strings.Repeat("P", seq-1) + "S" + strings.Repeat("P", last-seq))
		w := r.window(t)
		at(t, old(0, seq-1), w, kin, next(), r.events(upTo(seq-1), upTo(last)[seq-1:]))
		at(t, old(0, seq), w, kin, next(), r.events(upTo(last), nil))
		at(t, old(0, seq+1), w, kin, next(), r.events(upTo(last), nil))
	}
}

// upTo answers the numbers from 1 on.
func upTo(last int) []int {
	var l []int
	for seq := 1; seq <= last; seq++ {
		l = append(l, seq)
	}
	return l
}

func TestGapAboutANumber(t *testing.T) {
	const last = 6
	for gap := 1; gap <= last; gap++ {
		for _, sent := range []string{"P", "p"} {
			r := row(strings.Repeat("P", gap-1) + "." + strings.Repeat(sent, last-gap))
			var behind []int
			if sent == "p" {
				behind = upTo(last)[gap:]
			}
			at(t, old(0, 9), r.window(t), kin, next(), r.events(upTo(gap-1), behind))
			if gap > 1 {
				r = "S" + r[1:]
				at(t, old(0, 0), r.window(t), kin, next(), r.events(nil, append(upTo(gap-1), behind...)))
			}
		}
	}
}

func TestFarNumbers(t *testing.T) {
	w := window.New()
	near := api.Data{Ring: api.RingId{Seq: 2, Rep: 1}, Seq: 1, Sender: 3}
	far := api.Data{Ring: api.RingId{Seq: 2, Rep: 1}, Seq: most, Sender: 2, Message: api.Message{Safe: true}}
	strange := api.Data{Ring: api.RingId{Seq: 2, Rep: 1}, Seq: most - 2, Sender: 3}
	for _, d := range []api.Data{far, near, strange} {
		puts(t, w, d)
	}
	told := func(l ...api.Data) []api.Event {
		var events []api.Event
		for _, d := range l {
			events = append(events, api.Event{Kind: ofMessage, Data: d})
		}
		return events
	}
	at(t, old(0, most), w, kin, next(), slices.Concat(told(near), transitional(), told(far), regular()))
	at(t, old(most-3, most), w, kin, next(), slices.Concat(told(strange), transitional(), told(far), regular()))
	at(t, old(most-2, most), w, kin, next(), slices.Concat(transitional(), told(far), regular()))
	at(t, old(most-1, most), w, kin, next(), slices.Concat(told(far), transitional(), regular()))
	at(t, old(most-1, most-1), w, kin, next(), slices.Concat(transitional(), told(far), regular()))
	at(t, old(most, most), w, kin, next(), slices.Concat(transitional(), regular()))
}

func TestWhatIsSeenAloneIsNotThere(t *testing.T) {
	for _, seen := range []int{0, 1, 3, 9, most} {
		r := row("pP")
		w := r.window(t)
		if e := w.See(seen); e != api.OK {
			t.Fatal(e)
		}
		at(t, old(0, 0), w, kin, next(), r.events([]int{1, 2}, nil))
		if w.High() != max(2, seen) || w.Aru() != 2 {
			t.Error(w.High(), w.Aru())
		}
	}
}

func TestWhichKindsAreTold(t *testing.T) { // all but what was sent again
	kinds := []int{least, -5, -1, 0, 1, 2, 3, 4, 6, 7, 8, 13, 1<<32 + sentAgain, most, greatest}
	w := window.New()
	var want []api.Event
	for i, kind := range kinds {
		d := row("").data(i + 1)
		d.Message.Kind = kind
		puts(t, w, d)
		want = append(want, api.Event{Kind: ofMessage, Data: d})
	}
	at(t, old(0, 0), w, kin, next(), slices.Concat(want, transitional(), regular()))
}

func TestWhoIsOfTheKin(t *testing.T) { // behind a gap; a sender that is no node is none of the kin
	senders := []int{least, least + 1, -64, -63, -2, -1, 0, 1, 2, 3, 4, 5, 6, 7, 8, 9, 10, 63, 64, 65, 66, 1<<32 + 1, most, greatest}
	w := window.New()
	for i, sender := range senders {
		puts(t, w, api.Data{Seq: i + 2, Sender: sender, Message: api.Message{Body: filled(3, i)}})
	}
	o := change.Old{Config: api.Config{Ring: api.RingId{Seq: 9, Rep: 1}, Members: 510}}
	n := api.Config{Ring: api.RingId{Seq: 9, Rep: 2}, Members: 510}
	for crew := 2; crew <= 510; crew += 2 {
		want := []api.Event{{Kind: ofConfig, Config: api.Config{Ring: n.Ring, Old: o.Config.Ring, Members: crew, Trans: true}}}
		for i, sender := range senders {
			if sender >= 1 && sender <= 8 && crew>>sender&1 == 1 {
				want = append(want, api.Event{Kind: ofMessage, Data: api.Data{Seq: i + 2, Sender: sender, Message: api.Message{Body: filled(3, i)}}})
			}
		}
		at(t, o, w, crew, n, append(want, api.Event{Kind: ofConfig, Config: n}))
	}
}

func TestAheadOfAGapNobodyAsksForTheSender(t *testing.T) {
	for _, sender := range []int{least, -1, 0, 1, 3, 4, 8, 9, 65, greatest} {
		for _, safe := range []bool{false, true} {
			w := window.New()
			d := api.Data{Seq: 1, Sender: sender, Message: api.Message{Safe: safe}}
			puts(t, w, d)
			told := []api.Event{{Kind: ofMessage, Data: d}}
			if safe {
				at(t, old(0, 0), w, kin, next(), slices.Concat(transitional(), told, regular()))
				continue
			}
			at(t, old(0, 0), w, kin, next(), slices.Concat(told, transitional(), regular()))
		}
	}
}

func TestNothingElseOfDataIsLookedAt(t *testing.T) { // neither rings, nor stamps, nor the rest of the message
	w := window.New()
	var want []api.Event
	for i, n := range anyNumbers() {
		m := api.Message{Kind: 1, Origin: n, Life: n, Id: n, Part: n, Parts: n, Groups: n, From: api.Key{Stamp: n, Ring: api.RingId{Seq: n, Rep: n}, Seq: n}, Body: filled(300, i)}
		d := api.Data{Ring: api.RingId{Seq: 1 + i, Rep: 1 + i%8}, Seq: i + 1, Sender: n, Stamp: n, Message: m}
		puts(t, w, d)
		want = append(want, api.Event{Kind: ofMessage, Data: d})
	}
	bare := api.Data{Seq: len(want) + 1}
	puts(t, w, bare)
	want = append(want, api.Event{Kind: ofMessage, Data: bare})
	at(t, old(0, 0), w, kin, next(), slices.Concat(want, transitional(), regular()))
}

func TestWhatOfConfigurationsIsTold(t *testing.T) { // what the chapter does not name is zero
	r := row("pS")
	w := r.window(t)
	for _, stamp := range []int{least, -1, 0, 1, 40, most, most + 1, greatest} {
		for _, trans := range []bool{false, true} {
			for _, ring := range []api.RingId{{}, {Seq: 1, Rep: 1}, {Seq: 7, Rep: 2}, {Seq: -4, Rep: 90}} {
				o := change.Old{Config: api.Config{Ring: api.RingId{Seq: 3, Rep: 8}, Old: ring, Members: 510, Trans: trans, Stamp: stamp}}
				c := api.Config{Ring: api.RingId{Seq: 4, Rep: 2}, Old: ring, Members: 22, Trans: trans, Stamp: stamp}
				at(t, o, w, 18, c, slices.Concat(
					r.messages([]int{1}),
					[]api.Event{{Kind: ofConfig, Config: api.Config{Ring: api.RingId{Seq: 4, Rep: 2}, Old: api.RingId{Seq: 3, Rep: 8}, Members: 18, Trans: true}}},
					r.messages([]int{2}),
					[]api.Event{{Kind: ofConfig, Config: api.Config{Ring: api.RingId{Seq: 4, Rep: 2}, Members: 22, Stamp: stamp}}}))
			}
		}
	}
}

func TestOneOfTheKinAndAll(t *testing.T) {
	r := row("p.pPpP") // 3 and 5 are the nodes 2's, 4 and 6 the node 3's
	w := r.window(t)
	for _, c := range []struct {
		old, kin, next int
		behind         []int
	}{
		{14, 2, 2, nil},              // who is alone in the next one, and has sent nothing here
		{14, 4, 4, []int{3, 5}},      // and who has
		{14, 8, 8, []int{4, 6}},      // another one
		{14, 4, 4 | 32, []int{3, 5}}, // but one in common
		{4, 4, 510, []int{3, 5}},
		{14, 2, 14, nil}, // the same members, not all of them its kin
		{14, 6, 14, []int{3, 5}},
		{14, 10, 14, []int{4, 6}},
		{14, 14, 14, []int{3, 4, 5, 6}}, // all of them
		{510, 510, 510, []int{3, 4, 5, 6}},
		{14, 14, 510, []int{3, 4, 5, 6}},
		{510, 256, 256, nil},
	} {
		o := change.Old{Config: api.Config{Ring: api.RingId{Seq: 1, Rep: 2}, Members: c.old}}
		n := api.Config{Ring: api.RingId{Seq: 1, Rep: 3}, Members: c.next, Stamp: 7}
		at(t, o, w, c.kin, n, slices.Concat(
			r.messages([]int{1}),
			[]api.Event{{Kind: ofConfig, Config: api.Config{Ring: n.Ring, Old: o.Config.Ring, Members: c.kin, Trans: true}}},
			r.messages(c.behind),
			[]api.Event{{Kind: ofConfig, Config: n}}))
	}
}

func TestWindowThatIsNone(t *testing.T) { // it is told ahead of all other errors
	for _, w := range noWindows() {
		for range 2 {
			refuses(t, old(0, 0), w, kin, next(), api.ErrNil)
			refuses(t, old(-1, 0), w, kin, next(), api.ErrNil)
			refuses(t, old(0, 0), w, 0, next(), api.ErrNil)
			refuses(t, old(0, 0), w, 1, api.Config{}, api.ErrNil)
			refuses(t, change.Old{}, w, 0, api.Config{}, api.ErrNil)
		}
	}
	at(t, old(0, 0), window.New(), kin, next(), slices.Concat(transitional(), regular()))
}

func TestDoneBelowZero(t *testing.T) {
	for _, r := range []row{"", "pPs", ".pP"} {
		w := r.window(t)
		for _, done := range []int{-1, -2, -most, least + 1, least} {
			refuses(t, old(done, 0), w, kin, next(), api.ErrArg)
			refuses(t, old(done, 9), w, kin, next(), api.ErrArg)
		}
	}
}

// anyRings are ring numbers, some of which may not be.
func anyRings() []api.RingId {
	var l []api.RingId
	for _, seq := range []int{least, -most, -1, 0, 1, 2, 3, 1 << 40, most - 1, most, most + 1, greatest} {
		for _, rep := range []int{least, -1, 0, 1, 2, 7, 8, 9, 1 << 32, greatest} {
			l = append(l, api.RingId{Seq: seq, Rep: rep})
		}
	}
	return l
}

// isRing tells by the document's words whether a ring number may be, and is not zero.
func isRing(r api.RingId) bool {
	return r.Seq >= 1 && r.Seq <= most && r.Rep >= 1 && r.Rep <= 8
}

func isLess(a, b api.RingId) bool {
	return a.Seq < b.Seq || a.Seq == b.Seq && a.Rep < b.Rep
}

func TestRingNumbers(t *testing.T) {
	w := row("pS").window(t)
	taken := 0
	for _, a := range anyRings() {
		for _, b := range anyRings() {
			o, n := old(0, 0), next()
			o.Config.Ring, n.Ring = a, b
			if !isRing(a) || !isRing(b) || !isLess(a, b) {
				refuses(t, o, w, kin, n, api.ErrArg)
				continue
			}
			taken++
			trans, reg := transitional(), regular()
			trans[0].Config.Ring, trans[0].Config.Old, reg[0].Config.Ring = b, a, b
			at(t, o, w, kin, n, slices.Concat(row("pS").messages([]int{1}), trans, row("pS").messages([]int{2}), reg))
		}
	}
	if taken != 24*23/2 { // six numbers with four nodes each
		t.Error(taken)
	}
}

func TestCrews(t *testing.T) {
	crews := []int{least, least + 6, -512, -2, -1, 0, 1, 2, 3, 4, 6, 7, 8, 14, 16, 22, 30, 254, 256, 258, 508, 510, 511, 512, 514, 1 << 32, 1<<32 + 2, most, greatest}
	isCrew := func(c int) bool { return c >= 0 && c <= 510 && c%2 == 0 }
	w := row("pS").window(t)
	taken := 0
	for _, a := range crews {
		for _, b := range crews {
			for _, k := range crews {
				o, n := old(0, 0), next()
				o.Config.Members, n.Members = a, b
				if !isCrew(a) || !isCrew(b) || !isCrew(k) || k == 0 || a|k != a || b|k != b {
					refuses(t, o, w, k, n, api.ErrArg)
					continue
				}
				taken++
				trans, reg := transitional(), regular()
				trans[0].Config.Members, reg[0].Config.Members = k, b
				at(t, o, w, k, n, slices.Concat(row("pS").messages([]int{1}), trans, row("pS").messages([]int{2}), reg))
			}
		}
	}
	if taken < 300 {
		t.Error(taken)
	}
}

func TestKinInOneConfigurationAlone(t *testing.T) {
	w := example.window(t)
	for _, k := range []int{8, 16, 24, 6 | 8, 6 | 16, 14 | 22, 32, 2 | 32} {
		refuses(t, old(1, 2), w, k, next(), api.ErrArg)
	}
	for _, k := range []int{2, 4, 6} {
		if l, e := change.At(old(1, 2), w, k, next()); e != api.OK || len(l) == 0 {
			t.Error(k, brief(l), e)
		}
	}
}

func TestMembersThatAreNone(t *testing.T) { // no kin can be within them
	w := example.window(t)
	o, n := old(0, 0), next()
	o.Config.Members = 0
	refuses(t, o, w, kin, n, api.ErrArg)
	refuses(t, o, w, 0, n, api.ErrArg)
	n.Members = 0
	refuses(t, old(0, 0), w, kin, n, api.ErrArg)
	refuses(t, old(0, 0), w, 0, n, api.ErrArg)
	refuses(t, o, w, 0, n, api.ErrArg)
}

func TestWhatIsHandedInIsOnlyRead(t *testing.T) {
	for _, r := range []row{"", "p", "psPs.pP", ".oXsS..pP", "sSsS"} {
		for _, seen := range []int{0, 12} {
			w := r.window(t)
			if e := w.See(seen); e != api.OK {
				t.Fatal(e)
			}
			isOnlyRead(t, r, w)
		}
	}
}

// isOnlyRead asks that the row's window stays as it is, however often it is handed in, and what is told, too.
func isOnlyRead(t *testing.T, r row, w *window.Window) {
	t.Helper()
	aru, high, gaps, all := w.Aru(), w.High(), w.Gaps(16), w.Above(0)
	for range 3 {
		for _, done := range []int{0, 2, 99, -1} {
			for _, crew := range []int{kin, 0, 8} {
				change.At(old(done, 2), w, crew, next())
			}
		}
		ahead, behind := r.words(0, 2)
		at(t, old(0, 2), w, kin, next(), r.events(ahead, behind))
	}
	if w.Aru() != aru || w.High() != high || !slices.Equal(w.Gaps(16), gaps) || !slices.EqualFunc(w.Above(0), all, same) {
		t.Fatalf("%v: the window has changed", r)
	}
}

// P21.2

// spoil writes over all of l, its spare room and its bodies, too.
func spoil(l []api.Event) {
	for _, x := range l {
		body := x.Data.Message.Body
		body = body[:cap(body)]
		for i := range body {
			body[i] ^= 0xFF
		}
	}
	room := l[:cap(l)]
	for i := range room {
		room[i] = api.Event{Kind: 77, Data: api.Data{Seq: 77, Message: api.Message{Kind: sentAgain, Safe: true}}}
	}
}

func TestWhatIsAnsweredIsNewMemory(t *testing.T) {
	r := row("psPsSoP.pPs")
	w := r.window(t)
	all := w.Above(0)
	for done := range 13 {
		for safe := range 13 {
			l, e := change.At(old(done, safe), w, kin, next())
			if e != api.OK {
				t.Fatal(e)
			}
			spoil(l)
			_ = append(l, api.Event{Kind: 78})
			if !slices.EqualFunc(w.Above(0), all, same) {
				t.Fatal("the window has changed with what was answered")
			}
		}
	}
	at(t, old(1, 2), w, kin, next(), r.events([]int{2, 3}, []int{4, 5, 7, 9, 11}))
}

func TestAnswersShareNoMemory(t *testing.T) { // though one body was handed in for several
	body := filled(30, 5)
	w := window.New()
	for _, seq := range []int{1, 2, 3, 4, 6, 7} {
		puts(t, w, api.Data{Seq: seq, Sender: 1, Message: api.Message{Safe: seq == 3, Body: body}})
	}
	var lists [][]api.Event
	for range 2 {
		l, e := change.At(old(0, 2), w, kin, next())
		if e != api.OK || !slices.Equal(brief(l), []int{1, 2, 0, 3, 4, 6, 7, -1}) {
			t.Fatal(brief(l), e)
		}
		lists = append(lists, l)
	}
	bodies := map[*byte]int{&body[0]: 1}
	for i, l := range lists {
		for _, x := range l {
			if x.Kind != ofMessage {
				continue
			}
			if !bytes.Equal(x.Data.Message.Body, body) {
				t.Errorf("the answer %d has changed: %+v", i, x)
			}
			bodies[&x.Data.Message.Body[0]]++
		}
		spoil(l)
	}
	if len(bodies) != 13 || !bytes.Equal(body, filled(30, 5)) {
		t.Error("memory is shared")
	}
}

func TestWhatWasAnsweredStays(t *testing.T) { // whatever comes into the window later on
	r := row("ps.pP")
	w := r.window(t)
	l, e := change.At(old(0, 1), w, kin, next())
	if e != api.OK {
		t.Fatal(e)
	}
	filledUp := row("psPpP")
	puts(t, w, filledUp.data(3))
	at(t, old(0, 1), w, kin, next(), filledUp.events([]int{1}, []int{2, 3, 4, 5}))
	if !slices.EqualFunc(l, r.events([]int{1}, []int{2, 4}), sameEvent) {
		t.Error(l)
	}
}

func TestNothingIsKept(t *testing.T) { // neither the window, nor, of one answer, another one
	ask := func() (weak.Pointer[window.Window], weak.Pointer[byte], []api.Event) {
		w := row("psP").window(t)
		l, e := change.At(old(0, 1), w, kin, next())
		again, _ := change.At(old(0, 1), w, kin, next())
		if e != api.OK || len(l) != 5 {
			t.Fatal(brief(l), e)
		}
		body := filled(500, 1)
		l[0].Data.Message.Body = body
		return weak.Make(w), weak.Make(&body[0]), again
	}
	w, body, again := ask()
	runtime.GC()
	if w.Value() != nil || body.Value() != nil {
		t.Error("something is kept")
	}
	if !slices.EqualFunc(again, row("psP").events([]int{1}, []int{2, 3}), sameEvent) {
		t.Error(again)
	}
}
