package order_test

import (
	"bytes"
	"math"
	"runtime"
	"slices"
	"testing"
	"weak"

	"hauberk/api"
	"hauberk/order"
	"hauberk/window"
)

// The numbers of the document, written out, so that the package is not held against itself.
const (
	most     = 1<<53 - 1
	old      = 5 // the kind of what is sent again
	least    = math.MinInt
	greatest = math.MaxInt
)

// form is what data are, as far as an order looks at them.
type form int

const (
	absent form = iota
	plain
	safely  // Safe
	again   // sent again
	against // sent again, and Safe
	forms
)

func (f form) isSafe() bool { return f == safely || f == against }

func (f form) isOld() bool { return f == again || f == against }

// data answers data of that number and form, other ones for each number.
func data(seq int, f form) api.Data {
	id := seq % 1000
	m := api.Message{Kind: 1 + id%4, Origin: 1 + id%8, Life: 1 + id, Id: id, Part: id % 2, Parts: 2, Groups: 1 + id%255, Safe: f.isSafe(), Body: filled(1+id%48, id)}
	if f.isOld() {
		m.Kind = old
	}
	if id%3 == 0 {
		m.From = api.Key{Stamp: id, Ring: api.RingId{Seq: 9, Rep: 2}, Seq: id + 1}
	}
	return api.Data{Ring: api.RingId{Seq: 7, Rep: 3}, Seq: seq, Sender: 1 + id%8, Stamp: 50 + id, Message: m}
}

// filled answers so many bytes; salt makes them others.
func filled(size, salt int) []byte {
	b := make([]byte, size)
	for i := range b {
		b[i] = byte(i*7 + salt*31)
	}
	return b
}

// row is forms by numbers, the first one of the number 1.
type row []form

// list answers the data of these numbers.
func (r row) list(seqs ...int) []api.Data {
	var l []api.Data
	for _, seq := range seqs {
		l = append(l, data(seq, r[seq-1]))
	}
	return l
}

// window answers a window with all of the row.
func (r row) window(t testing.TB) *window.Window {
	t.Helper()
	w := window.New()
	for i, f := range r {
		if f != absent {
			puts(t, w, data(i+1, f))
		}
	}
	return w
}

// upTo answers the numbers from 1 on.
func upTo(last int) []int {
	var l []int
	for seq := 1; seq <= last; seq++ {
		l = append(l, seq)
	}
	return l
}

// next answers by the chapter's words what is delivered behind done, and how far that is.
func (r row) next(done, safe int) ([]int, int) {
	var told []int
	for seq := done + 1; seq <= len(r); seq++ {
		f := r[seq-1]
		canCome := f == plain || f == safely && seq <= safe
		if !canCome && !f.isOld() {
			return told, seq - 1
		}
		if canCome {
			told = append(told, seq)
		}
	}
	return told, max(done, len(r))
}

// rows calls f with each row of that length.
func rows(length int, f func(r row)) {
	r := make(row, length)
	count := 1
	for range length {
		count *= int(forms)
	}
	for n := range count {
		for i := range r {
			r[i] = form(n % int(forms))
			n /= int(forms)
		}
		f(r)
	}
}

// puts asks that d is new in w.
func puts(t testing.TB, w *window.Window, d api.Data) {
	t.Helper()
	if fresh, e := w.Put(d); !fresh || e != api.OK {
		t.Fatalf("Put(%d): %v, %d, want true", d.Seq, fresh, e)
	}
}

// same holds data against each other; a body without bytes may be nil or not.
func same(a, b api.Data) bool {
	return a.Ring == b.Ring && a.Seq == b.Seq && a.Sender == b.Sender && a.Stamp == b.Stamp && sameMessage(a.Message, b.Message)
}

func sameMessage(a, b api.Message) bool {
	return bytes.Equal(a.Body, b.Body) && a.Kind == b.Kind && a.Origin == b.Origin && a.Life == b.Life && a.Id == b.Id &&
		a.Part == b.Part && a.Parts == b.Parts && a.Groups == b.Groups && a.Safe == b.Safe && a.From == b.From
}

// numbers answers those of the data.
func numbers(l []api.Data) []int {
	var seqs []int
	for _, d := range l {
		seqs = append(seqs, d.Seq)
	}
	return seqs
}

// tells asks that what comes next are these.
func tells(t testing.TB, o *order.Order, w *window.Window, safe int, want ...api.Data) {
	t.Helper()
	got, e := o.Next(w, safe)
	if e != api.OK || !slices.Equal(numbers(got), numbers(want)) {
		t.Fatalf("Next(%d): %v, %d, want %v", safe, numbers(got), e, numbers(want))
	}
	if !slices.EqualFunc(got, want, same) {
		t.Fatalf("Next(%d): %+v, want %+v", safe, got, want)
	}
}

// refuses asks that there is nothing but ErrNil.
func refuses(t testing.TB, o *order.Order, w *window.Window, safe int) {
	t.Helper()
	if l, e := o.Next(w, safe); len(l) != 0 || e != api.ErrNil {
		t.Fatalf("Next(%d): %v, %d, want %d", safe, numbers(l), e, api.ErrNil)
	}
}

// isDone asks up to which number data were delivered.
func isDone(t testing.TB, o *order.Order, want int) {
	t.Helper()
	if got := o.Done(); got != want {
		t.Fatalf("Done: %d, want %d", got, want)
	}
}

// anyNumbers are some that may be said to be safe.
func anyNumbers() []int {
	return []int{least, least + 1, -1 << 62, -most - 1, -most, -17, -2, -1, 0, 1, 2, 3, 4, 5, 6, 1 << 32, 1<<32 + 2, most - 1, most, most + 1, 1 << 62, greatest - 1, greatest}
}

// noOrders are orders that are none.
func noOrders() []*order.Order {
	var none order.Order
	return []*order.Order{nil, {}, new(order.Order), &none}
}

// noWindows are windows that are none.
func noWindows() []*window.Window {
	var none window.Window
	return []*window.Window{nil, {}, new(window.Window), &none}
}

// The chapter's examples

func TestExamples(t *testing.T) {
	r := row{plain, safely, again, absent, plain}
	w, o := r.window(t), order.New()
	tells(t, o, w, 0, r.list(1)...)
	isDone(t, o, 1)
	tells(t, o, w, 0)
	tells(t, o, w, 2, r.list(2)...)
	isDone(t, o, 3)
	r[3] = plain
	puts(t, w, data(4, plain))
	tells(t, o, w, 0, r.list(4, 5)...)
	refuses(t, o, nil, 0)
	isDone(t, o, 5)
}

func TestNumberOfTheError(t *testing.T) {
	var none *order.Order
	_, a := none.Next(window.New(), 0)
	_, b := order.New().Next(nil, 0)
	if a != 1 || b != 1 {
		t.Error(a, b)
	}
}

// P17.1

func TestNew(t *testing.T) {
	r := row{plain, plain, safely}
	w := r.window(t)
	a, b := order.New(), order.New()
	if a == nil || b == nil || a == b {
		t.Fatal("New answers none, or the same twice")
	}
	isDone(t, a, 0)
	tells(t, a, w, 0, r.list(1, 2)...)
	isDone(t, b, 0) // one has nothing to do with the other
	tells(t, b, w, 3, r.list(1, 2, 3)...)
	isDone(t, a, 2)
	isDone(t, order.New(), 0)
}

func TestOrderThatIsNone(t *testing.T) {
	full := row{plain, safely, again, plain}.window(t)
	for _, o := range noOrders() {
		for range 2 {
			for _, safe := range anyNumbers() {
				for _, w := range append(noWindows(), window.New(), full) {
					refuses(t, o, w, safe)
					isDone(t, o, 0)
				}
			}
		}
	}
	tells(t, order.New(), full, 2, row{plain, safely, again, plain}.list(1, 2, 4)...)
}

func TestWindowThatIsNone(t *testing.T) {
	r := row{plain, again, safely, plain, plain}
	w, o := r.window(t), order.New()
	refuseAll := func(done int) {
		t.Helper()
		for _, none := range noWindows() {
			for _, safe := range anyNumbers() {
				refuses(t, o, none, safe)
				isDone(t, o, done)
			}
		}
	}
	refuseAll(0)
	tells(t, o, w, 0, r.list(1)...)
	refuseAll(2)
	tells(t, o, w, 0)
	tells(t, o, w, 3, r.list(3, 4, 5)...)
	refuseAll(5)
	tells(t, o, w, greatest)
}

func TestNothingInTheWindow(t *testing.T) {
	w, o := window.New(), order.New()
	for _, seen := range []int{0, 1, 5, most} { // what is only seen is not there
		if e := w.See(seen); e != api.OK {
			t.Fatal(e)
		}
		for _, safe := range anyNumbers() {
			tells(t, o, w, safe)
			isDone(t, o, 0)
		}
	}
	puts(t, w, data(1, plain))
	tells(t, o, w, 0, data(1, plain))
}

func TestBehindAGap(t *testing.T) {
	for _, r := range []row{
		{absent, plain},
		{absent, again, plain},
		{absent, safely, plain, plain},
		{absent, absent, absent, plain, plain},
		{absent, plain, absent, plain},
	} {
		w, o := r.window(t), order.New()
		for _, safe := range anyNumbers() {
			tells(t, o, w, safe)
			isDone(t, o, 0)
		}
	}
}

func TestFarBehindAGap(t *testing.T) {
	w, o := window.New(), order.New()
	puts(t, w, data(most, plain))
	puts(t, w, data(2, plain))
	tells(t, o, w, greatest)
	isDone(t, o, 0)
	puts(t, w, data(1, plain))
	tells(t, o, w, 0, data(1, plain), data(2, plain))
	tells(t, o, w, greatest)
	isDone(t, o, 2)
}

func TestSafeAboutANumber(t *testing.T) {
	const last = 5
	for at := 1; at <= last; at++ {
		r := slices.Repeat(row{plain}, last)
		r[at-1] = safely
		w := r.window(t)
		for _, safe := range append(anyNumbers(), at-1, at, at+1) {
			o := order.New()
			done := last
			if safe < at {
				done = at - 1
			}
			tells(t, o, w, safe, r.list(upTo(done)...)...)
			isDone(t, o, done)
		}
	}
}

func TestAllSafe(t *testing.T) {
	const last = 5
	r := slices.Repeat(row{safely}, last)
	w := r.window(t)
	for _, safe := range anyNumbers() {
		o := order.New()
		done := max(0, min(safe, last))
		tells(t, o, w, safe, r.list(upTo(done)...)...)
		isDone(t, o, done)
	}
	o := order.New()
	for seq := 1; seq <= last; seq++ { // one by one
		tells(t, o, w, seq-1)
		tells(t, o, w, seq, data(seq, safely))
		isDone(t, o, seq)
	}
}

func TestNoneSafe(t *testing.T) {
	const last = 5
	r := slices.Repeat(row{plain}, last)
	w := r.window(t)
	for _, safe := range anyNumbers() {
		o := order.New()
		tells(t, o, w, safe, r.list(upTo(last)...)...)
		isDone(t, o, last)
	}
}

func TestWhatIsNotSafeWaitsBehindWhatIs(t *testing.T) {
	r := row{plain, safely, plain, safely, plain, plain}
	w, o := r.window(t), order.New()
	tells(t, o, w, 1, r.list(1)...)
	tells(t, o, w, 2, r.list(2, 3)...)
	tells(t, o, w, 3)
	isDone(t, o, 3)
	tells(t, o, w, 4, r.list(4, 5, 6)...)
	isDone(t, o, 6)
}

func TestWhatIsSentAgainIsPassedOver(t *testing.T) {
	for _, c := range []struct {
		r    row
		safe int
		told []int
		done int
	}{
		{row{again}, 0, nil, 1},
		{row{again, again, again}, least, nil, 3},
		{row{again, plain}, 0, []int{2}, 2},
		{row{plain, again}, 0, []int{1}, 2},
		{row{again, again, plain, again, again}, 0, []int{3}, 5},
		{row{plain, again, again, plain, again}, 0, []int{1, 4}, 5},
		{row{again, absent, plain}, greatest, nil, 1},
		{row{absent, again, plain}, greatest, nil, 0},
		{row{again, safely, plain}, 1, nil, 1},
		{row{again, safely, plain}, 2, []int{2, 3}, 3},
		{row{safely, again, plain}, 0, nil, 0},
		{row{safely, again, plain}, 1, []int{1, 3}, 3},
		{row{against}, least, nil, 1}, // it is not delivered: it waits for nothing
		{row{against}, 1, nil, 1},
		{row{against, plain}, 0, []int{2}, 2},
		{row{plain, against, plain, against}, 0, []int{1, 3}, 4},
		{row{plain, against, safely, plain}, 2, []int{1}, 2},
		{row{plain, against, safely, plain}, 3, []int{1, 3, 4}, 4},
		{row{against, against, absent, plain}, greatest, nil, 2},
	} {
		w, o := c.r.window(t), order.New()
		tells(t, o, w, c.safe, c.r.list(c.told...)...)
		isDone(t, o, c.done)
		tells(t, o, w, c.safe)
		isDone(t, o, c.done)
	}
}

func TestEachOtherKindIsDelivered(t *testing.T) {
	kinds := []int{least, -5, -1, 0, 1, 2, 3, 4, 6, 7, 8, 13, 1<<32 + old, most, greatest}
	w, o := window.New(), order.New()
	var want []api.Data
	for i, kind := range kinds {
		d := data(i+1, plain)
		d.Message.Kind = kind
		puts(t, w, d)
		want = append(want, d)
	}
	tells(t, o, w, least, want...)
	isDone(t, o, len(kinds))
}

func TestNothingElseIsLookedAt(t *testing.T) { // neither at rings, nor at senders, nor at the rest of the message
	w, o := window.New(), order.New()
	var want []api.Data
	for i, n := range anyNumbers() {
		m := api.Message{Kind: 1, Origin: n, Life: n, Id: n, Part: n, Parts: n, Groups: n, From: api.Key{Stamp: n, Ring: api.RingId{Seq: n, Rep: n}, Seq: n}, Body: filled(300, i)}
		want = append(want, api.Data{Ring: api.RingId{Seq: 1 + i, Rep: 1 + i%8}, Seq: i + 1, Sender: n, Stamp: n, Message: m})
	}
	want = append(want, api.Data{Seq: len(want) + 1})
	for _, d := range want {
		puts(t, w, d)
	}
	tells(t, o, w, 0, want...)
}

func TestAskedAgainWithNothingNew(t *testing.T) {
	r := row{plain, again, plain, safely, plain, absent, plain}
	w, o := r.window(t), order.New()
	tells(t, o, w, 3, r.list(1, 3)...)
	for range 5 {
		for safe := -1; safe < 4; safe++ {
			tells(t, o, w, safe)
			isDone(t, o, 3)
		}
	}
	tells(t, o, w, 4, r.list(4, 5)...)
	for _, safe := range anyNumbers() {
		tells(t, o, w, safe)
		isDone(t, o, 5)
	}
}

func TestWhatWasLackingComesIn(t *testing.T) {
	r := row{plain, safely, plain, again, safely, plain}
	w, o := window.New(), order.New()
	for _, c := range []struct{ comes, done int }{{2, 0}, {6, 0}, {1, 2}, {4, 2}, {5, 2}, {3, 6}} {
		puts(t, w, r.list(c.comes)[0])
		before := o.Done()
		told, _ := r[:c.done].next(before, greatest)
		tells(t, o, w, greatest, r.list(told...)...)
		isDone(t, o, c.done)
		tells(t, o, w, greatest)
	}
}

func TestSafeFalls(t *testing.T) {
	r := row{safely, safely, plain, safely, again, safely}
	w, o := r.window(t), order.New()
	tells(t, o, w, 2, r.list(1, 2, 3)...)
	for _, safe := range []int{1, 0, -1, least, 3} { // what was delivered stays so
		tells(t, o, w, safe)
		isDone(t, o, 3)
	}
	tells(t, o, w, 5, r.list(4)...)
	isDone(t, o, 5)
	tells(t, o, w, 4)
	tells(t, o, w, 6, r.list(6)...)
	tells(t, o, w, 0)
	isDone(t, o, 6)
}

func TestOrderGoesOnInAnotherWindow(t *testing.T) { // it knows numbers alone
	r := row{plain, plain, plain, plain}
	o := order.New()
	tells(t, o, r[:2].window(t), 0, r.list(1, 2)...)
	tells(t, o, window.New(), 0)
	tells(t, o, r[:1].window(t), 0)
	isDone(t, o, 2)
	tells(t, o, r.window(t), 0, r.list(3, 4)...)
	isDone(t, o, 4)
}

func TestDoneChangesNothing(t *testing.T) {
	r := row{plain, safely, plain}
	w, o := r.window(t), order.New()
	for range 3 {
		isDone(t, o, 0)
	}
	tells(t, o, w, 0, r.list(1)...)
	for range 3 {
		isDone(t, o, 1)
	}
	tells(t, o, w, 2, r.list(2, 3)...)
}

func TestWindowStaysAsItIs(t *testing.T) {
	rows(4, func(r row) {
		w := r.window(t)
		if e := w.See(9); e != api.OK {
			t.Fatal(e)
		}
		aru, high, gaps, all := w.Aru(), w.High(), w.Gaps(16), w.Above(0)
		o := order.New()
		for _, safe := range []int{0, 2, greatest} {
			if _, e := o.Next(w, safe); e != api.OK {
				t.Fatal(e)
			}
		}
		if w.Aru() != aru || w.High() != high || !slices.Equal(w.Gaps(16), gaps) || !slices.EqualFunc(w.Above(0), all, same) {
			t.Fatalf("%v: the window has changed", r)
		}
	})
	w := window.New()
	tells(t, order.New(), w, most)
	if w.High() != 0 || w.Aru() != 0 {
		t.Error(w.High(), w.Aru())
	}
}

// P17.2

// spoil writes over all of l, its spare room and its bodies, too.
func spoil(l []api.Data) {
	for _, d := range l {
		room := d.Message.Body[:cap(d.Message.Body)]
		for i := range room {
			room[i] ^= 0xFF
		}
	}
	room := l[:cap(l)]
	for i := range room {
		room[i] = api.Data{Seq: 77, Message: api.Message{Kind: old, Safe: true}}
	}
}

func TestWhatIsAnsweredIsNewMemory(t *testing.T) {
	r := row{plain, safely, again, plain, plain, safely, plain}
	w := r.window(t)
	all := w.Above(0)
	for range 3 {
		o := order.New()
		for _, safe := range []int{0, 2, 2, 6} {
			l, e := o.Next(w, safe)
			if e != api.OK {
				t.Fatal(e)
			}
			spoil(l)
			_ = append(l, api.Data{Seq: 78})
			if !slices.EqualFunc(w.Above(0), all, same) {
				t.Fatal("the window has changed with what was answered")
			}
		}
		isDone(t, o, 7)
	}
	tells(t, order.New(), w, 6, r.list(1, 2, 4, 5, 6, 7)...)
}

func TestAnswersShareNoMemory(t *testing.T) { // though one body was handed in for several
	body := filled(30, 5)
	w := window.New()
	for seq := 1; seq <= 6; seq++ {
		puts(t, w, api.Data{Seq: seq, Message: api.Message{Safe: seq == 4, Body: body}})
	}
	one, other := order.New(), order.New()
	var lists [][]api.Data
	for _, o := range []*order.Order{one, other} {
		for _, safe := range []int{0, 4} {
			l, e := o.Next(w, safe)
			if e != api.OK || len(l) != 3 {
				t.Fatal(numbers(l), e)
			}
			lists = append(lists, l)
		}
	}
	bodies := map[*byte]int{&body[0]: 1}
	for i, l := range lists {
		for k, d := range l {
			if d.Seq != 1+k+i%2*3 || !bytes.Equal(d.Message.Body, body) {
				t.Errorf("the answer %d has changed: %+v", i, d)
			}
			bodies[&d.Message.Body[0]]++
		}
		spoil(l)
	}
	if len(bodies) != 13 || !bytes.Equal(body, filled(30, 5)) {
		t.Error("memory is shared")
	}
}

func TestWhatWasAnsweredStays(t *testing.T) { // whatever is asked later on
	r := row{plain, plain, safely, plain}
	w, o := r[:2].window(t), order.New()
	first, _ := o.Next(w, 0)
	puts(t, w, data(3, safely))
	second, _ := o.Next(w, 3)
	puts(t, w, data(4, plain))
	third, _ := o.Next(w, 3)
	for i, l := range [][]api.Data{first, second, third} {
		want := [][]int{{1, 2}, {3}, {4}}[i]
		if !slices.EqualFunc(l, r.list(want...), same) {
			t.Errorf("%d: %+v", i, l)
		}
	}
}

func TestNothingIsKept(t *testing.T) { // neither the window nor what was answered
	o := order.New()
	ask := func() (weak.Pointer[window.Window], weak.Pointer[byte]) {
		w := row{plain, plain}.window(t)
		l, e := o.Next(w, 0)
		if e != api.OK || len(l) != 2 {
			t.Fatal(numbers(l), e)
		}
		l[1].Message.Body = nil
		body := filled(500, 1)
		l[0].Message.Body = body
		return weak.Make(w), weak.Make(&body[0])
	}
	w, body := ask()
	runtime.GC()
	if w.Value() != nil || body.Value() != nil {
		t.Error("something is kept")
	}
	isDone(t, o, 2)
}
