package window_test

import (
	"bytes"
	"fmt"
	"math"
	"math/rand"
	"runtime"
	"slices"
	"testing"
	"weak"

	"hauberk/api"
	"hauberk/window"
)

const (
	most = 1<<53 - 1
	ask  = 16 // as many gaps as are told at once
)

// data answers data of that number, other ones for each number.
func data(seq int) api.Data { return other(seq, 0) }

// other answers data of that number; salt makes them others.
func other(seq, salt int) api.Data {
	id := (seq%1000+1000)%1000 + salt // those of numbers below 0, too
	m := api.Message{Kind: 1, Origin: 1 + id%8, Life: 1 + id, Id: id, Part: id % 2, Parts: 2, Groups: 1 + id%255, Safe: id%3 == 0, Body: filled(1+id%48, id)}
	if id%4 == 0 {
		m.From = api.Key{Stamp: id, Ring: api.RingId{Seq: 9, Rep: 2}, Seq: id + 1}
	}
	return api.Data{Ring: api.RingId{Seq: 7, Rep: 3}, Seq: seq, Sender: 1 + id%8, Stamp: 50 + id, Message: m}
}

// several answers data of these numbers.
func several(seqs ...int) []api.Data {
	var l []api.Data
	for _, seq := range seqs {
		l = append(l, data(seq))
	}
	return l
}

// row answers the numbers from one to another one.
func row(from, to int) []int {
	var l []int
	for seq := from; seq <= to; seq++ {
		l = append(l, seq)
	}
	return l
}

// with answers d as change leaves it.
func with(d api.Data, change func(d *api.Data)) api.Data {
	d.Message.Body = bytes.Clone(d.Message.Body)
	change(&d)
	return d
}

// filled answers so many bytes; salt makes them others.
func filled(size, salt int) []byte {
	b := make([]byte, size)
	for i := range b {
		b[i] = byte(i*7 + salt*31)
	}
	return b
}

// same holds data against each other; a body without bytes may be nil or not.
func same(a, b api.Data) bool {
	return a.Ring == b.Ring && a.Seq == b.Seq && a.Sender == b.Sender && a.Stamp == b.Stamp && sameMessage(a.Message, b.Message)
}

func sameMessage(a, b api.Message) bool {
	return bytes.Equal(a.Body, b.Body) && a.Kind == b.Kind && a.Origin == b.Origin && a.Life == b.Life && a.Id == b.Id &&
		a.Part == b.Part && a.Parts == b.Parts && a.Groups == b.Groups && a.Safe == b.Safe && a.From == b.From
}

// spoil writes over b and its spare room.
func spoil(b []byte) {
	b = b[:cap(b)]
	for i := range b {
		b[i] ^= 0xFF
	}
}

func isZero(d api.Data) bool { return d.Message.Body == nil && same(d, api.Data{}) }

// filledBy answers a window into which these came, in this order.
func filledBy(t testing.TB, seqs ...int) *window.Window {
	t.Helper()
	w := window.New()
	for _, seq := range seqs {
		puts(t, w, data(seq))
	}
	return w
}

// puts asks that d is new.
func puts(t testing.TB, w *window.Window, d api.Data) {
	t.Helper()
	if fresh, e := w.Put(d); !fresh || e != api.OK {
		t.Fatalf("Put(%d): %v, %d, want true", d.Seq, fresh, e)
	}
}

// stays asks that there is one of d's number, and that nothing comes of d.
func stays(t testing.TB, w *window.Window, d api.Data) {
	t.Helper()
	if fresh, e := w.Put(d); fresh || e != api.OK {
		t.Fatalf("Put(%d): %v, %d, want false", d.Seq, fresh, e)
	}
}

// refuses asks that d is not taken.
func refuses(t testing.TB, w *window.Window, want api.Errno, d api.Data) {
	t.Helper()
	if fresh, e := w.Put(d); fresh || e != want {
		t.Fatalf("Put(%+v): %v, %d, want %d", d, fresh, e, want)
	}
}

func sees(t testing.TB, w *window.Window, seq int, want api.Errno) {
	t.Helper()
	if e := w.See(seq); e != want {
		t.Fatalf("See(%d): %d, want %d", seq, e, want)
	}
}

// reaches asks up to where all are there, and what the greatest number is.
func reaches(t testing.TB, w *window.Window, aru, high int) {
	t.Helper()
	if w.Aru() != aru || w.High() != high {
		t.Fatalf("Aru %d, High %d, want %d, %d", w.Aru(), w.High(), aru, high)
	}
}

// lacks asks that so many gaps at most are these.
func lacks(t testing.TB, w *window.Window, count int, want ...int) {
	t.Helper()
	if got := w.Gaps(count); !slices.Equal(got, want) {
		t.Fatalf("Gaps(%d): %v, want %v", count, got, want)
	}
}

// above asks that the data above a number are these.
func above(t testing.TB, w *window.Window, seq int, want ...api.Data) {
	t.Helper()
	if got := w.Above(seq); !slices.EqualFunc(got, want, same) {
		t.Fatalf("Above(%d): %+v, want %+v", seq, got, want)
	}
}

// gets asks that d is what is there of its number.
func gets(t testing.TB, w *window.Window, d api.Data) {
	t.Helper()
	if got, ok := w.Get(d.Seq); !ok || !same(got, d) {
		t.Fatalf("Get(%d): %+v, %v, want %+v", d.Seq, got, ok, d)
	}
}

// hasNot asks that there are no data of that number.
func hasNot(t testing.TB, w *window.Window, seq int) {
	t.Helper()
	if d, ok := w.Get(seq); ok || !isZero(d) {
		t.Fatalf("Get(%d): %+v, %v, want none", seq, d, ok)
	}
}

// anyNumbers are some that a window is asked about: what may be, and what may not.
func anyNumbers() []int {
	return []int{math.MinInt, -1 << 62, -most - 1, -most, -17, -2, -1, 0, 1, 2, 3, 15, 16, 17, 1 << 32, 1<<32 + 1, most - 1, most, most + 1, 1 << 62, math.MaxInt - 1, math.MaxInt}
}

// wrongNumbers are none that go over the wire.
func wrongNumbers() []int {
	return []int{-1, -2, -most, -most - 1, math.MinInt, most + 1, most + 2, 1 << 62, math.MaxInt}
}

// wrongRings may not be.
func wrongRings() []api.RingId {
	l := []api.RingId{{Seq: 1}, {Seq: most}, {Rep: 1}, {Rep: 8}, {Seq: 1, Rep: 9}, {Seq: 1, Rep: -1}, {Seq: 1, Rep: 1<<32 + 1}, {Rep: -1}, {Rep: 9}, {Seq: 5, Rep: math.MaxInt}, {Seq: 5, Rep: math.MinInt}}
	for _, n := range wrongNumbers() {
		l = append(l, api.RingId{Seq: n}, api.RingId{Seq: n, Rep: 1}, api.RingId{Seq: n, Rep: 8}, api.RingId{Seq: n, Rep: 9})
	}
	return l
}

// wrongs answers data, of that number else, that may not be.
func wrongs(seq int) []api.Data {
	l := []api.Data{{}, with(data(seq), func(d *api.Data) { d.Seq = 0 })}
	for _, n := range wrongNumbers() {
		l = append(l, with(data(seq), func(d *api.Data) { d.Seq = n }))
	}
	for _, r := range wrongRings() {
		l = append(l, with(data(seq), func(d *api.Data) { d.Ring = r }), with(data(seq), func(d *api.Data) { d.Ring, d.Seq = r, 0 }))
	}
	return l
}

// orders answers the list in each order.
func orders(l []int) [][]int {
	if len(l) == 0 {
		return [][]int{nil}
	}
	var all [][]int
	for i, first := range l {
		rest := slices.Delete(slices.Clone(l), i, i+1)
		for _, tail := range orders(rest) {
			all = append(all, append([]int{first}, tail...))
		}
	}
	return all
}

// The chapter's examples

func TestExamples(t *testing.T) {
	w := window.New()
	puts(t, w, data(2))
	stays(t, w, data(2))
	refuses(t, w, api.ErrArg, data(0))
	sees(t, w, 4, api.OK)
	reaches(t, w, 0, 4)
	lacks(t, w, 9, 1, 3, 4)
	lacks(t, w, 1, 1)
	puts(t, w, data(1))
	reaches(t, w, 2, 4)
	above(t, w, 1, data(2))
	hasNot(t, w, 3)
}

func TestNumbersOfErrors(t *testing.T) {
	var none *window.Window
	_, e1 := none.Put(data(1))
	_, e2 := window.New().Put(data(0))
	if e1 != 1 || e2 != 2 || none.See(1) != 1 || window.New().See(-1) != 2 {
		t.Error(e1, e2, none.See(1), window.New().See(-1))
	}
}

// P14.1

// hasNothing asks a window, or what is none, for all that it tells.
func hasNothing(t testing.TB, w *window.Window) {
	t.Helper()
	reaches(t, w, 0, 0)
	for _, n := range anyNumbers() {
		hasNot(t, w, n)
		lacks(t, w, n)
		above(t, w, n)
	}
}

func TestNew(t *testing.T) {
	a, b := window.New(), window.New()
	if a == nil || b == nil || a == b {
		t.Fatal("New answers none, or the same twice")
	}
	hasNothing(t, a)
	puts(t, a, data(1))
	puts(t, a, data(5))
	hasNothing(t, b)
	puts(t, b, other(1, 9)) // it is another one's number
	gets(t, a, data(1))
	gets(t, b, other(1, 9))
	reaches(t, a, 1, 5)
	reaches(t, b, 1, 1)
	hasNothing(t, window.New())
}

func TestNone(t *testing.T) {
	var none *window.Window
	for _, w := range []*window.Window{none, {}, new(window.Window)} {
		for range 2 {
			refuses(t, w, api.ErrNil, data(1))
			for _, d := range wrongs(1) {
				refuses(t, w, api.ErrNil, d)
			}
			for _, n := range anyNumbers() {
				sees(t, w, n, api.ErrNil)
			}
			hasNothing(t, w)
		}
	}
}

func TestPutOfTheFirstAndTheLastNumber(t *testing.T) {
	for _, seqs := range [][]int{{1, most}, {most, 1}} {
		w := filledBy(t, seqs...)
		gets(t, w, data(1))
		gets(t, w, data(most))
		hasNot(t, w, 2)
		hasNot(t, w, most-1)
		reaches(t, w, 1, most)
		lacks(t, w, ask, row(2, 17)...)
		above(t, w, 0, several(1, most)...)
		above(t, w, most-1, data(most))
		above(t, w, most)
	}
	w := filledBy(t, most)
	reaches(t, w, 0, most)
	lacks(t, w, ask, row(1, 16)...)
}

func TestPutOfANumberThatIsThere(t *testing.T) { // whatever else the data are
	w := filledBy(t, 1, 2, 4, most)
	for _, seq := range []int{1, 2, 4, most} {
		again := []api.Data{
			data(seq), other(seq, 5), {Seq: seq},
			with(data(seq), func(d *api.Data) { d.Ring = api.RingId{Seq: 8, Rep: 3} }),
			with(data(seq), func(d *api.Data) { d.Sender++ }),
			with(data(seq), func(d *api.Data) { d.Stamp++ }),
			with(data(seq), func(d *api.Data) { d.Message.Body = nil }),
			with(data(seq), func(d *api.Data) { d.Message.Safe = !d.Message.Safe }),
		}
		for _, d := range again {
			stays(t, w, d)
			gets(t, w, data(seq))
		}
	}
	above(t, w, 0, several(1, 2, 4, most)...)
	reaches(t, w, 2, most)
	lacks(t, w, 3, 3, 5, 6)
}

func TestPutOfDataWithoutAnything(t *testing.T) { // they are there as well as others
	w := window.New()
	puts(t, w, api.Data{Seq: 1})
	stays(t, w, data(1))
	gets(t, w, api.Data{Seq: 1})
	reaches(t, w, 1, 1)
	above(t, w, 0, api.Data{Seq: 1})
}

func TestPutOfEachRingThatMayBe(t *testing.T) { // those of other data do not matter
	w := window.New()
	seq := 0
	for _, r := range []api.RingId{{}, {Seq: 1, Rep: 1}, {Seq: 1, Rep: 8}, {Seq: most, Rep: 1}, {Seq: most, Rep: 8}, {Seq: 300, Rep: 4}} {
		seq++
		d := with(data(seq), func(d *api.Data) { d.Ring = r })
		puts(t, w, d)
		gets(t, w, d)
		reaches(t, w, seq, seq)
	}
}

func TestPutAsksNothingElse(t *testing.T) { // neither of the sender, nor of the stamp, nor of the message
	w := window.New()
	seq := 0
	for _, n := range anyNumbers() {
		seq++
		m := api.Message{Kind: n, Origin: n, Life: n, Id: n, Part: n, Parts: n, Groups: n, From: api.Key{Stamp: n, Ring: api.RingId{Seq: n, Rep: n}, Seq: n}, Body: filled(300, seq)}
		d := api.Data{Ring: api.RingId{Seq: 1, Rep: 1}, Seq: seq, Sender: n, Stamp: n, Message: m}
		puts(t, w, d)
		gets(t, w, d)
	}
	reaches(t, w, seq, seq)
}

func TestPutRefusesWhatMayNotBe(t *testing.T) {
	for _, have := range [][]int{nil, {1}, {2, 5}, {1, 2, 3, most}} {
		w := filledBy(t, have...)
		aru, high, gaps := w.Aru(), w.High(), w.Gaps(ask)
		for _, seq := range []int{1, 2, 7, most} { // some of these are there
			for _, d := range wrongs(seq) {
				refuses(t, w, api.ErrArg, d)
			}
			reaches(t, w, aru, high)
			lacks(t, w, ask, gaps...)
			above(t, w, math.MinInt, several(have...)...)
		}
		for _, n := range append(wrongNumbers(), 0) {
			hasNot(t, w, n)
		}
	}
}

func TestSee(t *testing.T) {
	w := window.New()
	sees(t, w, 0, api.OK)
	reaches(t, w, 0, 0)
	sees(t, w, 1, api.OK)
	reaches(t, w, 0, 1)
	for _, seq := range []int{5, 5, 4, 1, 0} {
		sees(t, w, seq, api.OK)
		reaches(t, w, 0, 5)
	}
	lacks(t, w, ask, 1, 2, 3, 4, 5)
	sees(t, w, most, api.OK)
	reaches(t, w, 0, most)
	sees(t, w, most-1, api.OK)
	reaches(t, w, 0, most)
	for seq := range 6 {
		hasNot(t, w, seq)
	}
	hasNot(t, w, most) // what is seen is not there
	above(t, w, math.MinInt)
}

func TestSeeRefuses(t *testing.T) {
	w := filledBy(t, 1, 4)
	for _, seq := range wrongNumbers() {
		sees(t, w, seq, api.ErrArg)
		sees(t, window.New(), seq, api.ErrArg)
		reaches(t, w, 1, 4)
		lacks(t, w, ask, 2, 3)
		above(t, w, 0, several(1, 4)...)
	}
}

func TestPutAndSeeRaiseTheSameNumber(t *testing.T) {
	w := window.New()
	sees(t, w, 9, api.OK)
	puts(t, w, data(4)) // less than what was seen
	reaches(t, w, 0, 9)
	puts(t, w, data(9))
	reaches(t, w, 0, 9)
	puts(t, w, data(12))
	reaches(t, w, 0, 12)
	sees(t, w, 11, api.OK)
	reaches(t, w, 0, 12)
	stays(t, w, data(4))
	reaches(t, w, 0, 12)
	sees(t, w, 13, api.OK)
	reaches(t, w, 0, 13)
	lacks(t, w, ask, 1, 2, 3, 5, 6, 7, 8, 10, 11, 13)
}

// P14.2

func TestGet(t *testing.T) {
	have := []int{1, 2, 5, 17, 1 << 32, most}
	w := filledBy(t, have...)
	for range 2 { // what is told stays
		for _, seq := range have {
			gets(t, w, data(seq))
		}
	}
	for _, n := range append(anyNumbers(), 4, 6, 16, 18, 1<<32-1) {
		if !slices.Contains(have, n) {
			hasNot(t, w, n)
		}
	}
}

func TestAruOfRisingFallingAndMixedNumbers(t *testing.T) {
	const last = 40
	w := window.New()
	for seq := 1; seq <= last; seq++ {
		puts(t, w, data(seq))
		reaches(t, w, seq, seq)
	}
	w = window.New()
	for seq := last; seq > 1; seq-- {
		puts(t, w, data(seq))
		reaches(t, w, 0, last)
	}
	puts(t, w, data(1))
	reaches(t, w, last, last)
	w = window.New()
	for seq := 2; seq <= last; seq += 2 {
		puts(t, w, data(seq))
		reaches(t, w, 0, seq)
	}
	for seq := 1; seq < last; seq += 2 {
		puts(t, w, data(seq))
		reaches(t, w, seq+1, last)
	}
}

func TestGapsBySizes(t *testing.T) {
	counts := []int{math.MinInt, -17, -1, 0, 1, 2, 3, 15, 16, 17, 18, 100, math.MaxInt}
	for _, c := range []struct {
		have []int
		seen int
		gaps []int // the first of them, more than 16 if there are as many
	}{
		{nil, 0, nil},
		{nil, 1, []int{1}},
		{nil, 15, row(1, 15)},
		{nil, 16, row(1, 16)},
		{nil, 17, row(1, 17)},
		{nil, most, row(1, 17)},
		{[]int{1}, 0, nil},
		{[]int{1}, 1, nil},
		{[]int{1}, 2, []int{2}},
		{[]int{2}, 0, []int{1}},
		{[]int{1, 2, 3}, 2, nil},
		{[]int{1, 2, 4}, 0, []int{3}},
		{[]int{1, 2, 4}, 7, []int{3, 5, 6, 7}}, // above the greatest that is there
		{[]int{1, 3, 5}, 5, []int{2, 4}},
		{row(1, 30), 46, row(31, 46)},
		{row(1, 30), 47, row(31, 47)},
		{row(5, 30), 50, append(row(1, 4), row(31, 43)...)},
		{row(18, 30), 0, row(1, 17)},
		{row(17, 30), 0, row(1, 16)},
		{row(17, 30), 31, append(row(1, 16), 31)},
		{[]int{most}, 0, row(1, 17)},
		{[]int{2, 4, 6, 8, 10, 12, 14, 16, 18, 20, 22, 24, 26, 28, 30, 32}, 40, []int{1, 3, 5, 7, 9, 11, 13, 15, 17, 19, 21, 23, 25, 27, 29, 31, 33}},
	} {
		w := filledBy(t, c.have...)
		sees(t, w, c.seen, api.OK)
		for _, count := range counts {
			lacks(t, w, count, c.gaps[:max(0, min(count, ask, len(c.gaps)))]...)
		}
	}
}

func TestAbove(t *testing.T) {
	for _, have := range [][]int{nil, {1}, {7}, {1, 2, 3}, {9, 4, 1, 6}, {most, 1}, {most, most - 1, 1 << 32, 3}, row(1, 100)} {
		w := filledBy(t, have...)
		sees(t, w, most, api.OK)
		asked := anyNumbers()
		for _, seq := range have {
			asked = append(asked, seq-1, seq, seq+1)
		}
		for _, seq := range asked {
			var want []int
			for _, n := range have {
				if n > seq {
					want = append(want, n)
				}
			}
			slices.Sort(want)
			above(t, w, seq, several(want...)...)
		}
	}
}

func TestAboveIsInOrderEachTime(t *testing.T) { // whatever order the map has
	seqs := rand.New(rand.NewSource(14)).Perm(200)
	w := window.New()
	for _, seq := range seqs {
		puts(t, w, data(10*seq+10))
	}
	for range 50 {
		l := w.Above(0)
		if len(l) != 200 || !slices.IsSortedFunc(l, func(a, b api.Data) int { return a.Seq - b.Seq }) {
			t.Fatal("not in order, or not all")
		}
	}
}

func TestAskingChangesNothing(t *testing.T) {
	w := filledBy(t, 1, 2, 5, 9)
	sees(t, w, 11, api.OK)
	for range 3 {
		for _, n := range anyNumbers() {
			w.Get(n)
			w.Gaps(n)
			w.Above(n)
		}
		reaches(t, w, 2, 11)
		lacks(t, w, ask, 3, 4, 6, 7, 8, 10, 11)
		above(t, w, 0, several(1, 2, 5, 9)...)
	}
}

// P14.3

// roomy answers data whose body has spare room, and all of that room.
func roomy(seq int) (api.Data, []byte) {
	room := append(bytes.Clone(data(seq).Message.Body), filled(20, seq)...)
	return with(data(seq), func(d *api.Data) { d.Message.Body = room[:len(d.Message.Body)] }), room
}

func TestPutOnlyReads(t *testing.T) {
	w := filledBy(t, 3)
	for _, seq := range []int{1, 2, 3, 4, 0, most + 1, 9} { // some of these are there, or refused
		d, room := roomy(seq)
		before := bytes.Clone(room)
		w.Put(d)
		got, _ := w.Get(seq)
		spoil(got.Message.Body)
		for _, x := range w.Above(0) {
			spoil(x.Message.Body)
			_ = append(x.Message.Body, 1, 2, 3)
		}
		w.Put(other(seq, 1))
		if !bytes.Equal(room, before) || !same(d, data(seq)) {
			t.Errorf("Put(%d) has written into what it was handed", seq)
		}
	}
}

func TestPutKeepsNothing(t *testing.T) {
	w := window.New()
	for seq := 1; seq <= 60; seq++ {
		d, room := roomy(seq)
		puts(t, w, d)
		stays(t, w, d)
		spoil(room)
		gets(t, w, data(seq))
	}
	above(t, w, 0, several(row(1, 60)...)...)
}

func TestWhatIsAnsweredIsNewMemory(t *testing.T) {
	w := filledBy(t, 1, 2, 5, 48)
	sees(t, w, 60, api.OK)
	for range 3 {
		for _, seq := range []int{1, 2, 5, 48} {
			d, _ := w.Get(seq)
			spoil(d.Message.Body)
			_ = append(d.Message.Body, 1, 2, 3)
			gets(t, w, data(seq))
		}
		l := w.Above(0)
		for i := range l[:cap(l)] {
			l[:cap(l)][i] = api.Data{Seq: 77}
		}
		for _, d := range w.Above(1) {
			spoil(d.Message.Body)
			_ = append(d.Message.Body, 1, 2, 3)
		}
		gaps := w.Gaps(5)
		for i := range gaps[:cap(gaps)] {
			gaps[:cap(gaps)][i] = 77
		}
		above(t, w, 0, several(1, 2, 5, 48)...)
		lacks(t, w, 5, 3, 4, 6, 7, 8)
		reaches(t, w, 2, 60)
	}
}

func TestAnswersShareNoMemory(t *testing.T) { // though one body was handed in for several
	body := filled(30, 5)
	w := window.New()
	for seq := 1; seq <= 4; seq++ {
		puts(t, w, api.Data{Seq: seq, Message: api.Message{Body: body}})
	}
	l := w.Above(0)
	for i, d := range l {
		for k, x := range l[i:] {
			if !bytes.Equal(x.Message.Body, body) {
				t.Errorf("%d: %d behind it has changed", i, k)
			}
		}
		spoil(d.Message.Body)
	}
	if !bytes.Equal(body, filled(30, 5)) {
		t.Error("what was handed in is answered")
	}
}

func TestWhatIsNewStaysWithItsAnswer(t *testing.T) { // what was told is not changed by later calls
	w := filledBy(t, 2, 4)
	sees(t, w, 6, api.OK)
	d, _ := w.Get(4)
	l, gaps := w.Above(0), w.Gaps(9)
	for _, seq := range []int{1, 3, 5, 8} {
		puts(t, w, data(seq))
	}
	w.Gaps(9)
	w.Above(0)
	if !same(d, data(4)) || !slices.EqualFunc(l, several(2, 4), same) || !slices.Equal(gaps, []int{1, 3, 5, 6}) {
		t.Error(d, l, gaps)
	}
}

func TestWhatIsHandedInIsNotKept(t *testing.T) { // not even that it can be let go of
	w := filledBy(t, 2)
	var handed []weak.Pointer[byte]
	for _, seq := range []int{1, 2, 3, 0} {
		body := filled(48, seq)
		handed = append(handed, weak.Make(&body[0]))
		w.Put(with(data(seq), func(d *api.Data) { d.Message.Body = body }))
	}
	runtime.GC()
	for i, p := range handed {
		if p.Value() != nil {
			t.Errorf("the body %d is kept", i)
		}
	}
	reaches(t, w, 3, 3)
}

// P14.4

// follows asks what holds of each window.
func follows(t testing.TB, w *window.Window) {
	t.Helper()
	gaps := w.Gaps(ask)
	if (w.Aru() == w.High()) != (len(gaps) == 0) || w.Aru() > w.High() {
		t.Fatalf("Aru %d, High %d, gaps %v", w.Aru(), w.High(), gaps)
	}
	if len(gaps) > 0 && (gaps[0] != w.Aru()+1 || !slices.IsSorted(gaps) || gaps[len(gaps)-1] > w.High()) {
		t.Fatalf("Aru %d, High %d, gaps %v", w.Aru(), w.High(), gaps)
	}
}

// alike asks that two windows tell the same.
func alike(t testing.TB, a, b *window.Window, upTo int) {
	t.Helper()
	reaches(t, a, b.Aru(), b.High())
	lacks(t, a, ask, b.Gaps(ask)...)
	above(t, a, math.MinInt, b.Above(math.MinInt)...)
	for seq := range upTo + 2 {
		x, in := a.Get(seq)
		y, too := b.Get(seq)
		if in != too || !same(x, y) {
			t.Fatalf("Get(%d): %+v, %v, want %+v, %v", seq, x, in, y, too)
		}
	}
}

func TestEveryOrderOfFewData(t *testing.T) { // of each of the sets of 1 to 6
	for set := range 1 << 6 {
		var l []int
		for i := range 6 {
			if set>>i&1 != 0 {
				l = append(l, i+1)
			}
		}
		first := filledBy(t, l...)
		for _, o := range orders(l) {
			w := window.New()
			aru := 0
			for _, seq := range o {
				puts(t, w, data(seq))
				follows(t, w)
				if w.Aru() < aru {
					t.Fatalf("%v: Aru falls from %d to %d", o, aru, w.Aru())
				}
				aru = w.Aru()
			}
			alike(t, w, first, 6)
		}
	}
}

func TestAnyOrderOfManyData(t *testing.T) {
	r := rand.New(rand.NewSource(144))
	for range 60 {
		var l []int
		for seq := 1; seq <= 60; seq++ {
			if r.Intn(10) > 0 {
				l = append(l, seq)
			}
		}
		l = append(l, 1<<40, most)
		first := filledBy(t, l...)
		r.Shuffle(len(l), func(i, k int) { l[i], l[k] = l[k], l[i] })
		w := window.New()
		for _, seq := range l {
			sees(t, w, l[r.Intn(len(l))], api.OK) // what comes anyway may be seen ahead of it
			puts(t, w, data(seq))
			stays(t, w, other(seq, 3))
			follows(t, w)
		}
		alike(t, w, first, 61)
	}
}

func TestWhatIsRefusedChangesNothing(t *testing.T) { // of two that are alike one is handed things that are refused
	r := rand.New(rand.NewSource(14))
	for range 30 {
		a, b := window.New(), window.New()
		for range 60 {
			seq := 1 + r.Intn(50)
			bad := wrongs(1 + r.Intn(50))
			for range 5 {
				refuses(t, b, api.ErrArg, bad[r.Intn(len(bad))])
			}
			sees(t, b, wrongNumbers()[r.Intn(len(wrongNumbers()))], api.ErrArg)
			if r.Intn(4) == 0 {
				sees(t, a, seq, api.OK)
				sees(t, b, seq, api.OK)
			} else {
				fresh, e := a.Put(data(seq))
				if again, f := b.Put(data(seq)); again != fresh || e != f {
					t.Fatalf("Put(%d): %v, %d, want %v, %d", seq, again, f, fresh, e)
				}
				stays(t, b, other(seq, 7))
			}
			alike(t, b, a, 50)
		}
	}
}

func TestManyData(t *testing.T) { // as they come, none of them makes what is asked slow
	const last = 50000
	w := window.New()
	for seq := 1; seq <= last; seq++ {
		puts(t, w, api.Data{Seq: seq})
		if w.Aru() != seq || w.High() != seq || len(w.Gaps(ask)) != 0 {
			t.Fatal(seq, w.Aru(), w.High(), w.Gaps(ask))
		}
	}
	if l := w.Above(last - 3); len(l) != 3 || l[0].Seq != last-2 {
		t.Error(l)
	}
	if l := w.Above(0); len(l) != last || l[last-1].Seq != last {
		t.Error(len(l))
	}
}

// The chapter's words, once more: what is there is a list, in the order in which it came.

type both struct {
	w    *window.Window
	list []api.Data
	seen int
	aru  int // as it was told last
}

func newBoth() *both { return &both{w: window.New()} }

func (b *both) find(seq int) (api.Data, bool) {
	for _, d := range b.list {
		if d.Seq == seq {
			return d, true
		}
	}
	return api.Data{}, false
}

func (b *both) mayBe(d api.Data) bool {
	r := d.Ring
	return (r == api.RingId{} || r.Seq > 0 && r.Seq <= most && r.Rep > 0 && r.Rep <= 8) && d.Seq > 0 && d.Seq <= most
}

// put asks both, and tells what was wrong.
func (b *both) put(d api.Data) string {
	_, there := b.find(d.Seq)
	want := api.OK
	if !b.mayBe(d) {
		want = api.ErrArg
	}
	isNew := want == api.OK && !there
	if isNew {
		b.list = append(b.list, d)
		b.seen = max(b.seen, d.Seq)
	}
	if fresh, e := b.w.Put(d); fresh != isNew || e != want {
		return fmt.Sprintf("Put(%d): %v, %d, want %v, %d", d.Seq, fresh, e, isNew, want)
	}
	return b.holds()
}

func (b *both) see(seq int) string {
	want := api.OK
	if seq < 0 || seq > most {
		want = api.ErrArg
	} else {
		b.seen = max(b.seen, seq)
	}
	if e := b.w.See(seq); e != want {
		return fmt.Sprintf("See(%d): %d, want %d", seq, e, want)
	}
	return b.holds()
}

// ask holds what is told of a number against the list.
func (b *both) ask(seq int) string {
	d, ok := b.find(seq)
	if got, in := b.w.Get(seq); in != ok || !same(got, d) {
		return fmt.Sprintf("Get(%d): %+v, %v, want %+v, %v", seq, got, in, d, ok)
	}
	var above []api.Data
	for _, d := range b.list {
		if d.Seq > seq {
			above = append(above, d)
		}
	}
	slices.SortFunc(above, func(x, y api.Data) int { return x.Seq - y.Seq })
	if got := b.w.Above(seq); !slices.EqualFunc(got, above, same) {
		return fmt.Sprintf("Above(%d): %+v, want %+v", seq, got, above)
	}
	var gaps []int
	for n := 1; n <= b.seen && len(gaps) < ask && len(gaps) < seq; n++ {
		if _, ok := b.find(n); !ok {
			gaps = append(gaps, n)
		}
	}
	if got := b.w.Gaps(seq); !slices.Equal(got, gaps) {
		return fmt.Sprintf("Gaps(%d): %v, want %v", seq, got, gaps)
	}
	return b.holds()
}

func (b *both) holds() string {
	aru := 0
	for _, ok := b.find(1); ok; _, ok = b.find(aru + 1) {
		aru++
	}
	if b.w.Aru() != aru || b.w.High() != b.seen || aru < b.aru {
		return fmt.Sprintf("Aru %d, High %d, want %d, %d; Aru was %d", b.w.Aru(), b.w.High(), aru, b.seen, b.aru)
	}
	b.aru = aru
	return ""
}

func TestEveryShortRow(t *testing.T) {
	var turns []func(b *both) string
	for _, seq := range []int{0, 1, 2, 3, 5} {
		turns = append(turns, func(b *both) string { return b.put(data(seq)) })
	}
	turns = append(turns,
		func(b *both) string { return b.put(other(2, 8)) },
		func(b *both) string { return b.put(with(data(1), func(d *api.Data) { d.Ring.Rep = 9 })) },
		func(b *both) string { return b.see(-1) },
		func(b *both) string { return b.see(1) },
		func(b *both) string { return b.see(4) },
	)
	const length = 5
	rows := 1
	for range length {
		rows *= len(turns)
	}
	for row := range rows {
		b := newBoth()
		for i, left := 0, row; i < length; i, left = i+1, left/len(turns) {
			if bad := turns[left%len(turns)](b); bad != "" {
				t.Fatalf("row %d, turn %d: %s", row, i, bad)
			}
		}
		for seq := -1; seq < 7; seq++ {
			if bad := b.ask(seq); bad != "" {
				t.Fatalf("row %d: %s", row, bad)
			}
		}
	}
}

func TestLongRows(t *testing.T) {
	r := rand.New(rand.NewSource(1414))
	for row := range 100 {
		b := newBoth()
		spread, base := 1+r.Intn(80), []int{0, 0, 0, most - 90, 1 << 32}[r.Intn(5)]
		for i := range 200 {
			seq := base + r.Intn(spread)
			if r.Intn(10) == 0 {
				seq = anyNumbers()[r.Intn(len(anyNumbers()))]
			}
			say := ""
			switch r.Intn(8) {
			case 0:
				say = b.see(seq)
			case 1:
				say = b.ask(seq)
			case 2:
				say = b.put(wrongs(seq)[r.Intn(len(wrongs(seq)))])
			default:
				say = b.put(other(seq, i))
			}
			if say != "" {
				t.Fatalf("row %d, turn %d: %s", row, i, say)
			}
		}
	}
}

func FuzzCalls(f *testing.F) {
	f.Add([]byte{2, 2, 0, 68, 129, 129, 1, 130})
	f.Add([]byte{40, 39, 1, 3, 5, 2, 4, 120, 150, 192, 200})
	f.Add([]byte{70, 71, 72, 135, 136, 144, 160, 190, 255})
	f.Fuzz(func(t *testing.T, calls []byte) {
		b := newBoth()
		for i, c := range calls {
			seq := int(c % 64)
			if seq >= 48 {
				seq = anyNumbers()[(seq-48+i)%len(anyNumbers())]
			}
			say := ""
			switch c / 64 {
			case 0:
				say = b.put(other(seq, i))
			case 1:
				say = b.see(seq)
			case 2:
				say = b.ask(seq)
			default:
				say = b.put(wrongs(seq)[(i+int(c))%len(wrongs(seq))])
			}
			if say != "" {
				t.Fatalf("call %d: %s", i, say)
			}
		}
	})
}
