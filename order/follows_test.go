package order_test

import (
	"fmt"
	"math/rand"
	"slices"
	"testing"

	"hauberk/api"
	"hauberk/order"
	"hauberk/window"
)

// P17.3

// watch is an order with its window, and all that it has delivered.
type watch struct {
	o    *order.Order
	w    *window.Window
	told []int
}

func newWatch() *watch { return &watch{o: order.New(), w: window.New()} }

// last answers the greatest number that was delivered.
func (x *watch) last() int {
	if len(x.told) == 0 {
		return 0
	}
	return x.told[len(x.told)-1]
}

// passed tells whether all from one number to another one are there, and were sent again.
func (x *watch) passed(from, to int) bool {
	for seq := from; seq <= to; seq++ {
		if d, ok := x.w.Get(seq); !ok || d.Message.Kind != old {
			return false
		}
	}
	return true
}

// ask asks for what comes next, and tells what is wrong with it.
func (x *watch) ask(safe int) string {
	l, e := x.o.Next(x.w, safe)
	if e != api.OK {
		return fmt.Sprintf("Next(%d): %d", safe, e)
	}
	for _, d := range l {
		in, ok := x.w.Get(d.Seq)
		switch {
		case !ok || !same(d, in):
			return fmt.Sprintf("Next(%d): %d is not what is there", safe, d.Seq)
		case d.Message.Kind == old:
			return fmt.Sprintf("Next(%d): %d was sent again", safe, d.Seq)
		case d.Seq <= x.last():
			return fmt.Sprintf("Next(%d): %d comes behind %d", safe, d.Seq, x.last())
		case !x.passed(x.last()+1, d.Seq-1):
			return fmt.Sprintf("Next(%d): something is left out between %d and %d", safe, x.last(), d.Seq)
		case d.Message.Safe && d.Seq > safe:
			return fmt.Sprintf("Next(%d): %d comes ahead of its time", safe, d.Seq)
		}
		x.told = append(x.told, d.Seq)
	}
	return x.isAll(safe)
}

// isAll tells what is wrong with how far it has come.
func (x *watch) isAll(safe int) string {
	done := x.o.Done()
	if done < x.last() || !x.passed(x.last()+1, done) {
		return fmt.Sprintf("Next(%d): Done is %d behind %d", safe, done, x.last())
	}
	if d, ok := x.w.Get(done + 1); ok && (d.Message.Kind == old || !d.Message.Safe || d.Seq <= safe) {
		return fmt.Sprintf("Next(%d): %d can come, and does not", safe, d.Seq)
	}
	return ""
}

// asks fails, if something is wrong with what comes next.
func (x *watch) asks(t testing.TB, safe int) {
	t.Helper()
	if bad := x.ask(safe); bad != "" {
		t.Fatalf("%s; in all: %v", bad, x.told)
	}
}

// arrivals answers the numbers of which the row has data, in each order.
func arrivals(r row) [][]int {
	var there []int
	for i, f := range r {
		if f != absent {
			there = append(there, i+1)
		}
	}
	return permuted(there)
}

func permuted(l []int) [][]int {
	if len(l) == 0 {
		return [][]int{nil}
	}
	var all [][]int
	for i, first := range l {
		rest := slices.Delete(slices.Clone(l), i, i+1)
		for _, tail := range permuted(rest) {
			all = append(all, append([]int{first}, tail...))
		}
	}
	return all
}

func TestEveryRowByWords(t *testing.T) {
	rows(5, func(r row) {
		w := r.window(t)
		for first := -1; first <= 6; first++ {
			for second := -1; second <= 6; second++ {
				o := order.New()
				told, done := r.next(0, first)
				tells(t, o, w, first, r.list(told...)...)
				isDone(t, o, done)
				told, done = r.next(done, second)
				tells(t, o, w, second, r.list(told...)...)
				isDone(t, o, done)
			}
		}
	})
}

func TestEveryOrderInWhichFewDataCome(t *testing.T) {
	rows(4, func(r row) {
		for _, seqs := range arrivals(r) {
			for safe := range 5 {
				fixed, rising, falling := newWatch(), newWatch(), newWatch()
				for i, seq := range seqs {
					d := data(seq, r[seq-1])
					for _, x := range []*watch{fixed, rising, falling} {
						puts(t, x.w, d)
					}
					fixed.asks(t, safe)
					rising.asks(t, i)
					falling.asks(t, 4-i)
				}
			}
		}
	})
}

func TestHowOftenItIsAskedIsTheSame(t *testing.T) { // and in which order data come
	r := rand.New(rand.NewSource(17))
	rows(5, func(forms row) {
		seqs := arrivals(forms)[0]
		r.Shuffle(len(seqs), func(i, k int) { seqs[i], seqs[k] = seqs[k], seqs[i] })
		safe := r.Intn(7)
		often, now := newWatch(), 0
		for _, seq := range seqs {
			puts(t, often.w, data(seq, forms[seq-1]))
			for range r.Intn(3) {
				often.asks(t, now)
				now = min(safe, now+r.Intn(2))
			}
		}
		often.asks(t, safe)
		told, done := forms.next(0, safe)
		if !slices.Equal(often.told, told) {
			t.Fatalf("%v come as %v, safe %d: %v, want %v", forms, seqs, safe, often.told, told)
		}
		isDone(t, often.o, done)
	})
}

func TestAGreaterSafeNeverComesToLess(t *testing.T) {
	rows(5, func(r row) {
		w := r.window(t)
		var less []int
		far := 0
		for _, safe := range []int{least, -1, 0, 1, 2, 3, 4, 5, 6, most, greatest} {
			o := order.New()
			l, e := o.Next(w, safe)
			more := numbers(l)
			if e != api.OK || len(more) < len(less) || !slices.Equal(more[:len(less)], less) || o.Done() < far {
				t.Fatalf("%v: Next(%d): %v, %d, Done %d, behind %v, Done %d", r, safe, more, e, o.Done(), less, far)
			}
			less, far = more, o.Done()
		}
		if told, done := r.next(0, greatest); !slices.Equal(less, told) || far != done {
			t.Fatalf("%v: %v, Done %d, want %v, %d", r, less, far, told, done)
		}
	})
}

func TestAGreaterSafeInARowNeverComesToLess(t *testing.T) { // what was asked before may be any
	r := rand.New(rand.NewSource(173))
	for range 300 {
		a, b := newWatch(), newWatch()
		for range 60 {
			d := data(1+r.Intn(30), plain+form(r.Intn(4)))
			a.w.Put(d)
			b.w.Put(d)
			safe := r.Intn(32)
			a.asks(t, safe)
			b.asks(t, safe+r.Intn(3))
			if b.o.Done() < a.o.Done() || len(b.told) < len(a.told) || !slices.Equal(b.told[:len(a.told)], a.told) {
				t.Fatalf("%v, Done %d; with a greater safe: %v, Done %d", a.told, a.o.Done(), b.told, b.o.Done())
			}
		}
	}
}

func TestLongRows(t *testing.T) {
	r := rand.New(rand.NewSource(1717))
	for range 200 {
		x := newWatch()
		spread := 1 + r.Intn(80)
		for i := range 300 {
			x.w.Put(data(1+(i*spread/300+r.Intn(spread))%100, plain+form(r.Intn(4)))) // many are there already
			switch r.Intn(6) {
			case 0:
				x.asks(t, anyNumbers()[r.Intn(len(anyNumbers()))])
			case 1, 2:
				x.asks(t, r.Intn(100))
			case 3:
				if l, e := x.o.Next(nil, greatest); len(l) != 0 || e != api.ErrNil {
					t.Fatal(numbers(l), e)
				}
			}
		}
		x.asks(t, greatest)
	}
}

func TestWhatIsRefusedChangesNothing(t *testing.T) { // of two that are alike one is asked for what is refused
	r := rand.New(rand.NewSource(71))
	for range 50 {
		a, b := newWatch(), newWatch()
		for range 60 {
			d, safe := data(1+r.Intn(40), plain+form(r.Intn(4))), r.Intn(42)
			a.w.Put(d)
			b.w.Put(d)
			for _, none := range noWindows() {
				refuses(t, b.o, none, safe)
			}
			a.asks(t, safe)
			b.asks(t, safe)
			if a.o.Done() != b.o.Done() || !slices.Equal(a.told, b.told) {
				t.Fatalf("%v, Done %d, want %v, %d", b.told, b.o.Done(), a.told, a.o.Done())
			}
		}
	}
}

func TestManyData(t *testing.T) { // what was delivered does not make what comes slow
	const last = 50000
	w, o := window.New(), order.New()
	for seq := 1; seq <= last; seq++ {
		puts(t, w, api.Data{Seq: seq, Message: api.Message{Safe: seq%2 == 0}})
		if l, e := o.Next(w, seq); e != api.OK || len(l) != 1 || l[0].Seq != seq || o.Done() != seq {
			t.Fatal(seq, numbers(l), e, o.Done())
		}
	}
	if l, e := order.New().Next(w, last); e != api.OK || len(l) != last || l[last-1].Seq != last {
		t.Error(len(l), e)
	}
}

func FuzzCalls(f *testing.F) {
	f.Add([]byte{1, 34, 67, 5, 128, 128, 130, 4, 128})
	f.Add([]byte{40, 7, 200, 2, 1, 129, 255, 98, 35, 3, 4, 190})
	f.Add([]byte{33, 34, 35, 129, 131, 97, 98, 99, 192, 250})
	f.Fuzz(func(t *testing.T, calls []byte) {
		x := newWatch()
		have := row(slices.Repeat([]form{absent}, 32))
		for _, c := range calls {
			at := int(c % 32)
			if c < 128 {
				if have[at] == absent {
					have[at] = plain + form(c/32)
				}
				x.w.Put(data(at+1, plain+form(c/32)))
				continue
			}
			safe := at
			if c >= 192 {
				safe = anyNumbers()[int(c)%len(anyNumbers())]
			}
			told, done := have.next(x.o.Done(), safe)
			before := len(x.told)
			x.asks(t, safe)
			if !slices.Equal(x.told[before:], told) || x.o.Done() != done {
				t.Fatalf("Next(%d): %v, Done %d, want %v, %d", safe, x.told[before:], x.o.Done(), told, done)
			}
		}
	})
}
