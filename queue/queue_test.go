package queue_test

import (
	"bytes"
	"fmt"
	"math"
	"math/rand"
	"runtime"
	"slices"
	"testing"
	"weak"

	"hauberk/api"
	"hauberk/queue"
)

const (
	most = 1<<53 - 1
	size = 32 // of a queue
)

// text answers a client's message, another one for each id.
func text(id int) api.Message {
	return api.Message{Kind: 1, Origin: 1 + id%8, Life: 1 + id, Id: id, Part: id % 2, Parts: 2, Groups: 1 + id%255, Safe: id%3 == 0, Body: filled(id%49, id)}
}

// texts answers so many, whose ids rise.
func texts(from, count int) []api.Message {
	var l []api.Message
	for i := range count {
		l = append(l, text(from+i))
	}
	return l
}

// with answers m as change leaves it.
func with(m api.Message, change func(m *api.Message)) api.Message {
	m.Body = bytes.Clone(m.Body)
	change(&m)
	return m
}

// clone answers l in memory of its own.
func clone(l []api.Message) []api.Message {
	out := slices.Clone(l)
	for i := range out {
		out[i].Body = bytes.Clone(out[i].Body)
	}
	return out
}

// filled answers so many bytes; salt makes them others.
func filled(size, salt int) []byte {
	b := make([]byte, size)
	for i := range b {
		b[i] = byte(i*7 + salt*31)
	}
	return b
}

// same holds messages against each other; a body without bytes may be nil or not.
func same(a, b api.Message) bool {
	return bytes.Equal(a.Body, b.Body) && a.Kind == b.Kind && a.Origin == b.Origin && a.Life == b.Life && a.Id == b.Id &&
		a.Part == b.Part && a.Parts == b.Parts && a.Groups == b.Groups && a.Safe == b.Safe && a.From == b.From
}

// spoil writes over b and its spare room.
func spoil(b []byte) {
	b = b[:cap(b)]
	for i := range b {
		b[i] ^= 0xFF
	}
}

func isZero(m api.Message) bool { return m.Body == nil && same(m, api.Message{}) }

// has asks how many there are, and how many more have room.
func has(t testing.TB, q *queue.Queue, count int) {
	t.Helper()
	if q.Len() != count || q.Room() != size-count {
		t.Fatalf("Len %d, Room %d, want %d, %d", q.Len(), q.Room(), count, size-count)
	}
}

func puts(t testing.TB, q *queue.Queue, l ...api.Message) {
	t.Helper()
	if e := q.Put(l...); e != api.OK {
		t.Fatalf("Put of %d: %d", len(l), e)
	}
}

// refuses puts l in, and asks that it is not taken.
func refuses(t testing.TB, q *queue.Queue, want api.Errno, l ...api.Message) {
	t.Helper()
	count := q.Len()
	if e := q.Put(l...); e != want {
		t.Fatalf("Put of %d: %d, want %d", len(l), e, want)
	}
	has(t, q, count)
}

// takes asks that these come out next.
func takes(t testing.TB, q *queue.Queue, l ...api.Message) {
	t.Helper()
	for i, want := range l {
		if m, e := q.Take(); !same(m, want) || e != api.OK {
			t.Fatalf("Take %d: %+v, %d, want %+v", i, m, e, want)
		}
	}
}

// isEmpty asks that nothing comes out any more, however often it is asked for.
func isEmpty(t testing.TB, q *queue.Queue) {
	t.Helper()
	for range 3 {
		if m, e := q.Take(); !isZero(m) || e != api.ErrEmpty {
			t.Fatalf("Take: %+v, %d, want ErrEmpty", m, e)
		}
		has(t, q, 0)
	}
}

// at answers a queue of so many texts, from the id 0 on, so many messages after it was new.
func at(t testing.TB, past, count int) *queue.Queue {
	t.Helper()
	q := queue.New()
	for i := range past {
		puts(t, q, text(900+i))
		takes(t, q, text(900+i))
	}
	puts(t, q, texts(0, count)...)
	return q
}

// wrongNumbers are none that go over the wire.
func wrongNumbers() []int {
	return []int{-1, -2, -most, math.MinInt, most + 1, most + 2, 1 << 62, math.MaxInt}
}

// kinds answers messages of each kind that may be, at the edges of what they have.
func kinds() []api.Message {
	key := api.Key{Stamp: 5, Ring: api.RingId{Seq: 2, Rep: 1}, Seq: 7}
	last := api.Key{Stamp: most, Ring: api.RingId{Seq: most, Rep: 8}, Seq: most}
	inner := append([]byte{1, 1, 1, 1, 0, 1, 3, 0, 0, 0, 0, 0, 48}, filled(48, 9)...)
	return []api.Message{
		{Kind: 1, Origin: 1, Life: 1, Parts: 1, Groups: 1},
		{Kind: 1, Origin: 8, Life: most, Id: most, Part: 4, Parts: 5, Groups: 255, Safe: true, From: last, Body: filled(48, 3)},
		{Kind: 1, Origin: 4, Life: 2, Id: 3, Part: 1, Parts: 2, Groups: 128, From: key, Body: []byte{}},
		{Kind: 2, Origin: 1},
		{Kind: 2, Origin: 2, From: key},
		{Kind: 2, Origin: 8, From: last, Body: []byte{}},
		{Kind: 3, Origin: 1},
		{Kind: 3, Origin: 8},
		{Kind: 4, Origin: 1, Body: []byte{0}},
		{Kind: 4, Origin: 8, From: last, Body: []byte{4, 0, 3, 2, 6, 1, 1, 1, 2, 2, 1, 4, 16, 3, 1, 8, 0xFE, 0x03}},
		{Kind: 5, Origin: 1, Id: 1, From: key, Body: []byte{3, 1, 0, 0, 0, 0, 0, 0, 0, 0, 0, 0, 0}},
		{Kind: 5, Origin: 2, Id: 8, From: last, Body: inner},
	}
}

// wrongs answers messages that may not be.
func wrongs() []api.Message {
	list := []api.Message{{}}
	for _, m := range kinds() {
		add := func(change func(m *api.Message)) { list = append(list, with(m, change)) }
		for _, kind := range []int{0, 6, -1, 1 << 32, 1<<32 + 1, math.MaxInt, math.MinInt} {
			add(func(m *api.Message) { m.Kind = kind })
		}
		for _, origin := range []int{0, 9, -1, 1<<32 + 1, math.MaxInt, math.MinInt} {
			add(func(m *api.Message) { m.Origin = origin })
		}
		for _, n := range wrongNumbers() {
			add(func(m *api.Message) { m.Life = n })
			add(func(m *api.Message) { m.Id = n })
			add(func(m *api.Message) { m.From.Stamp = n })
			add(func(m *api.Message) { m.From.Ring.Seq = n })
			add(func(m *api.Message) { m.From.Seq = n })
		}
		add(func(m *api.Message) { m.Groups = 256 })
		add(func(m *api.Message) { m.Groups = -1 })
		add(func(m *api.Message) { m.Parts = 6 })
		add(func(m *api.Message) { m.Part = m.Parts + 1 })
		add(func(m *api.Message) { m.Body = filled(160, 1) })
		add(func(m *api.Message) { m.Body = filled(161, 1) }) // parcel.Check says ErrLimit of it, and Put ErrArg
		add(func(m *api.Message) { m.Body = filled(300, 1) })
		if m.Kind == 1 {
			add(func(m *api.Message) { m.Groups = 0 })
			add(func(m *api.Message) { m.Life = 0 })
			add(func(m *api.Message) { m.Parts = 0 })
			add(func(m *api.Message) { m.Body = filled(49, 1) })
			continue
		}
		add(func(m *api.Message) { m.Safe = true })
		add(func(m *api.Message) { m.Groups = 1 })
		add(func(m *api.Message) { m.Life = 1 })
		add(func(m *api.Message) { m.Body = []byte{9} })
	}
	key := api.Key{Stamp: 5, Ring: api.RingId{Seq: 2, Rep: 1}, Seq: 7}
	return append(list, api.Message{Kind: 3, Origin: 1, From: key}, api.Message{Kind: 5, Origin: 1, Id: 1, From: key}, api.Message{Kind: 4, Origin: 1})
}

// The chapter's examples

func TestExamples(t *testing.T) {
	q := queue.New()
	puts(t, q, texts(0, 2)...)
	puts(t, q)
	refuses(t, q, api.ErrFull, texts(2, 31)...)
	puts(t, q, texts(2, 30)...)
	if q.Len() != 32 || q.Room() != 0 {
		t.Error(q.Len(), q.Room())
	}
	takes(t, q, text(0))
	puts(t, q, text(32))
	refuses(t, q, api.ErrFull, text(33))
	takes(t, q, texts(1, 32)...)
	refuses(t, q, api.ErrArg, text(1), api.Message{})
	isEmpty(t, q)
}

func TestNumbersOfErrors(t *testing.T) {
	var none *queue.Queue
	_, e1 := none.Take()
	e2 := queue.New().Put(api.Message{})
	e7 := queue.New().Put(texts(0, 33)...)
	_, e8 := queue.New().Take()
	if e1 != 1 || e2 != 2 || e7 != 7 || e8 != 8 {
		t.Error(e1, e2, e7, e8)
	}
}

// P13.1

func TestNew(t *testing.T) {
	a, b := queue.New(), queue.New()
	if a == nil || b == nil || a == b {
		t.Fatal("New answers none, or the same twice")
	}
	isEmpty(t, a)
	puts(t, a, text(1), text(2))
	has(t, a, 2)
	isEmpty(t, b)
	puts(t, b, text(3))
	takes(t, a, text(1), text(2))
	isEmpty(t, a)
	takes(t, b, text(3))
	isEmpty(t, queue.New())
}

func TestNone(t *testing.T) {
	var none *queue.Queue
	lists := [][]api.Message{nil, {}, texts(0, 1), texts(0, 32), texts(0, 33), wrongs(), append(texts(0, 40), api.Message{}), kinds()}
	for i, q := range []*queue.Queue{none, {}, new(queue.Queue)} {
		for range 2 {
			for k, l := range lists {
				if e := q.Put(l...); e != api.ErrNil {
					t.Errorf("%d: Put of the list %d: %d", i, k, e)
				}
				if m, e := q.Take(); !isZero(m) || e != api.ErrNil {
					t.Errorf("%d: Take: %+v, %d", i, m, e)
				}
				if q.Len() != 0 || q.Room() != 0 {
					t.Errorf("%d: Len %d, Room %d", i, q.Len(), q.Room())
				}
			}
		}
	}
}

// P13.2

func TestPutOfNone(t *testing.T) {
	for _, count := range []int{0, 1, 31, 32} {
		q := at(t, 5, count)
		for _, l := range [][]api.Message{nil, {}, texts(7, 3)[:0]} {
			puts(t, q, l...)
			has(t, q, count)
		}
		puts(t, q)
		takes(t, q, texts(0, count)...)
		isEmpty(t, q)
	}
}

func TestPutOfSeveral(t *testing.T) {
	for count := range size + 1 {
		q := queue.New()
		puts(t, q, texts(3, count)...)
		has(t, q, count)
		takes(t, q, texts(3, count)...)
		isEmpty(t, q)
	}
}

func TestPutOfMoreThanAQueueHas(t *testing.T) {
	for _, count := range []int{33, 34, 40, 63, 64, 65, 96, 256, 288, 1000} {
		q := queue.New()
		refuses(t, q, api.ErrFull, texts(0, count)...)
		isEmpty(t, q)
		puts(t, q, text(5))
		refuses(t, q, api.ErrFull, texts(0, count)...)
		takes(t, q, text(5))
		isEmpty(t, q)
	}
}

func TestPutOfJustAsManyAsHaveRoomAndOneMore(t *testing.T) {
	for count := range size + 1 {
		for _, past := range []int{0, 1, 17, 31, 32, 50} {
			q := at(t, past, count)
			refuses(t, q, api.ErrFull, texts(count, size-count+1)...)
			puts(t, q, texts(count, size-count)...)
			has(t, q, size)
			refuses(t, q, api.ErrFull, text(7))
			takes(t, q, texts(0, size)...)
			isEmpty(t, q)
		}
	}
}

func TestPutBehindOthers(t *testing.T) {
	q := queue.New()
	next := 0
	for _, count := range []int{1, 1, 2, 3, 0, 5, 8, 12} {
		puts(t, q, texts(next, count)...)
		next += count
		has(t, q, next)
	}
	takes(t, q, texts(0, size)...)
	isEmpty(t, q)
}

func TestPutOfEachKind(t *testing.T) {
	q := queue.New()
	for range 10 {
		puts(t, q, kinds()...)
		for _, m := range kinds() {
			puts(t, q, m)
		}
		has(t, q, 2*len(kinds()))
		takes(t, q, kinds()...)
		takes(t, q, kinds()...)
		isEmpty(t, q)
	}
}

func TestPutRefusesEachThatMayNotBe(t *testing.T) {
	q := at(t, 30, 3)
	for _, m := range wrongs() {
		refuses(t, q, api.ErrArg, m)
		refuses(t, q, api.ErrArg, m, text(3))
		refuses(t, q, api.ErrArg, text(3), m)
	}
	takes(t, q, texts(0, 3)...)
	isEmpty(t, q)
}

func TestPutRefusesOneThatMayNotBeWhereverItIs(t *testing.T) { // and it is looked at ahead of how many have room
	for _, count := range []int{1, 2, 3, 31, 32, 33, 40} {
		for place := range count {
			for _, bad := range []api.Message{{}, with(text(1), func(m *api.Message) { m.Body = filled(161, 0) })} {
				l := texts(3, count)
				l[place] = bad
				for _, have := range []int{0, 3, 31, 32} {
					q := at(t, 9, have)
					refuses(t, q, api.ErrArg, l...)
					takes(t, q, texts(0, have)...)
					isEmpty(t, q)
				}
			}
		}
	}
}

// P13.3

func TestTakeUntilItIsEmpty(t *testing.T) {
	for _, past := range []int{0, 1, 31, 32, 33, 70} {
		q := at(t, past, size)
		for i := range size {
			has(t, q, size-i)
			takes(t, q, text(i))
		}
		isEmpty(t, q)
		puts(t, q, text(5)) // what was asked of an empty one left it as it was
		takes(t, q, text(5))
		isEmpty(t, q)
	}
}

func TestLenAndRoomOnlyTell(t *testing.T) {
	q := queue.New()
	for i := range size {
		for range 3 {
			has(t, q, i)
		}
		puts(t, q, text(i))
	}
	for range 3 {
		has(t, q, size)
	}
	takes(t, q, texts(0, size)...)
}

func TestTheSameMessageSeveralTimes(t *testing.T) {
	q := queue.New()
	puts(t, q, text(9), text(9))
	puts(t, q, text(9))
	has(t, q, 3)
	takes(t, q, text(9), text(9), text(9))
	isEmpty(t, q)
}

// P13.4

// roomy answers texts, the bodies and the list of which have spare room; the room itself, and what all of it is.
func roomy(count int) (l, room []api.Message) {
	room = texts(40, count+3)
	for i := range room {
		b := append(bytes.Clone(room[i].Body), filled(20, i)...)
		room[i].Body = b[:len(room[i].Body)]
	}
	return room[:count], room
}

// whole answers l with bodies that have their spare room in them.
func whole(l []api.Message) []api.Message {
	out := slices.Clone(l)
	for i := range out {
		out[i].Body = bytes.Clone(out[i].Body[:cap(out[i].Body)])
	}
	return out
}

func TestPutOnlyReads(t *testing.T) {
	for _, count := range []int{0, 1, 5, 31, 32, 33} { // the last one is refused, and so are those behind it
		for _, bad := range []bool{false, true} {
			l, room := roomy(count)
			if bad && count > 0 {
				l[count/2].Kind = 0
			}
			before := whole(room)
			q := at(t, 20, 0)
			q.Put(l...)
			for q.Len() > 0 {
				m, _ := q.Take()
				spoil(m.Body)
			}
			q.Put(texts(0, size)...)
			if !slices.EqualFunc(whole(room), before, same) {
				t.Errorf("Put of %d has written into what it was handed", count)
			}
		}
	}
}

func TestPutKeepsNothing(t *testing.T) {
	for _, past := range []int{0, 20} {
		for _, count := range []int{1, 5, 31, 32} {
			l, room := roomy(count)
			q := at(t, past, 0)
			puts(t, q, l...)
			for i := range room {
				spoil(room[i].Body)
				room[i] = api.Message{}
			}
			takes(t, q, texts(40, count)...)
		}
	}
}

func TestPutKeepsNoBodyOfAnyKind(t *testing.T) {
	l := clone(kinds())
	q := queue.New()
	puts(t, q, l...)
	for i := range l {
		spoil(l[i].Body)
	}
	takes(t, q, kinds()...)
}

func TestWhatIsAnsweredIsNewMemory(t *testing.T) {
	for _, past := range []int{0, 20} {
		handed := clone(texts(40, size))
		q := at(t, past, 0)
		puts(t, q, handed...)
		for i := range size {
			m, e := q.Take()
			if !same(m, text(40+i)) || e != api.OK {
				t.Fatalf("Take: %+v, %d, want %+v", m, e, text(40+i))
			}
			spoil(m.Body) // neither those that are left, nor what was handed in, may change by it
			_ = append(m.Body, 1, 2, 3)
		}
		if !slices.EqualFunc(handed, texts(40, size), same) {
			t.Error("what was handed in is answered")
		}
		puts(t, q, handed...)
		takes(t, q, texts(40, size)...)
	}
}

func TestOneBodyHandedInTwice(t *testing.T) { // the two that come out have memory of their own
	q := queue.New()
	m := text(48)
	puts(t, q, m, m)
	puts(t, q, m)
	for range 3 {
		got, e := q.Take()
		if !same(got, text(48)) || e != api.OK {
			t.Errorf("%+v, %d", got, e)
		}
		spoil(got.Body)
	}
	if !same(m, text(48)) {
		t.Errorf("%+v", m)
	}
}

func TestWhatWasTakenMayBePutInAgain(t *testing.T) {
	q := queue.New()
	puts(t, q, text(48))
	for range 70 {
		m, _ := q.Take()
		puts(t, q, m)
		spoil(m.Body)
	}
	takes(t, q, text(48))
}

// takeWeakly takes the next one out, and answers its body so that nobody is kept from letting it go.
func takeWeakly(q *queue.Queue) weak.Pointer[byte] {
	m, _ := q.Take()
	return weak.Make(&m.Body[0])
}

func TestWhatIsGoneIsNotKept(t *testing.T) {
	q := queue.New()
	body := filled(48, 1)
	handed := weak.Make(&body[0])
	puts(t, q, with(text(1), func(m *api.Message) { m.Body = body }), text(48))
	body = nil
	gone := takeWeakly(q)
	runtime.GC()
	if gone.Value() != nil || handed.Value() != nil {
		t.Error("a message is kept that was taken out")
	}
	takes(t, q, text(48))
}

// P13.5

func TestTheArrayIsGoneRound(t *testing.T) { // in steps that meet its end at each place
	for count := 1; count <= size; count++ {
		for _, stay := range []int{0, 1, size - count} {
			if stay > size-count {
				continue
			}
			q := at(t, 0, stay)
			next, out := stay, 0
			for range 40 {
				puts(t, q, texts(next, count)...)
				next += count
				has(t, q, stay+count)
				takes(t, q, texts(out, count)...)
				out += count
				has(t, q, stay)
			}
			takes(t, q, texts(out, stay)...)
			isEmpty(t, q)
		}
	}
}

func TestEveryPlaceAndCount(t *testing.T) { // wherever a queue's first one stands, whatever it has, and whatever comes
	for past := range size {
		for count := range size + 1 {
			for _, more := range []int{0, 1, 2, size - count - 1, size - count, size - count + 1, 31, 32} {
				if more < 0 {
					continue
				}
				q := at(t, past, count)
				want := texts(0, count)
				if more > size-count {
					refuses(t, q, api.ErrFull, texts(count, more)...)
				} else {
					puts(t, q, texts(count, more)...)
					want = texts(0, count+more)
				}
				has(t, q, len(want))
				takes(t, q, want...)
				isEmpty(t, q)
			}
		}
	}
}

func TestWhatIsRefusedChangesNothing(t *testing.T) { // of two that are alike one is handed things that are refused
	r := rand.New(rand.NewSource(13))
	bad := wrongs()
	for row := range 60 {
		a, b := queue.New(), queue.New()
		next := 0
		for range 150 {
			l := texts(next, 1+r.Intn(5))
			l[r.Intn(len(l))] = bad[r.Intn(len(bad))]
			refuses(t, b, api.ErrArg, l...)
			refuses(t, b, api.ErrFull, texts(next, b.Room()+1+r.Intn(3))...)
			if b.Len() == 0 {
				isEmpty(t, b)
			}
			l = texts(next, r.Intn(6))
			if r.Intn(2) == 0 && len(l) <= a.Room() {
				puts(t, a, l...)
				puts(t, b, l...)
				next += len(l)
			} else {
				x, e := a.Take()
				y, f := b.Take()
				if !same(x, y) || e != f {
					t.Fatalf("row %d: %+v, %d, want %+v, %d", row, y, f, x, e)
				}
			}
			has(t, b, a.Len())
		}
	}
}

// The chapter's words, once more: what waits is a list.

type both struct {
	q    *queue.Queue
	list []api.Message
}

func newBoth() *both { return &both{q: queue.New()} }

// put asks both, and tells what was wrong; bad: one of l may not be.
func (b *both) put(bad bool, l ...api.Message) string {
	want := api.OK
	switch {
	case bad:
		want = api.ErrArg
	case len(b.list)+len(l) > 32:
		want = api.ErrFull
	default:
		b.list = append(b.list, clone(l)...)
	}
	if e := b.q.Put(l...); e != want {
		return fmt.Sprintf("Put of %d to %d: %d, want %d", len(l), len(b.list), e, want)
	}
	return b.counts()
}

func (b *both) take() string {
	var first api.Message
	want := api.ErrEmpty
	if len(b.list) > 0 {
		first, want, b.list = b.list[0], api.OK, b.list[1:]
	}
	if m, e := b.q.Take(); !same(m, first) || e != want {
		return fmt.Sprintf("Take: %+v, %d, want %+v, %d", m, e, first, want)
	}
	return b.counts()
}

func (b *both) counts() string {
	if n := len(b.list); b.q.Len() != n || b.q.Room() != 32-n {
		return fmt.Sprintf("Len %d, Room %d, want %d, %d", b.q.Len(), b.q.Room(), n, 32-n)
	}
	return ""
}

func TestEveryShortRow(t *testing.T) {
	turns := []func(b *both, id int) string{
		func(b *both, id int) string { return b.take() },
		func(b *both, id int) string { return b.put(false) },
		func(b *both, id int) string { return b.put(false, text(id)) },
		func(b *both, id int) string { return b.put(false, texts(id, 15)...) },
		func(b *both, id int) string { return b.put(false, texts(id, 31)...) },
		func(b *both, id int) string { return b.put(true, text(id), api.Message{}) },
	}
	const length = 6
	rows := 1
	for range length {
		rows *= len(turns)
	}
	for row := range rows {
		b := newBoth()
		for i, left := 0, row; i < length; i, left = i+1, left/len(turns) {
			if bad := turns[left%len(turns)](b, 40*i); bad != "" {
				t.Fatalf("row %d, turn %d: %s", row, i, bad)
			}
		}
	}
}

func TestLongRows(t *testing.T) {
	r := rand.New(rand.NewSource(1313))
	pool := append(kinds(), texts(0, 60)...)
	bad := wrongs()
	for row := range 100 {
		b := newBoth()
		spread, lean := 1+r.Intn(34), 1+r.Intn(8) // how many come at once, and how often
		for i := range 400 {
			say := ""
			if r.Intn(8) >= lean {
				say = b.take()
			} else {
				l := make([]api.Message, r.Intn(spread))
				for k := range l {
					l[k] = pool[r.Intn(len(pool))]
				}
				wrong := len(l) > 0 && r.Intn(8) == 0
				if wrong {
					l[r.Intn(len(l))] = bad[r.Intn(len(bad))]
				}
				say = b.put(wrong, l...)
			}
			if say != "" {
				t.Fatalf("row %d, turn %d: %s", row, i, say)
			}
		}
	}
}

func FuzzCalls(f *testing.F) {
	f.Add([]byte{2, 0, 31, 30, 255, 1, 1})
	f.Add([]byte{32, 255, 128, 1, 33, 160, 255, 255})
	f.Add([]byte{7, 255, 255, 255, 29, 200, 255, 64, 255})
	pool := append(kinds(), texts(0, 60)...)
	bad := wrongs()
	f.Fuzz(func(t *testing.T, calls []byte) {
		b := newBoth()
		for i, c := range calls {
			say := ""
			switch {
			case c >= 160:
				say = b.take()
			default:
				l := make([]api.Message, c%40)
				for k := range l {
					l[k] = pool[(i*5+k)%len(pool)]
				}
				wrong := len(l) > 0 && c >= 120
				if wrong {
					l[i%len(l)] = bad[(i+int(c))%len(bad)]
				}
				say = b.put(wrong, l...)
			}
			if say != "" {
				t.Fatalf("call %d: %s", i, say)
			}
		}
	})
}
