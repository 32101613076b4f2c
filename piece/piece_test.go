package piece_test

import (
	"bytes"
	"fmt"
	"math"
	"math/rand"
	"slices"
	"testing"

	"hauberk/api"
	"hauberk/piece"
)

const (
	most      = 1<<53 - 1
	pieceSize = 48
	whole     = 200
)

// text answers a message that payloads are split by.
func text(origin, life, id int) api.Message {
	return api.Message{Kind: 1, Origin: origin, Life: life, Id: id, Groups: 3}
}

// part answers one part of so many.
func part(origin, life, id, part, parts int, body ...byte) api.Message {
	m := text(origin, life, id)
	m.Part, m.Parts, m.Body = part, parts, body
	return m
}

// with answers m as change leaves it.
func with(m api.Message, change func(m *api.Message)) api.Message {
	m.Body = bytes.Clone(m.Body)
	change(&m)
	return m
}

// filled answers so many bytes, no two neighbours of which are alike; salt makes them others.
func filled(size, salt int) []byte {
	b := make([]byte, size)
	for i := range b {
		b[i] = byte(i*7 + i/48 + salt*31)
	}
	return b
}

// same holds messages against each other; a body without bytes may be nil or not.
func same(a, b api.Message) bool {
	return bytes.Equal(a.Body, b.Body) && a.Kind == b.Kind && a.Origin == b.Origin && a.Life == b.Life && a.Id == b.Id &&
		a.Part == b.Part && a.Parts == b.Parts && a.Groups == b.Groups && a.Safe == b.Safe && a.From == b.From
}

// cut answers the parts of a payload by the chapter's words, one byte behind the other.
func cut(m api.Message, payload []byte) []api.Message {
	list := []api.Message{m}
	for i, b := range payload {
		if i > 0 && i%48 == 0 {
			list = append(list, m)
		}
		last := &list[len(list)-1]
		last.Body = append(bytes.Clone(last.Body), b)
	}
	for i := range list {
		list[i].Part, list[i].Parts = i, len(list)
	}
	return list
}

func splits(t testing.TB, m api.Message, payload []byte) []api.Message {
	t.Helper()
	list, e := piece.Split(m, payload)
	if e != api.OK {
		t.Fatalf("Split(%+v, %d bytes): %d", m, len(payload), e)
	}
	return list
}

// holds puts m in, and asks that nothing is told.
func holds(t *testing.T, j *piece.Joiner, m api.Message) {
	t.Helper()
	if b, is, e := j.Put(m); len(b) > 0 || is || e != api.OK {
		t.Errorf("Put(%+v): %x, %v, %d, want none", m, b, is, e)
	}
}

// tells puts m in, and asks that this payload is told.
func tells(t *testing.T, j *piece.Joiner, m api.Message, payload []byte) {
	t.Helper()
	if b, is, e := j.Put(m); !bytes.Equal(b, payload) || !is || e != api.OK {
		t.Errorf("Put(%+v): %x, %v, %d, want %x", m, b, is, e, payload)
	}
}

// refuses puts m in, and asks that it is not taken.
func refuses(t *testing.T, j *piece.Joiner, m api.Message) {
	t.Helper()
	if b, is, e := j.Put(m); b != nil || is || e != api.ErrArg {
		t.Errorf("Put(%+v): %x, %v, %d, want ErrArg", m, b, is, e)
	}
}

func waits(t *testing.T, j *piece.Joiner, want int) {
	t.Helper()
	if got := j.Waiting(); got != want {
		t.Errorf("Waiting: %d, want %d", got, want)
	}
}

// spoil writes over b and its spare room.
func spoil(b []byte) {
	b = b[:cap(b)]
	for i := range b {
		b[i] ^= 0xFF
	}
}

// wrongNumbers are none that go over the wire.
func wrongNumbers() []int {
	return []int{-1, -2, -most, math.MinInt, most + 1, most + 2, 1 << 62, math.MaxInt}
}

// wrongs answers m in ways that may not be, whatever its part and its body are.
func wrongs(m api.Message) []api.Message {
	var list []api.Message
	add := func(change func(m *api.Message)) { list = append(list, with(m, change)) }
	for _, kind := range []int{0, 2, 3, 4, 5, 6, -1, 1 << 32, 1<<32 + 1, math.MaxInt, math.MinInt} {
		add(func(m *api.Message) { m.Kind = kind })
	}
	for _, origin := range []int{0, 9, -1, 16, 1<<32 + 1, math.MaxInt, math.MinInt} {
		add(func(m *api.Message) { m.Origin = origin })
	}
	for _, groups := range []int{0, -1, 256, 257, 1<<32 + 1, math.MaxInt, math.MinInt} {
		add(func(m *api.Message) { m.Groups = groups })
	}
	add(func(m *api.Message) { m.Life = 0 })
	for _, n := range wrongNumbers() {
		add(func(m *api.Message) { m.Life = n })
		add(func(m *api.Message) { m.Id = n })
		add(func(m *api.Message) { m.From.Stamp = n })
		add(func(m *api.Message) { m.From.Seq = n })
		add(func(m *api.Message) { m.From.Ring = api.RingId{Seq: n, Rep: 1} })
		add(func(m *api.Message) { m.From.Ring = api.RingId{Seq: 1, Rep: n} })
	}
	return list
}

// others answers messages of the other kinds, which may be.
func others() []api.Message {
	key := api.Key{Stamp: 5, Ring: api.RingId{Seq: 2, Rep: 1}, Seq: 7}
	return []api.Message{
		{Kind: 2, Origin: 1},
		{Kind: 2, Origin: 1, From: key},
		{Kind: 3, Origin: 1},
		{Kind: 4, Origin: 1, Body: []byte{0}},
		{Kind: 4, Origin: 1, Body: []byte{1, 0, 3, 2, 6}},
		{Kind: 5, Origin: 1, Id: 1, From: key, Body: []byte{3, 1, 0, 0, 0, 0, 0, 0, 0, 0, 0, 0, 0}},
		{Kind: 5, Origin: 1, Id: 1, From: key, Body: []byte{1, 1, 1, 1, 0, 1, 3, 0, 0, 0, 0, 0, 0}},
	}
}

// sizes answers the sizes of payloads that the chapter's numbers make edges of.
func sizes() []int {
	return []int{0, 1, 47, 48, 49, 95, 96, 97, 143, 144, 145, 191, 192, 193, 199, 200}
}

// The chapter's examples

func TestExamples(t *testing.T) {
	m := text(1, 1, 1)
	for size, want := range map[int][]int{0: {0}, 48: {48}, 49: {48, 1}, 200: {48, 48, 48, 48, 8}} {
		var got []int
		for _, p := range splits(t, m, filled(size, 0)) {
			got = append(got, len(p.Body))
		}
		if !slices.Equal(got, want) {
			t.Errorf("Split of %d bytes: %v, want %v", size, got, want)
		}
	}
	if list, e := piece.Split(m, filled(201, 0)); list != nil || e != api.ErrLimit {
		t.Errorf("Split of 201 bytes: %v, %d", list, e)
	}

	j := piece.New()
	two := cut(m, filled(60, 1))
	holds(t, j, two[0])
	tells(t, j, two[1], filled(60, 1))
	three := cut(m, filled(100, 2))
	for _, i := range []int{0, 2, 1} {
		holds(t, j, three[i])
	}
	waits(t, j, 0)
	other := cut(text(1, 1, 2), filled(70, 3))
	holds(t, j, two[0])
	holds(t, j, other[0])
	tells(t, j, other[1], filled(70, 3))
}

func TestNumbersOfErrors(t *testing.T) {
	var none *piece.Joiner
	_, _, e1 := none.Put(part(1, 1, 1, 0, 1))
	_, _, e2 := piece.New().Put(api.Message{})
	_, e3 := piece.Split(api.Message{}, nil)
	_, e4 := piece.Split(text(1, 1, 1), filled(201, 0))
	if e1 != 1 || e2 != 2 || e3 != 2 || e4 != 5 {
		t.Error(e1, e2, e3, e4)
	}
}

// P12.1

// blanks answers messages that may be split by, at the edges of what they have.
func blanks() []api.Message {
	return []api.Message{
		text(1, 1, 0),
		text(8, most, most),
		text(5, 1, most),
		with(text(2, 3, 4), func(m *api.Message) { m.Groups = 1 }),
		with(text(2, 3, 4), func(m *api.Message) { m.Groups = 255 }),
		with(text(2, 3, 4), func(m *api.Message) { m.Groups, m.Safe = 128, true }),
		with(text(7, 3, 4), func(m *api.Message) { m.Body = []byte{} }),
	}
}

func TestSplit(t *testing.T) {
	for _, m := range blanks() {
		for size := 0; size <= whole; size++ {
			payload := filled(size, m.Origin)
			got, e := piece.Split(m, payload)
			if want := cut(m, payload); e != api.OK || !slices.EqualFunc(got, want, same) {
				t.Fatalf("Split(%+v, %d bytes): %+v, %d, want %+v", m, size, got, e, want)
			}
		}
	}
}

func TestSplitCounts(t *testing.T) {
	for size, want := range map[int]int{0: 1, 1: 1, 47: 1, 48: 1, 49: 2, 96: 2, 97: 3, 144: 3, 145: 4, 192: 4, 193: 5, 199: 5, 200: 5} {
		if got := len(splits(t, text(1, 1, 1), filled(size, 0))); got != want {
			t.Errorf("%d bytes: %d parts, want %d", size, got, want)
		}
	}
}

func TestSplitOfNothing(t *testing.T) {
	for _, payload := range [][]byte{nil, {}, filled(9, 0)[:0]} {
		list := splits(t, text(1, 1, 1), payload)
		if len(list) != 1 || !same(list[0], part(1, 1, 1, 0, 1)) {
			t.Errorf("%+v", list)
		}
	}
}

func TestSplitRefusesTooMuch(t *testing.T) {
	for _, m := range blanks() {
		for _, size := range []int{201, 202, 240, 241, 256, 1 << 12, 1 << 20} {
			if list, e := piece.Split(m, filled(size, 0)); list != nil || e != api.ErrLimit {
				t.Errorf("Split(%+v, %d bytes): %d parts, %d", m, size, len(list), e)
			}
		}
	}
}

// notBlank answers messages that may not be split by.
func notBlank() []api.Message {
	m := text(1, 1, 1)
	list := append(wrongs(m), others()...)
	add := func(change func(m *api.Message)) { list = append(list, with(m, change)) }
	add(func(m *api.Message) { *m = api.Message{} })
	for _, n := range []int{1, 2, 5, 6, -1, -5, 1 << 32, math.MaxInt, math.MinInt} {
		add(func(m *api.Message) { m.Part = n })
		add(func(m *api.Message) { m.Parts = n })
		add(func(m *api.Message) { m.Part, m.Parts = n, n })
		add(func(m *api.Message) { m.Part, m.Parts = n, n+1 })
	}
	for _, size := range []int{1, 47, 48, 49, 160, 161, 300} {
		add(func(m *api.Message) { m.Body = filled(size, 0) })
		add(func(m *api.Message) { m.Body = make([]byte, size) })
	}
	add(func(m *api.Message) { m.From.Stamp = 1 })
	add(func(m *api.Message) { m.From.Seq = 1 })
	add(func(m *api.Message) { m.From.Seq = most })
	add(func(m *api.Message) { m.From.Ring = api.RingId{Seq: 1, Rep: 1} })
	add(func(m *api.Message) { m.From = api.Key{Stamp: 5, Ring: api.RingId{Seq: 2, Rep: 1}, Seq: 7} })
	return list
}

func TestSplitRefusesMessages(t *testing.T) {
	for _, m := range notBlank() {
		for _, size := range []int{0, 1, 48, 49, 200, 201, 300} { // the message is looked at first
			if list, e := piece.Split(m, filled(size, 0)); list != nil || e != api.ErrArg {
				t.Errorf("Split(%+v, %d bytes): %d parts, %d", m, size, len(list), e)
			}
		}
	}
}

// P12.2

func TestNew(t *testing.T) {
	a, b := piece.New(), piece.New()
	if a == nil || b == nil || a == b {
		t.Fatal("New answers none, or the same twice")
	}
	waits(t, a, 0)
	holds(t, a, part(1, 1, 1, 0, 2, 5))
	waits(t, a, 1)
	waits(t, b, 0)
	holds(t, b, part(1, 1, 1, 1, 2, 6))
	tells(t, a, part(1, 1, 1, 1, 2, 7), []byte{5, 7})
	waits(t, piece.New(), 0)
}

func TestNone(t *testing.T) {
	var none *piece.Joiner
	for i, j := range []*piece.Joiner{none, {}, new(piece.Joiner)} {
		for range 2 {
			for _, m := range slices.Concat(cut(text(1, 1, 1), filled(200, 0)), cut(text(1, 1, 1), nil), others(), wrongs(part(1, 1, 1, 0, 1))) {
				if b, is, e := j.Put(m); b != nil || is || e != api.ErrNil {
					t.Errorf("%d: Put(%+v): %x, %v, %d", i, m, b, is, e)
				}
				waits(t, j, 0)
			}
		}
	}
}

// P12.3

func TestPutInOrder(t *testing.T) {
	j := piece.New()
	for i, size := range sizes() {
		payload := filled(size, i)
		list := cut(text(1+i%8, 1+i, i), payload)
		for _, m := range list[:len(list)-1] {
			holds(t, j, m)
			waits(t, j, 1)
		}
		tells(t, j, list[len(list)-1], payload)
		waits(t, j, 0)
	}
}

func TestPutOfOnePart(t *testing.T) {
	j := piece.New()
	for range 2 { // it is never under way, so it is told each time that it comes
		for _, size := range []int{0, 1, 47, 48} {
			tells(t, j, part(1, 1, 1, 0, 1, filled(size, 0)...), filled(size, 0))
			waits(t, j, 0)
		}
	}
}

func TestPutOfOnePartDropsWhatIsUnderWay(t *testing.T) {
	j := piece.New()
	for _, id := range []int{1, 2} {
		holds(t, j, part(1, 1, 1, 0, 2, 5))
		tells(t, j, part(1, 1, id, 0, 1, 9), []byte{9})
		waits(t, j, 0)
		holds(t, j, part(1, 1, 1, 1, 2, 6))
		waits(t, j, 0)
	}
}

func TestPartZeroBeginsAnew(t *testing.T) {
	for _, id := range []int{1, 2, 0, most} {
		j := piece.New()
		holds(t, j, part(1, 1, 1, 0, 3, 5))
		holds(t, j, part(1, 1, 1, 1, 3, 6))
		holds(t, j, part(1, 1, id, 0, 3, 7))
		waits(t, j, 1)
		holds(t, j, part(1, 1, id, 1, 3, 8))
		tells(t, j, part(1, 1, id, 2, 3, 9), []byte{7, 8, 9})
		waits(t, j, 0)
	}
}

func TestPartZeroBeginsAnewWhateverItIsLike(t *testing.T) {
	for i, change := range unlike() {
		j := piece.New()
		holds(t, j, part(1, 1, 1, 0, 3, 5))
		first := with(part(1, 1, 1, 0, 3, 7), change)
		holds(t, j, first)
		waits(t, j, 1)
		payload := []byte{7}
		for k := 1; k < first.Parts; k++ {
			m := with(part(1, 1, 1, 0, 3, byte(8+k)), change)
			m.Part = k
			payload = append(payload, byte(8+k))
			if k < first.Parts-1 {
				holds(t, j, m)
			} else {
				tells(t, j, m, payload)
			}
		}
		if waits(t, j, 0); t.Failed() {
			t.Fatalf("change %d", i)
		}
	}
}

// unlike answers changes each of which makes a part one of another payload of the same sender; parts of three stay parts.
func unlike() []func(*api.Message) {
	return []func(*api.Message){
		func(m *api.Message) { m.Id++ },
		func(m *api.Message) { m.Id = 0 },
		func(m *api.Message) { m.Id = most },
		func(m *api.Message) { m.Id += 1 << 8 },
		func(m *api.Message) { m.Id += 1 << 32 },
		func(m *api.Message) { m.Id += 1 << 52 },
		func(m *api.Message) { m.Parts++ },
		func(m *api.Message) { m.Parts = 5 },
		func(m *api.Message) { m.Parts-- },
		func(m *api.Message) { m.Groups = 1 },
		func(m *api.Message) { m.Groups = 2 },
		func(m *api.Message) { m.Groups = 131 },
		func(m *api.Message) { m.Safe = !m.Safe },
	}
}

func TestPutOfAPartThatIsUnlike(t *testing.T) {
	for _, safe := range []bool{false, true} {
		say := func(i, parts int, b byte) api.Message {
			return with(part(1, 1, 1, i, parts, b), func(m *api.Message) { m.Safe = safe })
		}
		for i, change := range unlike() {
			j := piece.New()
			holds(t, j, say(0, 3, 5))
			holds(t, j, with(say(1, 3, 6), change))
			waits(t, j, 0)
			holds(t, j, say(1, 3, 6)) // what was there is gone for good
			holds(t, j, say(2, 3, 7))
			waits(t, j, 0)

			holds(t, j, say(0, 4, 5)) // likewise the last one of all
			holds(t, j, say(1, 4, 6))
			m := with(say(2, 4, 7), change)
			holds(t, j, m)
			waits(t, j, 0)
			if holds(t, j, say(3, 4, 8)); t.Failed() {
				t.Fatalf("change %d", i)
			}
		}
	}
}

func TestFromMakesNoDifference(t *testing.T) {
	j := piece.New()
	list := cut(text(1, 1, 1), filled(200, 0))
	for i := range list[:4] {
		list[i].From = api.Key{Stamp: 5 + i, Ring: api.RingId{Seq: 2, Rep: 1 + i}, Seq: 7 * i}
		holds(t, j, list[i])
	}
	tells(t, j, list[4], filled(200, 0))
}

func TestPartsThatAreShort(t *testing.T) {
	j := piece.New()
	holds(t, j, part(1, 1, 1, 0, 5, filled(48, 1)...))
	holds(t, j, part(1, 1, 1, 1, 5))
	holds(t, j, part(1, 1, 1, 2, 5, filled(3, 2)...))
	holds(t, j, part(1, 1, 1, 3, 5, filled(47, 3)...))
	tells(t, j, part(1, 1, 1, 4, 5, filled(48, 4)...), slices.Concat(filled(48, 1), filled(3, 2), filled(47, 3), filled(48, 4)))
	for i := range 4 {
		holds(t, j, part(1, 1, 1, i, 5))
		waits(t, j, 1)
	}
	tells(t, j, part(1, 1, 1, 4, 5), nil)
	waits(t, j, 0)
}

func TestAPartIsLeftOut(t *testing.T) {
	payload := filled(200, 0)
	list := cut(text(1, 1, 1), payload)
	for left := range list {
		j := piece.New()
		for i, m := range list {
			if i == left {
				continue
			}
			holds(t, j, m)
			if i < left {
				waits(t, j, 1)
			} else {
				waits(t, j, 0)
			}
		}
	}
}

func TestAPartComesTwice(t *testing.T) {
	payload := filled(200, 0)
	list := cut(text(1, 1, 1), payload)
	for twice := 1; twice < 4; twice++ {
		j := piece.New()
		for i, m := range list {
			holds(t, j, m)
			if i == twice {
				holds(t, j, m)
				waits(t, j, 0)
			}
		}
		waits(t, j, 0)
	}
}

func TestTheFirstPartComesTwice(t *testing.T) { // it begins anew, so that the payload is told all the same
	j := piece.New()
	list := cut(text(1, 1, 1), filled(97, 0))
	for _, i := range []int{0, 0, 1} {
		holds(t, j, list[i])
		waits(t, j, 1)
	}
	tells(t, j, list[2], filled(97, 0))
}

func TestTheLastPartComesTwice(t *testing.T) {
	for _, size := range []int{49, 97, 200} {
		j := piece.New()
		list := cut(text(1, 1, 1), filled(size, 0))
		end := len(list) - 1
		for range 2 {
			for _, m := range list[:end] {
				holds(t, j, m)
			}
			tells(t, j, list[end], filled(size, 0))
			waits(t, j, 0)
			holds(t, j, list[end])
			waits(t, j, 0)
		}
	}
}

func TestPartsInEveryOrder(t *testing.T) {
	list := cut(text(1, 1, 1), filled(145, 0))
	for row := range 4 * 4 * 4 * 4 {
		j := piece.New()
		next := 0 // which part is waited for
		for i, left := 0, row; i < 4; i, left = i+1, left/4 {
			now := left % 4
			if now == 0 {
				next = 0
			}
			switch {
			case now == next && now == 3:
				tells(t, j, list[now], filled(145, 0))
				next = 0
			case now == next:
				holds(t, j, list[now])
				next++
			default:
				holds(t, j, list[now])
				next = 0
			}
			waits(t, j, min(next, 1))
		}
	}
}

// notParts answers messages that Put refuses, all of a sender (1, 1) or of none.
func notParts() []api.Message {
	list := append(others(), api.Message{})
	for _, m := range []api.Message{part(1, 1, 1, 0, 1, 5), part(1, 1, 1, 0, 3, 5), part(1, 1, 1, 1, 3, 6), part(1, 1, 1, 2, 3, 6)} {
		list = append(list, wrongs(m)...)
		for _, size := range []int{49, 50, 160, 161, 200} {
			list = append(list, with(m, func(m *api.Message) { m.Body = filled(size, 0) }))
		}
		for _, n := range []int{0, 6, 7, -1, 1 << 32, math.MaxInt, math.MinInt} {
			list = append(list, with(m, func(m *api.Message) { m.Parts = n }))
		}
		for _, n := range []int{-1, 3, 4, 5, 1 << 32, math.MaxInt, math.MinInt} {
			list = append(list, with(m, func(m *api.Message) { m.Part = n }))
		}
	}
	return list
}

func TestPutRefuses(t *testing.T) {
	j := piece.New()
	for _, m := range notParts() {
		refuses(t, j, m)
		waits(t, j, 0)
	}
}

func TestWhatPutRefusesChangesNothing(t *testing.T) {
	list := cut(text(1, 1, 1), filled(120, 0))
	for _, m := range notParts() {
		j := piece.New()
		holds(t, j, list[0])
		refuses(t, j, m)
		waits(t, j, 1)
		holds(t, j, list[1])
		refuses(t, j, m)
		waits(t, j, 1)
		tells(t, j, list[2], filled(120, 0))
		refuses(t, j, m)
		waits(t, j, 0)
	}
}

// P12.4

func TestWaiting(t *testing.T) {
	j := piece.New()
	count := 0
	for origin := 1; origin <= 8; origin++ {
		for _, life := range []int{1, 2, 3, most - 1, most} {
			for range 2 { // a sender counts once
				holds(t, j, part(origin, life, 1, 0, 2))
				waits(t, j, count+1)
			}
			count++
		}
	}
	for origin := 8; origin >= 1; origin-- {
		for i, life := range []int{most, 1, 3, most - 1, 2} {
			count--
			if i%2 == 0 {
				tells(t, j, part(origin, life, 1, 1, 2, 4), []byte{4})
			} else {
				holds(t, j, part(origin, life, 2, 1, 2, 4))
			}
			waits(t, j, count)
			waits(t, j, count)
		}
	}
	if count != 0 {
		t.Error(count)
	}
}

// P12.5

func TestSplitOnlyReads(t *testing.T) {
	for _, size := range append(sizes(), 201) {
		room, spare := filled(size+40, 0), filled(40, 3)
		payload, m := room[:size], text(1, 1, 1)
		for _, body := range [][]byte{spare[:0], spare[:1]} { // as it may be, and as it may not
			m.Body = body
			piece.Split(m, payload)
			if !bytes.Equal(room, filled(size+40, 0)) || !bytes.Equal(spare, filled(40, 3)) {
				t.Errorf("Split of %d bytes has written into what it was handed", size)
			}
		}
	}
}

func TestSplitAnswersNewMemory(t *testing.T) {
	for _, size := range sizes() {
		payload, body := filled(size, 0), filled(60, 1)
		m := text(1, 1, 1)
		m.Body = body[:0]
		want := cut(text(1, 1, 1), filled(size, 0))
		a, b := splits(t, m, payload), splits(t, m, payload)
		for i := range a {
			spoil(a[i].Body)
			for k := range a {
				if k > i && !same(a[k], want[k]) {
					t.Errorf("Split of %d bytes: the parts %d and %d have one memory", size, i, k)
				}
			}
			a[i] = api.Message{}
		}
		if !bytes.Equal(payload, filled(size, 0)) || !bytes.Equal(body, filled(60, 1)) || !slices.EqualFunc(b, want, same) {
			t.Errorf("Split of %d bytes answers memory that is another's", size)
		}
		spoil(payload)
		spoil(body)
		if !slices.EqualFunc(b, want, same) {
			t.Errorf("Split of %d bytes answers what it was handed", size)
		}
	}
}

func TestPartsMayGrowBesideEachOther(t *testing.T) { // what is appended to one must not reach the next
	list := splits(t, text(1, 1, 1), filled(200, 0))
	want := cut(text(1, 1, 1), filled(200, 0))
	for i := range list {
		_ = append(list[i].Body, 1, 2, 3, 4)
	}
	if !slices.EqualFunc(list, want, same) {
		t.Error("parts share their spare room")
	}
}

func TestPutOnlyReads(t *testing.T) {
	j := piece.New()
	for size := 0; size <= pieceSize+1; size++ {
		room := filled(size+60, 0)
		for i := range 3 {
			j.Put(part(1, 1, 1, i, 3, room[:size]...))
			j.Put(part(2, 1, 1, 0, 1, room[:size]...))
			j.Put(with(part(2, 1, 1, 0, 1), func(m *api.Message) { m.Body, m.Kind = room[:size], 2 }))
			if !bytes.Equal(room, filled(size+60, 0)) {
				t.Errorf("Put of %d bytes has written into what it was handed", size)
			}
		}
	}
}

func TestPutKeepsNothingAndAnswersNewMemory(t *testing.T) {
	for _, size := range []int{0, 1, 8, 47, 48} {
		for parts := 1; parts <= 5; parts++ {
			j := piece.New()
			for range 2 {
				var want, ins, outs []byte
				for i := range parts {
					in := filled(size, i)
					want = append(want, in...)
					room := append(bytes.Clone(in), filled(300, 9)...)
					b, is, _ := j.Put(part(1, 1, 1, i, parts, room[:size]...))
					if is != (i == parts-1) {
						t.Fatalf("part %d of %d: %v", i, parts, is)
					}
					spoil(room)
					ins, outs = room, b
				}
				if !bytes.Equal(outs, want) {
					t.Errorf("%d parts of %d bytes: what was handed in is kept", parts, size)
				}
				spoil(ins)
				if !bytes.Equal(outs, want) {
					t.Errorf("%d parts of %d bytes: what was handed in is answered", parts, size)
				}
				spoil(outs)
			}
			waits(t, j, 0)
		}
	}
}

func TestWhatWasToldIsNotTheJoiners(t *testing.T) {
	j := piece.New()
	list, other := cut(text(1, 1, 1), filled(200, 0)), cut(text(1, 1, 2), filled(200, 5))
	for _, m := range list[:4] {
		j.Put(m)
	}
	first, _, _ := j.Put(list[4])
	for _, m := range other[:4] {
		j.Put(m)
	}
	spoil(first)
	second, is, _ := j.Put(other[4])
	if !is || !bytes.Equal(second, filled(200, 5)) {
		t.Errorf("%x, %v", second, is)
	}
	spoil(second)
	for _, m := range list[:4] {
		j.Put(m)
	}
	if third, is, _ := j.Put(list[4]); !is || !bytes.Equal(third, filled(200, 0)) || !bytes.Equal(list[4].Body, cut(text(1, 1, 1), filled(200, 0))[4].Body) {
		t.Errorf("%x, %v", third, is)
	}
}

// P12.6

func TestThereAndBack(t *testing.T) {
	j := piece.New()
	for _, m := range blanks() {
		for size := 0; size <= whole; size++ {
			payload := filled(size, size)
			list := splits(t, m, payload)
			for i, p := range list {
				b, is, e := j.Put(p)
				if e != api.OK || is != (i == len(list)-1) || is && !bytes.Equal(b, payload) || !is && b != nil {
					t.Fatalf("%d bytes, part %d: %x, %v, %d", size, i, b, is, e)
				}
			}
			waits(t, j, 0)
		}
	}
}

// load is a payload on its way, by its parts.
type load struct {
	payload []byte
	parts   []api.Message
	next    int
}

func TestPartsOfSeveralBetweenEachOther(t *testing.T) {
	r := rand.New(rand.NewSource(12))
	for row := range 300 {
		j := piece.New()
		loads := make([]load, 2+r.Intn(15))
		open := 0
		for range 300 {
			i := r.Intn(len(loads))
			l := &loads[i]
			if l.next == len(l.parts) {
				m := text(1+i%8, 1+i/8, r.Intn(3))
				m.Groups, m.Safe = 1+r.Intn(255), r.Intn(2) == 0
				l.payload = filled(r.Intn(201), r.Intn(256))
				l.parts, l.next = splits(t, m, l.payload), 0
				open++
			}
			last := l.next == len(l.parts)-1
			b, is, e := j.Put(l.parts[l.next])
			l.next++
			if last {
				open--
			}
			if e != api.OK || is != last || is && !bytes.Equal(b, l.payload) || !is && b != nil || j.Waiting() != open {
				t.Fatalf("row %d, sender %d, part %d of %d: %x, %v, %d, Waiting %d", row, i, l.next-1, len(l.parts), b, is, e, j.Waiting())
			}
		}
	}
}

func TestTheSameIdOfTwoSenders(t *testing.T) {
	for _, other := range []api.Message{text(2, 1, 1), text(8, 1, 1), text(1, 2, 1), text(1, 1+1<<8, 1), text(1, 1+1<<16, 1), text(1, 1+1<<32, 1), text(1, 1+1<<52, 1), text(1, most, 1), text(2, 2, 1)} {
		j := piece.New()
		a, b := cut(text(1, 1, 1), filled(200, 1)), cut(other, filled(193, 2))
		for i := range 4 {
			holds(t, j, a[i])
			waits(t, j, min(i, 1)+1)
			holds(t, j, b[i])
			waits(t, j, 2)
		}
		tells(t, j, b[4], filled(193, 2))
		waits(t, j, 1)
		tells(t, j, a[4], filled(200, 1))
		waits(t, j, 0)
	}
}

// P12.7

func TestSendersMakeNoDifferenceToEachOther(t *testing.T) { // one joiner has them all, the others one each
	r := rand.New(rand.NewSource(127))
	senders := []api.RingId{{Seq: 1, Rep: 1}, {Seq: 2, Rep: 1}, {Seq: 1, Rep: 2}, {Seq: 2, Rep: 2}, {Seq: most, Rep: 1}, {Seq: most, Rep: 8}}
	for row := range 100 {
		all := piece.New()
		var alone []*piece.Joiner
		for range senders {
			alone = append(alone, piece.New())
		}
		for i := range 400 {
			k := r.Intn(len(senders))
			parts := 1 + r.Intn(3)
			m := part(senders[k].Rep, senders[k].Seq, r.Intn(2), r.Intn(parts), parts, filled(r.Intn(49), i)...)
			a, isA, eA := all.Put(m)
			b, isB, eB := alone[k].Put(m)
			waiting := 0
			for _, j := range alone {
				waiting += j.Waiting()
			}
			if !bytes.Equal(a, b) || isA != isB || eA != eB || all.Waiting() != waiting {
				t.Fatalf("row %d, message %d: %x, %v, %d, Waiting %d, want %x, %v, %d, %d", row, i, a, isA, eA, all.Waiting(), b, isB, eB, waiting)
			}
		}
	}
}

func TestAWrongPartDropsItsOwnSendersAlone(t *testing.T) {
	wrong := []api.Message{part(2, 1, 9, 1, 2), part(1, 2, 9, 1, 2), part(2, 1, 1, 2, 3), part(1, 2, 1, 2, 3), part(2, 1, 1, 0, 1), part(1, 2, 1, 0, 1)}
	for _, m := range wrong {
		j := piece.New()
		holds(t, j, part(1, 1, 1, 0, 2, 5))
		holds(t, j, part(m.Origin, m.Life, 1, 0, 3))
		waits(t, j, 2)
		j.Put(m)
		waits(t, j, 1)
		tells(t, j, part(1, 1, 1, 1, 2, 6), []byte{5, 6})
		waits(t, j, 0)
	}
}

func TestNoMoreThanFivePieces(t *testing.T) {
	full := filled(pieceSize, 1)
	j := piece.New()
	for range 3 {
		for i := range 4 {
			holds(t, j, part(1, 1, 1, i, 5, full...))
		}
		tells(t, j, part(1, 1, 1, 4, 5, full...), bytes.Repeat(full, 5))
	}
	r := rand.New(rand.NewSource(240))
	top := 0
	for range 50000 {
		parts := 3 + r.Intn(3)
		b, _, e := j.Put(part(1+r.Intn(2), 1, 1, r.Intn(parts), parts, full[:48-r.Intn(2)]...))
		if top = max(top, len(b)); e != api.OK || len(b) > 240 {
			t.Fatalf("%d bytes, %d", len(b), e)
		}
	}
	if top < 140 { // three pieces at least came together
		t.Errorf("at most %d bytes were told", top)
	}
}

// The chapter's words, once more: what is under way is a list of the messages themselves.

type model map[api.RingId][]api.Message // by a pair: Origin and Life

func (w model) put(m api.Message) ([]byte, bool) {
	from := api.RingId{Rep: m.Origin, Seq: m.Life}
	have := w[from]
	switch {
	case m.Part == 0:
		have = []api.Message{m}
	case len(have) > 0 && have[0].Id == m.Id && have[0].Parts == m.Parts && have[0].Groups == m.Groups && have[0].Safe == m.Safe && m.Part == len(have):
		have = append(slices.Clone(have), m)
	default:
		delete(w, from)
		return nil, false
	}
	w[from] = have
	if len(have) < m.Parts {
		return nil, false
	}
	delete(w, from)
	var payload []byte
	for _, p := range have {
		payload = append(payload, p.Body...)
	}
	return payload, true
}

// both is a joiner and its model.
type both struct {
	j *piece.Joiner
	w model
}

func newBoth() both { return both{piece.New(), model{}} }

// put asks both, and tells what was wrong; m is one that may be.
func (b both) put(m api.Message) string {
	got, is, e := b.j.Put(m)
	want, wantIs := b.w.put(m)
	if !bytes.Equal(got, want) || is != wantIs || e != api.OK {
		return fmt.Sprintf("Put(%+v): %x, %v, %d, want %x, %v", m, got, is, e, want, wantIs)
	}
	if b.j.Waiting() != len(b.w) {
		return fmt.Sprintf("Put(%+v): Waiting %d, want %d", m, b.j.Waiting(), len(b.w))
	}
	return ""
}

func TestEveryShortRow(t *testing.T) {
	var all []api.Message
	for _, parts := range []int{2, 3} {
		for i := range parts {
			all = append(all, part(1, 1, 1, i, parts, byte(i)), part(1, 1, 2, i, parts, byte(16+i)))
		}
	}
	all = append(all, part(1, 1, 1, 0, 1, 32), part(2, 1, 1, 0, 2, 33), part(2, 1, 1, 1, 2, 34), part(1, 2, 1, 0, 2, 35), part(1, 2, 1, 1, 2, 36))
	const length = 4
	rows := 1
	for range length {
		rows *= len(all)
	}
	for row := range rows {
		b := newBoth()
		for i, left := 0, row; i < length; i, left = i+1, left/len(all) {
			if bad := b.put(all[left%len(all)]); bad != "" {
				t.Fatalf("row %d, message %d: %s", row, i, bad)
			}
		}
	}
}

// said answers the message that four numbers say; where a bit of turns is set, it goes on with what is under way.
func (b both) said(who, turns, size, salt int) api.Message {
	parts := 1 + turns%5
	m := part(1+who%8, 1+who/8%4, turns>>3%2, turns>>4%parts, parts, filled(size%49, salt)...)
	m.Groups, m.Safe = 1+turns>>6%2, salt%32 == 7
	m.From.Stamp = salt
	have := b.w[api.RingId{Rep: m.Origin, Seq: m.Life}]
	if len(have) > 0 && turns>>7&1 == 1 {
		m.Part, m.Parts, m.Id, m.Groups, m.Safe = len(have), have[0].Parts, have[0].Id, have[0].Groups, have[0].Safe
		switch salt % 32 { // or nearly so
		case 0:
			m.Id ^= 1
		case 1:
			m.Groups ^= 3
		case 2:
			m.Safe = !m.Safe
		case 3:
			m.Part--
		case 4:
			m.Parts = min(m.Parts+1, 5)
		}
	}
	return m
}

func TestLongRows(t *testing.T) {
	r := rand.New(rand.NewSource(1212))
	for row := range 200 {
		b := newBoth()
		spread := 1 + r.Intn(32)
		for i := range 1000 {
			turns := r.Intn(128)
			if r.Intn(8) > 0 {
				turns += 128
			}
			if bad := b.put(b.said(r.Intn(spread), turns, r.Intn(256), r.Intn(256))); bad != "" {
				t.Fatalf("row %d, call %d: %s", row, i, bad)
			}
		}
	}
}

func TestWhatIsRefusedChangesNothing(t *testing.T) { // two joiners go the same way, one of them is handed what it refuses at each step
	r := rand.New(rand.NewSource(121))
	bad := notParts()
	for row := range 60 {
		b, y := newBoth(), piece.New()
		for i := range 300 {
			refuses(t, y, bad[r.Intn(len(bad))])
			m := b.said(r.Intn(3), 64*r.Intn(3)+r.Intn(128), r.Intn(256), r.Intn(256))
			got, is, _ := y.Put(m)
			want, wantIs, _ := b.j.Put(m)
			b.w.put(m)
			if !bytes.Equal(got, want) || is != wantIs || y.Waiting() != b.j.Waiting() {
				t.Fatalf("row %d, step %d: %x, %v, Waiting %d, want %x, %v, %d", row, i, got, is, y.Waiting(), want, wantIs, b.j.Waiting())
			}
		}
	}
}

func FuzzCalls(f *testing.F) {
	f.Add([]byte{0, 2, 48, 1, 0, 128, 48, 9, 0, 128, 5, 9})
	f.Add([]byte{0, 2, 48, 1, 8, 2, 40, 9, 0, 128, 5, 9, 8, 130, 7, 0, 0, 0, 0, 0})
	f.Add(bytes.Repeat([]byte{3, 132, 48, 9}, 12))
	f.Fuzz(func(t *testing.T, script []byte) {
		b := newBoth()
		for ; len(script) >= 4; script = script[4:] {
			if bad := b.put(b.said(int(script[0]), int(script[1]), int(script[2]), int(script[3]))); bad != "" {
				t.Fatal(bad)
			}
		}
	})
}

func FuzzSplit(f *testing.F) {
	f.Add(1, 1, 1, 0, 0, 3, false, 0, []byte{}, filled(200, 0))
	f.Add(8, most, most, 0, 0, 255, true, 0, []byte{}, filled(49, 0))
	f.Add(9, 1, 1, 0, 0, 3, false, 0, []byte{}, filled(201, 0))
	f.Add(1, 1, 1, 1, 1, 3, false, 5, []byte{1}, []byte{})
	f.Fuzz(func(t *testing.T, origin, life, id, part, parts, groups int, safe bool, stamp int, body, payload []byte) {
		m := api.Message{Kind: 1, Origin: origin, Life: life, Id: id, Part: part, Parts: parts, Groups: groups, Safe: safe, From: api.Key{Stamp: stamp}, Body: body}
		got, e := piece.Split(m, payload)
		want := api.OK
		switch {
		case origin < 1 || origin > 8 || life < 1 || life > most || id < 0 || id > most || part != 0 || parts != 0 || groups < 1 || groups > 255 || stamp != 0 || len(body) > 0:
			want = api.ErrArg
		case len(payload) > 200:
			want = api.ErrLimit
		}
		if e != want || e != api.OK && got != nil || e == api.OK && !slices.EqualFunc(got, cut(m, payload), same) {
			t.Fatalf("Split(%+v, %d bytes): %+v, %d, want %d", m, len(payload), got, e, want)
		}
	})
}
