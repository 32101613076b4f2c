package parcel_test

import (
	"bytes"
	"encoding/binary"
	"encoding/hex"
	"math"
	"math/rand"
	"reflect"
	"slices"
	"strings"
	"testing"

	"hauberk/api"
	"hauberk/parcel"
)

const most = 1<<53 - 1

func key(stamp, seq, rep, last int) api.Key {
	return api.Key{Stamp: stamp, Ring: api.RingId{Seq: seq, Rep: rep}, Seq: last}
}

func place(ring, seq, rep, members int) api.Place {
	return api.Place{Ring: ring, Id: api.RingId{Seq: seq, Rep: rep}, Members: members}
}

func bytesOf(t testing.TB, s string) []byte {
	t.Helper()
	b, err := hex.DecodeString(strings.ReplaceAll(s, " ", ""))
	if err != nil {
		t.Fatal(err)
	}
	return b
}

func filled(count int) []byte { return bytes.Repeat([]byte{0xA5}, count) }

// with answers m as change leaves it.
func with(m api.Message, change func(m *api.Message)) api.Message {
	m.Body = bytes.Clone(m.Body)
	change(&m)
	return m
}

// asNumber and the functions below tell the bytes by the library, the words of the chapter, and nothing of the program.
func asNumber(b []byte, v int) []byte { return binary.AppendUvarint(b, uint64(v)) }

// numbersOf answers the twelve numbers of m ahead of its body.
func numbersOf(m api.Message) []int {
	safe := 0
	if m.Safe {
		safe = 1
	}
	return []int{m.Kind, m.Origin, m.Life, m.Id, m.Part, m.Parts, m.Groups, safe, m.From.Stamp, m.From.Ring.Seq, m.From.Ring.Rep, m.From.Seq}
}

func written(m api.Message) []byte { return writtenNumbers(numbersOf(m), m.Body) }

func writtenNumbers(l []int, body []byte) []byte {
	var b []byte
	for _, v := range l {
		b = asNumber(b, v)
	}
	return append(asNumber(b, len(body)), body...)
}

func writtenPlaces(l []api.Place) []byte {
	b := asNumber(nil, len(l))
	for _, p := range l {
		b = asNumber(asNumber(asNumber(asNumber(b, p.Ring), p.Id.Seq), p.Id.Rep), p.Members)
	}
	return b
}

// same holds messages against each other; a body without bytes may be nil or not.
func same(a, b api.Message) bool {
	if !bytes.Equal(a.Body, b.Body) {
		return false
	}
	a.Body, b.Body = nil, nil
	return reflect.DeepEqual(a, b)
}

func sameData(a, b api.Data) bool {
	m, n := a.Message, b.Message
	a.Message, b.Message = api.Message{}, api.Message{}
	return reflect.DeepEqual(a, b) && same(m, n)
}

func text() api.Message {
	return api.Message{Kind: api.MsgText, Origin: 1, Life: 9, Id: 2, Parts: 1, Groups: 130, Safe: true, Body: []byte{0x41}}
}

func marked() api.Message {
	return api.Message{Kind: api.MsgMark, Origin: 3, From: key(5, 2, 1, 7)}
}

func want() api.Message { return api.Message{Kind: api.MsgWant, Origin: 8} }

func chart(l ...api.Place) api.Message {
	return api.Message{Kind: api.MsgChart, Origin: 4, From: key(6, 1, 2, 0), Body: writtenPlaces(l)}
}

func old(m api.Message) api.Message {
	return api.Message{Kind: api.MsgOld, Origin: 2, Id: 2, From: key(77, 4, 1, 9), Body: written(m)}
}

func fourPlaces() []api.Place {
	return []api.Place{place(0, 1, 1, 2), place(1, most, 8, 510), place(2, 300, 4, 16), place(3, 1, 8, 256)}
}

// goodPlaces answers lists that charts can hold.
func goodPlaces() [][]api.Place {
	return [][]api.Place{
		nil,
		{},
		{place(0, 3, 2, 6), place(2, 1, 4, 16)},
		{place(0, 1, 1, 2)},
		{place(3, most, 8, 510)},
		{place(0, 1, 1, 256), place(3, 1, 1, 256)},
		{place(1, 1, 8, 4), place(2, 1, 1, 8)},
		{place(1, 128, 1, 128), place(2, 127, 1, 126), place(3, 1<<52, 5, 254)},
		fourPlaces(),
	}
}

// greatest answers messages, not MsgOld, whose bytes are as many as they can be.
func greatest() []api.Message {
	from := key(most, most, 8, most)
	var full []api.Place
	for ring := range 4 {
		full = append(full, place(ring, most, 8, 510))
	}
	return []api.Message{
		{Kind: api.MsgText, Origin: 8, Life: most, Id: most, Part: 4, Parts: 5, Groups: 255, Safe: true, From: from, Body: filled(48)},
		{Kind: api.MsgMark, Origin: 8, From: from},
		{Kind: api.MsgWant, Origin: 8},
		{Kind: api.MsgChart, Origin: 8, From: from, Body: writtenPlaces(full)},
	}
}

// plain answers messages that may be, of all kinds but MsgOld.
func plain() []api.Message {
	l := []api.Message{text(), marked(), want(), {Kind: api.MsgMark, Origin: 1}, {Kind: api.MsgText, Origin: 1, Life: 1, Parts: 1, Groups: 1}}
	l = append(l, greatest()...)
	for parts := 1; parts <= 5; parts++ {
		for part := range parts {
			l = append(l, with(text(), func(m *api.Message) { m.Part, m.Parts = part, parts }))
		}
	}
	for _, size := range []int{0, 1, 47, 48} {
		l = append(l, with(text(), func(m *api.Message) { m.Body = filled(size) }))
	}
	for _, groups := range []int{1, 2, 127, 128, 255} {
		l = append(l, with(text(), func(m *api.Message) { m.Groups = groups }))
	}
	for _, v := range []int{1, 127, 128, 1<<49 - 1, 1 << 49, most - 1, most} {
		l = append(l, with(text(), func(m *api.Message) { m.Life = v }), with(text(), func(m *api.Message) { m.Id = v - 1 }), with(text(), func(m *api.Message) { m.Id = v }))
	}
	for _, safe := range []bool{false, true} {
		l = append(l, with(text(), func(m *api.Message) { m.Safe = safe }))
	}
	for node := 1; node <= 8; node++ {
		for _, m := range []api.Message{text(), marked(), want(), chart()} {
			l = append(l, with(m, func(m *api.Message) { m.Origin = node }))
		}
	}
	for _, from := range []api.Key{{}, key(most, 0, 0, 0), key(0, 0, 0, most), key(0, 1, 1, 0), key(0, most, 8, 0), key(most, most, 8, most)} {
		for _, m := range []api.Message{text(), marked(), chart(), chart(fourPlaces()...)} {
			l = append(l, with(m, func(m *api.Message) { m.From = from }))
		}
	}
	for _, p := range goodPlaces() {
		l = append(l, chart(p...))
	}
	return l
}

// good answers messages that may be, of all kinds.
func good() []api.Message {
	l := plain()
	for _, m := range plain() {
		l = append(l, old(m))
	}
	for node := 1; node <= 8; node++ {
		l = append(l, with(old(text()), func(m *api.Message) { m.Origin, m.Id = node, node }), with(old(want()), func(m *api.Message) { m.Id = node }))
	}
	for _, from := range []api.Key{key(0, 1, 1, 1), key(most, most, 8, most), key(0, most, 1, 1), key(most, 1, 8, 1), key(0, 1, 1, most)} {
		l = append(l, with(old(marked()), func(m *api.Message) { m.From = from }))
	}
	return l
}

func isWithout(v int) bool { return v < 0 || v > most }

// hasWithout tells whether m has a number that cannot be written.
func hasWithout(m api.Message) bool { return slices.ContainsFunc(numbersOf(m), isWithout) }

// without answers numbers that cannot be written.
func without() []int { return []int{-1, math.MinInt, most + 1, math.MaxInt} }

// badKeys answers keys that may not be.
func badKeys() []api.Key {
	l := []api.Key{key(5, 0, 1, 7), key(5, 1, 0, 7), key(5, 1, 9, 7), key(5, 1, -1, 7)}
	for _, v := range without() {
		l = append(l, key(v, 2, 1, 7), key(5, v, 1, 7), key(5, 2, 1, v))
	}
	return l
}

// badPlaces answers lists of at most four places that no chart can hold.
func badPlaces() [][]api.Place {
	l := [][]api.Place{
		{place(2, 1, 4, 16), place(0, 3, 2, 6)},
		{place(1, 1, 1, 2), place(1, 1, 1, 2)},
		{place(0, 1, 1, 2), place(0, 1, 1, 2)},
		{place(0, 1, 1, 2), place(1, 1, 1, 2), place(1, 2, 1, 2)},
		{place(0, 1, 1, 2), place(2, 1, 1, 2), place(1, 1, 1, 2)},
		{place(0, 1, 1, 2), place(1, 1, 1, 2), place(2, 1, 1, 2), place(0, 1, 1, 2)},
		{place(3, 1, 1, 2), place(3, 1, 1, 2)},
		{place(3, 1, 1, 2), place(4, 1, 1, 2)},
	}
	bad := []api.Place{place(0, 0, 0, 2), place(0, 0, 1, 2), place(0, 1, 0, 2), place(0, 1, 9, 2)}
	for _, ring := range append(without(), 4, 5) {
		bad = append(bad, place(ring, 1, 1, 2))
	}
	for _, seq := range without() {
		bad = append(bad, place(0, seq, 1, 2))
	}
	for _, members := range append(without(), 0, 1, 3, 511, 512, 514, 1022, most) {
		bad = append(bad, place(0, 1, 1, members))
	}
	for _, p := range bad {
		l = append(l, []api.Place{p}, []api.Place{p, place(3, 1, 1, 2)})
		if p.Ring == 0 {
			p.Ring = 3
			l = append(l, append(fourPlaces()[:3], p))
		}
	}
	return l
}

// badBodies answers bytes that are no body of places.
func badBodies() [][]byte {
	l := [][]byte{nil, {}, {5}, {1}, {0, 0}, {0x80, 0}, {0x80}, filled(160)}
	for _, p := range badPlaces() {
		if writable(p) {
			l = append(l, writtenPlaces(p))
		}
	}
	return append(l, writtenPlaces(append(fourPlaces(), place(4, 1, 1, 2))))
}

func writable(l []api.Place) bool {
	return !slices.ContainsFunc(l, func(p api.Place) bool {
		return slices.ContainsFunc([]int{p.Ring, p.Id.Seq, p.Id.Rep, p.Members}, isWithout)
	})
}

// badPlain answers messages that may not be, of all kinds but MsgOld, with bodies of at most 160 bytes.
func badPlain() []api.Message {
	l := []api.Message{{}, {Kind: api.MsgText}, {Kind: api.MsgWant}, with(want(), func(m *api.Message) { m.From = key(5, 2, 1, 7) })}
	for _, kind := range append(without(), 0, 6, 7, 256+1, 1<<32+1) {
		for _, m := range []api.Message{text(), marked(), want(), chart()} {
			l = append(l, with(m, func(m *api.Message) { m.Kind = kind }))
		}
	}
	for _, from := range []api.Key{key(1, 0, 0, 0), key(0, 0, 0, 1), key(0, 1, 1, 0), key(most, most, 8, most)} {
		l = append(l, with(want(), func(m *api.Message) { m.From = from }))
	}
	for _, m := range []api.Message{text(), marked(), want(), chart(fourPlaces()...)} {
		l = append(l, badAtAll(m)...)
	}
	for _, m := range []api.Message{marked(), want(), chart(fourPlaces()...)} {
		l = append(l, badClients(m)...)
		l = append(l, with(m, func(m *api.Message) { m.Id = 1 }), with(m, func(m *api.Message) { m.Id = most }))
	}
	for _, m := range []api.Message{marked(), want()} {
		for _, body := range [][]byte{{0}, {1}, filled(160), writtenPlaces(nil), written(text())} {
			l = append(l, with(m, func(m *api.Message) { m.Body = body }))
		}
	}
	for _, body := range badBodies() {
		l = append(l, with(chart(), func(m *api.Message) { m.Body = body }))
	}
	return append(l, badTexts()...)
}

// badAtAll answers messages like m that have something that none may have.
func badAtAll(m api.Message) []api.Message {
	var l []api.Message
	for _, v := range append(without(), 0, 9) {
		l = append(l, with(m, func(m *api.Message) { m.Origin = v }))
	}
	for _, v := range without() {
		l = append(l, with(m, func(m *api.Message) { m.Life = v }), with(m, func(m *api.Message) { m.Id = v }))
	}
	for _, v := range append(without(), 256, 511) {
		l = append(l, with(m, func(m *api.Message) { m.Groups = v }))
	}
	for _, k := range badKeys() {
		l = append(l, with(m, func(m *api.Message) { m.From = k }))
	}
	return l
}

// badClients answers messages like m, not a client's, that have something that a client's alone has.
func badClients(m api.Message) []api.Message {
	var l []api.Message
	for _, v := range append(without(), 1, 2, most) {
		l = append(l, with(m, func(m *api.Message) { m.Life = v }), with(m, func(m *api.Message) { m.Part = v }), with(m, func(m *api.Message) { m.Parts = v }),
			with(m, func(m *api.Message) { m.Groups = v }), with(m, func(m *api.Message) { m.Part, m.Parts = 0, v }))
	}
	return append(l, with(m, func(m *api.Message) { m.Safe = true }), with(m, func(m *api.Message) { m.Groups = 255 }))
}

func badTexts() []api.Message {
	var l []api.Message
	for _, v := range append(without(), 0, 6, 7) {
		l = append(l, with(text(), func(m *api.Message) { m.Parts = v }))
	}
	for parts := 1; parts <= 5; parts++ {
		for _, v := range append(without(), parts, parts+1) {
			l = append(l, with(text(), func(m *api.Message) { m.Part, m.Parts = v, parts }))
		}
	}
	for _, size := range []int{49, 50, 97, 159, 160} {
		l = append(l, with(text(), func(m *api.Message) { m.Body = filled(size) }))
	}
	return append(l, with(text(), func(m *api.Message) { m.Groups = 0 }), with(text(), func(m *api.Message) { m.Life = 0 }))
}

// badOld answers MsgOlds that may not be, with bodies of at most 160 bytes.
func badOld() []api.Message {
	var l []api.Message
	for _, inner := range plain() {
		v := old(inner)
		l = append(l, with(v, func(m *api.Message) { m.Id = 0 }), with(v, func(m *api.Message) { m.From.Seq = 0 }), with(v, func(m *api.Message) { m.From.Ring = api.RingId{} }))
		l = append(l, with(v, func(m *api.Message) { m.Body = append(m.Body, 0) }), with(v, func(m *api.Message) { m.Body = m.Body[:len(m.Body)-1] }))
		if b := written(v); len(b) <= 160 { // one in another one
			l = append(l, with(v, func(m *api.Message) { m.Body = b }))
		}
	}
	for _, inner := range badPlain() {
		if b := written(inner); len(b) <= 160 && !hasWithout(inner) {
			l = append(l, old(inner))
		}
	}
	for _, m := range []api.Message{old(text()), old(want()), old(chart())} {
		l = append(l, badAtAll(m)...)
		l = append(l, badClients(m)...)
		for _, v := range append(without(), 0, 9, most) {
			l = append(l, with(m, func(m *api.Message) { m.Id = v }))
		}
		for _, b := range [][]byte{nil, {}, {0}, filled(160), writtenPlaces(fourPlaces())} {
			l = append(l, with(m, func(m *api.Message) { m.Body = b }))
		}
	}
	return append(l, with(old(text()), func(m *api.Message) { m.From = api.Key{} }))
}

func bad() []api.Message { return append(badPlain(), badOld()...) }

func checkRefused(t *testing.T, m api.Message, want api.Errno) {
	t.Helper()
	if e := parcel.Check(m); e != want {
		t.Errorf("Check(%+v): %d, want %d", m, e, want)
	}
	if b, e := parcel.Pack(m); len(b) != 0 || e != want {
		t.Errorf("Pack(%+v): %x, %d, want %d", m, b, e, want)
	}
}

// P5.1

func TestPack(t *testing.T) {
	cases := []struct {
		m    api.Message
		want string
	}{
		{marked(), "02 03 00 00 00 00 00 00 05 02 01 07 00"},
		{text(), "01 01 09 02 00 01 82 01 01 00 00 00 00 01 41"},
		{want(), "03 08 00 00 00 00 00 00 00 00 00 00 00"},
		{chart(), "04 04 00 00 00 00 00 00 06 01 02 00 01 00"},
		{chart(place(0, 3, 2, 6), place(2, 1, 4, 16)), "04 04 00 00 00 00 00 00 06 01 02 00 09 02 00 03 02 06 02 01 04 10"},
		{old(marked()), "05 02 00 02 00 00 00 00 4D 04 01 09 0D 02 03 00 00 00 00 00 00 05 02 01 07 00"},
		{api.Message{Kind: api.MsgText, Origin: 8, Life: most, Id: 128, Part: 4, Parts: 5, Groups: 255, From: key(300, 1, 8, 0)},
			"01 08 FF FF FF FF FF FF FF 0F 80 01 04 05 FF 01 00 AC 02 01 08 00 00"},
	}
	for _, c := range cases {
		if b, e := parcel.Pack(c.m); !bytes.Equal(b, bytesOf(t, c.want)) || e != api.OK {
			t.Errorf("Pack(%+v): % X, %d, want %s", c.m, b, e, c.want)
		}
		if m, e := parcel.Unpack(bytesOf(t, c.want)); !same(m, c.m) || e != api.OK {
			t.Errorf("Unpack(%s): %+v, %d, want %+v", c.want, m, e, c.m)
		}
	}
}

func TestMessagesThatMayBe(t *testing.T) {
	for _, m := range good() {
		if e := parcel.Check(m); e != api.OK {
			t.Errorf("Check(%+v): %d", m, e)
		}
		if b, e := parcel.Pack(m); !bytes.Equal(b, written(m)) || e != api.OK {
			t.Errorf("Pack(%+v): % X, %d, want % X", m, b, e, written(m))
		}
	}
}

func TestMessagesThatMayNotBe(t *testing.T) {
	for _, m := range bad() {
		checkRefused(t, m, api.ErrArg)
	}
}

func TestBodiesOfMessages(t *testing.T) {
	may := map[int]func(size int) bool{ // of bodies that are neither places nor a message
		api.MsgText: func(size int) bool { return size <= 48 },
		api.MsgMark: func(size int) bool { return size == 0 },
		api.MsgWant: func(size int) bool { return size == 0 },
	}
	for _, m := range []api.Message{text(), marked(), want(), chart(), old(text()), {}} {
		for size := range 200 {
			m.Body = filled(size)
			fits := may[m.Kind]
			switch {
			case size > 160:
				checkRefused(t, m, api.ErrLimit)
			case fits == nil || !fits(size):
				checkRefused(t, m, api.ErrArg)
			default:
				if e := parcel.Check(m); e != api.OK {
					t.Errorf("kind %d, %d bytes: %d", m.Kind, size, e)
				}
			}
		}
	}
}

func TestLongBodiesComeFirst(t *testing.T) {
	for _, m := range append(bad(), good()...) {
		for _, size := range []int{161, 1000} {
			checkRefused(t, with(m, func(m *api.Message) { m.Body = filled(size) }), api.ErrLimit)
		}
	}
	for _, m := range plain() { // a longer one that would be well by its bytes
		m = old(m)
		m.Body = append(m.Body, make([]byte, 161)...)
		checkRefused(t, m, api.ErrLimit)
	}
}

// P5.2

func checkUnpackRefuses(t *testing.T, b []byte, want api.Errno) {
	t.Helper()
	if m, e := parcel.Unpack(b); !reflect.DeepEqual(m, api.Message{}) || e != want {
		t.Errorf("Unpack(% X): %+v, %d, want %d", b, m, e, want)
	}
}

func TestUnpackOfGood(t *testing.T) {
	for _, m := range good() {
		if x, e := parcel.Unpack(written(m)); !same(x, m) || e != api.OK {
			t.Errorf("Unpack(% X): %+v, %d, want %+v", written(m), x, e, m)
		}
	}
}

func TestUnpackRefuses(t *testing.T) {
	first := "02 03 00 00 00 00 00 00 05 02 01 07 00"
	cases := []struct {
		b    string
		want api.Errno
	}{
		{"", api.ErrTrunc},
		{first[:len(first)-3], api.ErrTrunc},
		{first + " 00", api.ErrSyntax},
		{first + " 02", api.ErrSyntax},
		{first + first, api.ErrSyntax},
		{"80", api.ErrTrunc},
		{"80 00", api.ErrSyntax},
		{"FF FF FF FF FF FF FF", api.ErrTrunc},
		{"FF FF FF FF FF FF FF 0F", api.ErrTrunc},     // MaxNumber, and nothing behind it
		{"FF FF FF FF FF FF FF 10", api.ErrSyntax},    // one that is above
		{"FF FF FF FF FF FF FF FF", api.ErrSyntax},    // more than eight bytes
		{"01 01 09 02 00 01 82 01 02", api.ErrSyntax}, // the eighth number, ahead of the end
		{"02 03 00 00 00 00 00 02", api.ErrSyntax},
		{"02 03 00 00 00 00 00 02 80 00", api.ErrSyntax},
		{"02 03 00 00 00 00 00 80", api.ErrTrunc},
		{"02 03 00 00 00 00 00 81 00", api.ErrSyntax},
		{"02 03 00 00 00 00 00", api.ErrTrunc},
		{"09 00 00 00 00 00 00 02", api.ErrSyntax},
		{"00 03 00 00 00 00 00 00 05 02 01 07", api.ErrTrunc}, // a kind is looked at only at the end
		{"06 03 00 00 00 00 00 00 05 02 01 07 01", api.ErrTrunc},
		{"06 09 00 00 00 00 00 00 05 02 01 07 A1 01", api.ErrLimit},
		{"06 09 00 00 00 00 00 00 05 02 01 07 FF FF FF FF FF FF FF 0F", api.ErrLimit},
		{"02 03 00 00 00 00 00 00 05 02 01 07 A1 01", api.ErrLimit}, // 161 bytes that are not there
		{"02 03 00 00 00 00 00 00 05 02 01 07 A0 01", api.ErrTrunc}, // 160 ones
		{"02 03 00 00 00 00 00 00 05 02 01 07 80 00", api.ErrSyntax},
		{"00 03 00 00 00 00 00 00 05 02 01 07 00", api.ErrSyntax},
		{"06 03 00 00 00 00 00 00 05 02 01 07 00", api.ErrSyntax},
		{"02 00 00 00 00 00 00 00 05 02 01 07 00", api.ErrSyntax},
		{"02 09 00 00 00 00 00 00 05 02 01 07 00", api.ErrSyntax},
		{"02 03 00 00 00 00 00 01 05 02 01 07 00", api.ErrSyntax},
		{"02 03 00 00 00 00 00 00 05 00 01 07 00", api.ErrSyntax},
		{"02 03 00 00 00 00 00 00 05 02 09 07 00", api.ErrSyntax},
		{"02 03 00 00 00 00 00 00 05 02 01 07 01 00", api.ErrSyntax},
		{"03 03 00 00 00 00 00 00 05 02 01 07 00", api.ErrSyntax},
		{"05 02 00 02 00 00 00 00 4D 04 01 09 0C 02 03 00 00 00 00 00 00 05 02 01 07", api.ErrSyntax},       // an inner one that ends too early
		{"05 02 00 02 00 00 00 00 4D 04 01 09 0E 02 03 00 00 00 00 00 00 05 02 01 07 A1 01", api.ErrSyntax}, // one with too long a body
		{"05 02 00 02 00 00 00 00 4D 04 01 09 0E 02 03 00 00 00 00 00 00 05 02 01 07 00 00", api.ErrSyntax}, // one with a byte too many
		{"04 04 00 00 00 00 00 00 06 01 02 00 00", api.ErrSyntax},                                           // no body of places
		{"04 04 00 00 00 00 00 00 06 01 02 00 01 05", api.ErrSyntax},
		{"04 04 00 00 00 00 00 00 06 01 02 00 02 00 00", api.ErrSyntax},
		{"05 02 00 02 00 00 00 00 4D 04 01 09 0D 02 03 00 00 00 00 00 00 05 02 01 07 00 00", api.ErrSyntax},
		{"05 02 00 02 00 00 00 00 4D 00 00 09 0D 02 03 00 00 00 00 00 00 05 02 01 07 00", api.ErrSyntax},
		{"05 02 00 02 00 00 00 00 4D 04 01 00 0D 02 03 00 00 00 00 00 00 05 02 01 07 00", api.ErrSyntax},
		{"05 02 00 00 00 00 00 00 4D 04 01 09 0D 02 03 00 00 00 00 00 00 05 02 01 07 00", api.ErrSyntax},
		{"05 02 00 02 00 00 00 00 4D 04 01 09 0D 02 03 00 00 00 00 00 00 05 02 01 07", api.ErrTrunc},
		{"05 02 00 02 00 00 00 00 4D 04 01 09 A1 01 02 03 00 00 00 00 00 00 05 02 01 07 00 00", api.ErrLimit},
		{"05 02 00 02 00 00 00 00 4D 04 01 89 00 0D 02 03 00 00 00 00 00 00 05 02 01 07 00", api.ErrSyntax},
		{"05 02 00 02 00 00 00 00 4D 04 01 09 0E 02 03 00 00 00 00 00 80 00 00 05 02 01 07 00", api.ErrSyntax}, // an inner number with a byte too many
	}
	for _, c := range cases {
		checkUnpackRefuses(t, bytesOf(t, c.b), c.want)
	}
}

func TestUnpackOfBytesThatEnd(t *testing.T) {
	for _, m := range good() {
		b := written(m)
		for end := range b {
			checkUnpackRefuses(t, b[:end], api.ErrTrunc)
		}
	}
}

func TestUnpackOfBytesBehindTheEnd(t *testing.T) {
	for _, m := range good() {
		for _, more := range [][]byte{{0}, {1}, {0x80}, {0xFF}, written(m), make([]byte, 600)} {
			checkUnpackRefuses(t, append(written(m), more...), api.ErrSyntax)
		}
	}
}

func TestUnpackOfLongNumbers(t *testing.T) {
	for _, m := range good() {
		var ahead []byte
		for _, v := range append(numbersOf(m), len(m.Body)) {
			short := asNumber(nil, v)
			ahead = append(ahead, short...)
			if len(short) == 8 {
				continue // a ninth byte is refused as such
			}
			long := append(bytes.Clone(ahead), 0)
			long[len(ahead)-1] |= 0x80
			checkUnpackRefuses(t, long, api.ErrSyntax) // ahead of all that is behind it
			checkUnpackRefuses(t, append(long, written(m)[len(ahead):]...), api.ErrSyntax)
		}
	}
}

func TestUnpackOfNumbersAbove(t *testing.T) {
	for _, m := range good() {
		for i := range 12 {
			l := numbersOf(m)
			l[i] = most + 1
			checkUnpackRefuses(t, writtenNumbers(l, m.Body), api.ErrSyntax)
			checkUnpackRefuses(t, writtenNumbers(l[:i+1], nil), api.ErrSyntax)
		}
	}
}

func TestUnpackOfTheEighthNumber(t *testing.T) {
	for _, m := range good() {
		for _, safe := range []int{2, 3, 127, 128, 129, 256, 257, 1 << 32, 1<<32 + 1, most} {
			l := numbersOf(m)
			l[7] = safe
			checkUnpackRefuses(t, writtenNumbers(l, m.Body), api.ErrSyntax)
			var b []byte
			for _, v := range l[:8] {
				b = asNumber(b, v)
			}
			checkUnpackRefuses(t, b, api.ErrSyntax)
			checkUnpackRefuses(t, append(b, 0x80), api.ErrSyntax)
		}
	}
}

func TestUnpackOfMessagesThatMayNotBe(t *testing.T) {
	count := 0
	for _, m := range bad() {
		if hasWithout(m) {
			continue
		}
		count++
		b := written(m)
		checkUnpackRefuses(t, b, api.ErrSyntax)
		checkUnpackRefuses(t, append(b, 0), api.ErrSyntax)
		for end := range b {
			checkUnpackRefuses(t, b[:end], api.ErrTrunc)
		}
	}
	if count < 100 {
		t.Errorf("%d messages alone", count)
	}
}

func TestUnpackOfLongBodies(t *testing.T) {
	for _, m := range append(good(), bad()...) {
		if hasWithout(m) {
			continue
		}
		for _, size := range []int{161, 162, 1000} {
			b := writtenNumbers(numbersOf(m), filled(size))
			checkUnpackRefuses(t, b, api.ErrLimit)
			checkUnpackRefuses(t, b[:len(b)-size], api.ErrLimit)
			checkUnpackRefuses(t, append(b, 0), api.ErrLimit)
		}
	}
}

// P5.3

func TestCharts(t *testing.T) {
	cases := []struct {
		l    []api.Place
		want string
	}{
		{[]api.Place{place(0, 3, 2, 6), place(2, 1, 4, 16)}, "02 00 03 02 06 02 01 04 10"},
		{nil, "00"},
		{[]api.Place{place(3, most, 8, 510)}, "01 03 FF FF FF FF FF FF FF 0F 08 FE 03"},
		{fourPlaces(), "04 00 01 01 02 01 FF FF FF FF FF FF FF 0F 08 FE 03 02 AC 02 04 10 03 01 08 80 02"},
	}
	for _, c := range cases {
		if b, e := parcel.Charts(c.l); !bytes.Equal(b, bytesOf(t, c.want)) || e != api.OK {
			t.Errorf("Charts(%v): % X, %d, want %s", c.l, b, e, c.want)
		}
		if l, e := parcel.Places(bytesOf(t, c.want)); !slices.Equal(l, c.l) || e != api.OK {
			t.Errorf("Places(%s): %v, %d, want %v", c.want, l, e, c.l)
		}
	}
}

func TestChartsOfGood(t *testing.T) {
	for _, l := range goodPlaces() {
		if b, e := parcel.Charts(l); !bytes.Equal(b, writtenPlaces(l)) || e != api.OK {
			t.Errorf("Charts(%v): % X, %d", l, b, e)
		}
		if x, e := parcel.Places(writtenPlaces(l)); !slices.Equal(x, l) || e != api.OK {
			t.Errorf("Places(% X): %v, %d, want %v", writtenPlaces(l), x, e, l)
		}
	}
}

func checkChartsRefuses(t *testing.T, l []api.Place, want api.Errno) {
	t.Helper()
	if b, e := parcel.Charts(l); len(b) != 0 || e != want {
		t.Errorf("Charts(%v): % X, %d, want %d", l, b, e, want)
	}
}

func TestChartsRefuses(t *testing.T) {
	for _, l := range badPlaces() {
		checkChartsRefuses(t, l, api.ErrArg)
		checkChartsRefuses(t, append(append([]api.Place{}, l...), fourPlaces()...), api.ErrLimit) // how many comes first
	}
	checkChartsRefuses(t, append(fourPlaces(), place(4, 1, 1, 2)), api.ErrLimit)
	checkChartsRefuses(t, append(fourPlaces(), place(3, 1, 8, 256)), api.ErrLimit)
	checkChartsRefuses(t, make([]api.Place, 5), api.ErrLimit)
	checkChartsRefuses(t, make([]api.Place, 4), api.ErrArg)
	checkChartsRefuses(t, make([]api.Place, 100), api.ErrLimit)
}

func TestRingsOfPlaces(t *testing.T) {
	for i := range 6 * 6 * 6 {
		l := []api.Place{place(i%6-1, 1, 1, 2), place(i/6%6-1, 1, 1, 2), place(i/36-1, 1, 1, 2)}
		want := api.ErrArg
		if l[0].Ring >= 0 && l[0].Ring < l[1].Ring && l[1].Ring < l[2].Ring && l[2].Ring <= 3 {
			want = api.OK
		}
		if _, e := parcel.Charts(l); e != want {
			t.Errorf("Charts(%v): %d, want %d", l, e, want)
		}
	}
}

func TestMembersOfPlaces(t *testing.T) {
	for c := -600; c < 1200; c++ {
		want := api.ErrArg
		if c >= 2 && c <= 510 && c%2 == 0 {
			want = api.OK
		}
		l := []api.Place{place(1, 5, 3, c)} // Rep need not be among them
		if _, e := parcel.Charts(l); e != want {
			t.Errorf("Charts(%v): %d, want %d", l, e, want)
		}
	}
}

func checkPlacesRefuses(t *testing.T, b []byte, want api.Errno) {
	t.Helper()
	if l, e := parcel.Places(b); len(l) != 0 || e != want {
		t.Errorf("Places(% X): %v, %d, want %d", b, l, e, want)
	}
}

func TestPlacesRefuses(t *testing.T) {
	cases := []struct {
		b    string
		want api.Errno
	}{
		{"", api.ErrTrunc},
		{"05", api.ErrLimit},
		{"05 00 01 01 02", api.ErrLimit},
		{"FF FF FF FF FF FF FF 0F", api.ErrLimit},
		{"FF FF FF FF FF FF FF 10", api.ErrSyntax},
		{"85 00", api.ErrSyntax},
		{"84 00", api.ErrSyntax},
		{"80", api.ErrTrunc},
		{"04", api.ErrTrunc},
		{"01", api.ErrTrunc},
		{"01 04", api.ErrTrunc}, // a ring is looked at only at the end
		{"02 01 00 00 00 01 00 00", api.ErrTrunc},
		{"02 01 00 00 00 01 80 00 00", api.ErrSyntax},
		{"00 00", api.ErrSyntax},
		{"01 00 01 01 02 00", api.ErrSyntax},
		{"01 04 01 01 02", api.ErrSyntax},
		{"01 00 00 00 02", api.ErrSyntax},
		{"01 00 00 01 02", api.ErrSyntax},
		{"01 00 01 00 02", api.ErrSyntax},
		{"01 00 01 09 02", api.ErrSyntax},
		{"01 00 01 01 00", api.ErrSyntax},
		{"01 00 01 01 01", api.ErrSyntax},
		{"01 00 01 01 03", api.ErrSyntax},
		{"01 00 01 01 80 04", api.ErrSyntax},
		{"01 80 00 01 01 02", api.ErrSyntax},
		{"02 00 01 01 02 00 01 01 02", api.ErrSyntax},
		{"02 01 01 01 02 00 01 01 02", api.ErrSyntax},
	}
	for _, c := range cases {
		checkPlacesRefuses(t, bytesOf(t, c.b), c.want)
	}
}

func TestPlacesOfBytesThatEnd(t *testing.T) {
	for _, l := range goodPlaces() {
		b := writtenPlaces(l)
		for end := range b {
			checkPlacesRefuses(t, b[:end], api.ErrTrunc)
		}
		for _, more := range [][]byte{{0}, {1}, {0x80}, b, make([]byte, 600)} {
			checkPlacesRefuses(t, append(bytes.Clone(b), more...), api.ErrSyntax)
		}
	}
}

func TestPlacesOfPlacesThatMayNotBe(t *testing.T) {
	for _, l := range badPlaces() {
		if writable(l) {
			b := writtenPlaces(l)
			checkPlacesRefuses(t, b, api.ErrSyntax)
			checkPlacesRefuses(t, append(b, 0), api.ErrSyntax)
			checkPlacesRefuses(t, b[:len(b)-1], api.ErrTrunc)
		}
	}
}

func TestPlacesOfCounts(t *testing.T) {
	for count := 5; count < 300; count++ {
		b := asNumber(nil, count)
		checkPlacesRefuses(t, b, api.ErrLimit)
		checkPlacesRefuses(t, append(b, 0x80, 0), api.ErrLimit)
		checkPlacesRefuses(t, append(b, make([]byte, 4*count)...), api.ErrLimit)
	}
}

func TestPlacesOfLongNumbers(t *testing.T) {
	for _, l := range goodPlaces() {
		b := writtenPlaces(l)
		for i, c := range b {
			if c&0x80 != 0 || i >= 7 && bytes.Count(b[i-7:i], []byte{0xFF}) == 7 {
				continue // not a number's last byte, or one of eight
			}
			long := append(bytes.Clone(b[:i]), c|0x80, 0)
			checkPlacesRefuses(t, long, api.ErrSyntax)
			checkPlacesRefuses(t, append(long, b[i+1:]...), api.ErrSyntax)
		}
	}
}

// P5.4

func data(m api.Message) api.Data {
	return api.Data{Ring: api.RingId{Seq: 4, Rep: 1}, Seq: 9, Sender: 2, Stamp: 77, Message: m}
}

// goodData answers data that can be sent again.
func goodData() []api.Data {
	var l []api.Data
	for _, m := range plain() {
		l = append(l, data(m))
	}
	for _, m := range []api.Message{text(), marked(), want(), chart(fourPlaces()...)} {
		for sender := 1; sender <= 8; sender++ {
			l = append(l, api.Data{Ring: api.RingId{Seq: 1, Rep: 9 - sender}, Seq: 1, Sender: sender, Message: m})
		}
		l = append(l, api.Data{Ring: api.RingId{Seq: most, Rep: 8}, Seq: most, Sender: 8, Stamp: most, Message: m})
	}
	return l
}

func TestOld(t *testing.T) {
	for _, d := range goodData() {
		want := api.Message{Kind: api.MsgOld, Origin: d.Sender, Id: d.Sender, From: api.Key{Stamp: d.Stamp, Ring: d.Ring, Seq: d.Seq}, Body: written(d.Message)}
		m, e := parcel.Old(d)
		if !same(m, want) || e != api.OK {
			t.Errorf("Old(%+v): %+v, %d, want %+v", d, m, e, want)
		}
		if e := parcel.Check(m); e != api.OK {
			t.Errorf("Check of Old(%+v): %d", d, e)
		}
		if x, e := parcel.Inner(want); !sameData(x, d) || e != api.OK {
			t.Errorf("Inner(%+v): %+v, %d, want %+v", want, x, e, d)
		}
	}
}

// badData answers data that cannot be sent again.
func badData() []api.Data {
	var l []api.Data
	for _, m := range bad() {
		l = append(l, data(m), data(with(m, func(m *api.Message) { m.Body = filled(161) })))
	}
	for _, m := range good() {
		if m.Kind == api.MsgOld {
			l = append(l, data(m))
		}
		l = append(l, data(with(m, func(m *api.Message) { m.Body = filled(161) })))
	}
	change := func(f func(d *api.Data)) {
		for _, m := range []api.Message{text(), marked(), want(), chart()} {
			d := data(m)
			f(&d)
			l = append(l, d)
		}
	}
	for _, v := range append(without(), 0) {
		change(func(d *api.Data) { d.Seq = v })
		change(func(d *api.Data) { d.Sender = v })
		change(func(d *api.Data) { d.Ring.Seq = v })
		change(func(d *api.Data) { d.Ring.Rep = v })
	}
	for _, v := range without() {
		change(func(d *api.Data) { d.Stamp = v })
	}
	change(func(d *api.Data) { d.Sender = 9 })
	change(func(d *api.Data) { d.Ring.Rep = 9 })
	change(func(d *api.Data) { d.Ring = api.RingId{} })
	change(func(d *api.Data) { *d = api.Data{Message: d.Message} })
	change(func(d *api.Data) { d.Message = api.Message{} })
	return append(l, api.Data{})
}

func TestOldRefuses(t *testing.T) {
	for _, d := range badData() {
		if m, e := parcel.Old(d); !reflect.DeepEqual(m, api.Message{}) || e != api.ErrArg {
			t.Errorf("Old(%+v): %+v, %d", d, m, e)
		}
	}
}

func TestInnerRefuses(t *testing.T) {
	l := append(bad(), plain()...)
	for _, m := range good() {
		l = append(l, with(m, func(m *api.Message) { m.Body = filled(161) }))
	}
	for _, m := range l {
		if d, e := parcel.Inner(m); !reflect.DeepEqual(d, api.Data{}) || e != api.ErrArg {
			t.Errorf("Inner(%+v): %+v, %d", m, d, e)
		}
	}
}

func TestInnerOfMessagesThatMayBe(t *testing.T) {
	for _, m := range good() {
		if m.Kind != api.MsgOld {
			continue
		}
		d, e := parcel.Inner(m)
		if e != api.OK || d.Ring != m.From.Ring || d.Seq != m.From.Seq || d.Stamp != m.From.Stamp || d.Sender != m.Id || !bytes.Equal(written(d.Message), m.Body) {
			t.Errorf("Inner(%+v): %+v, %d", m, d, e)
		}
	}
}

// P5.5

// roomy answers b with spare room behind it, and what it is all in all.
func roomy(b []byte) (within, whole []byte) {
	whole = append(bytes.Clone(b), filled(64)...)
	return whole[:len(b)], whole
}

func TestMessagesAreOnlyRead(t *testing.T) {
	for _, m := range append(good(), bad()...) {
		before := bytes.Clone(m.Body)
		var whole []byte
		m.Body, whole = roomy(m.Body)
		parcel.Check(m)
		b, _ := parcel.Pack(m)
		parcel.Inner(m)
		x, _ := parcel.Old(data(m))
		if !bytes.Equal(whole, append(before, filled(64)...)) {
			t.Fatalf("%+v: its body was changed: % X", m, whole)
		}
		scribble(b)
		scribble(x.Body)
		if !bytes.Equal(whole, append(before, filled(64)...)) {
			t.Fatalf("%+v: its body is in what was answered: % X", m, whole)
		}
	}
}

// scribble writes into b, and into its spare room.
func scribble(b []byte) {
	b = b[:cap(b)]
	for i := range b {
		b[i] ^= 0xFF
	}
}

func TestAnswersAreNewMemory(t *testing.T) {
	for _, m := range good() {
		b, whole := roomy(written(m))
		before := bytes.Clone(whole)
		x, _ := parcel.Unpack(b)
		y, _ := parcel.Unpack(b)
		scribble(x.Body)
		if !bytes.Equal(whole, before) || !same(y, m) {
			t.Fatalf("%+v: Unpack's answer is in what was handed in, or in another one", m)
		}
		scribble(whole)
		if !same(y, m) {
			t.Fatalf("%+v: Unpack kept what was handed in", m)
		}
		p, _ := parcel.Pack(m)
		q, _ := parcel.Pack(m)
		scribble(p)
		if !bytes.Equal(q, written(m)) {
			t.Fatalf("%+v: two answers of Pack are one", m)
		}
	}
}

func TestInnerAndOldAreNewMemory(t *testing.T) {
	for _, d := range goodData() {
		before := bytes.Clone(d.Message.Body)
		m, _ := parcel.Old(d)
		body := bytes.Clone(m.Body)
		x, _ := parcel.Inner(m)
		y, _ := parcel.Inner(m)
		scribble(x.Message.Body)
		if !bytes.Equal(m.Body, body) || !sameData(y, d) || !bytes.Equal(d.Message.Body, before) {
			t.Fatalf("%+v: Inner's answer is in what was handed in, or in another one", d)
		}
		scribble(m.Body)
		if !sameData(y, d) || !bytes.Equal(d.Message.Body, before) {
			t.Fatalf("%+v: Inner kept what was handed in", d)
		}
	}
}

func TestPlacesAreNewMemory(t *testing.T) {
	for _, l := range goodPlaces() {
		list := append(slices.Clone(l), place(9, 9, 9, 9))
		b, _ := parcel.Charts(list[:len(l)])
		c, _ := parcel.Charts(list[:len(l)])
		if !slices.Equal(list[:len(l)], l) || list[len(l)] != place(9, 9, 9, 9) {
			t.Fatalf("%v: changed by Charts", l)
		}
		scribble(c)
		in, whole := roomy(b)
		before := bytes.Clone(whole)
		x, _ := parcel.Places(in)
		y, _ := parcel.Places(in)
		for i := range x {
			x[i] = place(9, 9, 9, 9)
		}
		if !bytes.Equal(whole, before) || !slices.Equal(y, l) || !bytes.Equal(b, writtenPlaces(l)) {
			t.Fatalf("%v: an answer is in another one, or in what was handed in", l)
		}
		scribble(whole)
		if !slices.Equal(y, l) {
			t.Fatalf("%v: Places kept what was handed in", l)
		}
	}
}

// P5.6

func checkThereAndBack(t testing.TB, m api.Message) {
	t.Helper()
	b, e := parcel.Pack(m)
	if e != api.OK {
		t.Fatalf("Pack(%+v): %d", m, e)
	}
	x, e := parcel.Unpack(b)
	if e != api.OK || !same(x, m) {
		t.Fatalf("Unpack(% X): %+v, %d, want %+v", b, x, e, m)
	}
}

// checkBackAndThere tells whether b is a message, and holds it against what that is packed into.
func checkBackAndThere(t testing.TB, b []byte) bool {
	t.Helper()
	m, e := parcel.Unpack(b)
	if e != api.OK {
		return false
	}
	if c, e := parcel.Pack(m); e != api.OK || !bytes.Equal(c, b) {
		t.Fatalf("Pack(Unpack(% X)): % X, %d", b, c, e)
	}
	if d, e := parcel.Inner(m); e == api.OK {
		if x, e := parcel.Old(d); e != api.OK || m.Origin == m.Id && !same(x, m) {
			t.Fatalf("Old(Inner(% X)): %+v, %d", b, x, e)
		}
	}
	return true
}

func checkPlacesBackAndThere(t testing.TB, b []byte) bool {
	t.Helper()
	l, e := parcel.Places(b)
	if e != api.OK {
		return false
	}
	if c, e := parcel.Charts(l); e != api.OK || !bytes.Equal(c, b) {
		t.Fatalf("Charts(Places(% X)): % X, %d", b, c, e)
	}
	return true
}

func TestThereAndBack(t *testing.T) {
	for _, m := range good() {
		checkThereAndBack(t, m)
		if !checkBackAndThere(t, written(m)) {
			t.Errorf("%+v: refused", m)
		}
	}
	for _, d := range goodData() {
		m, e := parcel.Old(d)
		if e != api.OK {
			t.Fatalf("Old(%+v): %d", d, e)
		}
		checkThereAndBack(t, m)
		if x, e := parcel.Inner(m); e != api.OK || !sameData(x, d) {
			t.Errorf("Inner(Old(%+v)): %+v, %d", d, x, e)
		}
	}
}

func TestGreatestMessagesHaveRoom(t *testing.T) {
	longest := 0
	for _, m := range greatest() {
		b, e := parcel.Pack(m)
		if e != api.OK {
			t.Fatalf("Pack(%+v): %d", m, e)
		}
		longest = max(longest, len(b))
		d := api.Data{Ring: api.RingId{Seq: most, Rep: 8}, Seq: most, Sender: 8, Stamp: most, Message: m}
		x, e := parcel.Old(d)
		if e != api.OK || len(x.Body) != len(b) {
			t.Errorf("Old(%+v): %d bytes, %d", d, len(x.Body), e)
		}
	}
	if longest != 97 {
		t.Errorf("the longest one has %d bytes", longest)
	}
}

func someNumber(r *rand.Rand) int { return r.Intn(1 << r.Intn(54)) }

func someRing(r *rand.Rand) api.RingId {
	return api.RingId{Seq: 1 + someNumber(r)/2, Rep: 1 + r.Intn(8)}
}

func someKey(r *rand.Rand) api.Key {
	k := api.Key{Stamp: someNumber(r), Seq: someNumber(r)}
	if r.Intn(3) > 0 {
		k.Ring = someRing(r)
	}
	return k
}

func somePlaces(r *rand.Rand) []api.Place {
	var l []api.Place
	for ring := range 4 {
		if r.Intn(2) == 0 {
			l = append(l, api.Place{Ring: ring, Id: someRing(r), Members: 2 * (1 + r.Intn(255))})
		}
	}
	return l
}

// someMessage answers a message that may be, of the kind.
func someMessage(r *rand.Rand, kind int) api.Message {
	m := api.Message{Kind: kind, Origin: 1 + r.Intn(8), From: someKey(r)}
	switch kind {
	case api.MsgText:
		m.Parts = 1 + r.Intn(5)
		m.Part = r.Intn(m.Parts)
		m.Life, m.Id, m.Groups, m.Safe = 1+someNumber(r)/2, someNumber(r), 1+r.Intn(255), r.Intn(2) == 0
		m.Body = make([]byte, r.Intn(49))
		r.Read(m.Body)
	case api.MsgWant:
		m.From = api.Key{}
	case api.MsgChart:
		m.Body = writtenPlaces(somePlaces(r))
	case api.MsgOld:
		m.Id = 1 + r.Intn(8)
		m.From.Ring, m.From.Seq = someRing(r), 1+someNumber(r)/2
		m.Body = written(someMessage(r, 1+r.Intn(4)))
	}
	return m
}

// spoil answers b with something about it that is another.
func spoil(r *rand.Rand, b []byte) []byte {
	b = bytes.Clone(b)
	at := r.Intn(len(b))
	switch r.Intn(4) {
	case 0:
		b[at] ^= 1 << r.Intn(8)
	case 1:
		b[at] = byte(r.Intn(12))
	case 2:
		b = slices.Insert(b, at, byte(r.Intn(256)))
	case 3:
		b = slices.Delete(b, at, at+1)
	}
	return b
}

func TestSomeMessages(t *testing.T) {
	r := rand.New(rand.NewSource(5))
	well := 0
	for range 20000 {
		m := someMessage(r, 1+r.Intn(5))
		checkThereAndBack(t, m)
		b := written(m)
		if c, _ := parcel.Pack(m); !bytes.Equal(b, c) {
			t.Fatalf("Pack(%+v): % X, want % X", m, c, b)
		}
		for range 3 {
			b = spoil(r, b)
			if len(b) > 0 && checkBackAndThere(t, b) {
				well++
			}
		}
		if m.Kind != api.MsgOld {
			d := api.Data{Ring: someRing(r), Seq: 1 + someNumber(r)/2, Sender: 1 + r.Intn(8), Stamp: someNumber(r), Message: m}
			x, e := parcel.Old(d)
			if e != api.OK {
				t.Fatalf("Old(%+v): %d", d, e)
			}
			if y, e := parcel.Inner(x); e != api.OK || !sameData(y, d) {
				t.Fatalf("Inner(Old(%+v)): %+v, %d", d, y, e)
			}
		}
	}
	if well < 1000 {
		t.Errorf("%d spoilt ones alone were messages", well)
	}
}

func TestSomePlaces(t *testing.T) {
	r := rand.New(rand.NewSource(6))
	for range 20000 {
		l := somePlaces(r)
		b, e := parcel.Charts(l)
		if e != api.OK || !bytes.Equal(b, writtenPlaces(l)) {
			t.Fatalf("Charts(%v): % X, %d", l, b, e)
		}
		if x, e := parcel.Places(b); e != api.OK || !slices.Equal(x, l) {
			t.Fatalf("Places(% X): %v, %d, want %v", b, x, e, l)
		}
		for range 3 {
			if b = spoil(r, append(b, 0)); checkPlacesBackAndThere(t, b) && len(b) == 0 {
				t.Fatal("no bytes are places")
			}
		}
	}
}

func TestOldInOldInOld(t *testing.T) {
	m := old(want())
	for len(m.Body) <= 160 {
		inner := m
		m = old(m)
		if len(m.Body) <= 160 {
			checkRefused(t, m, api.ErrArg)
			checkUnpackRefuses(t, written(m), api.ErrSyntax)
		} else {
			checkRefused(t, m, api.ErrLimit)
			checkUnpackRefuses(t, written(m), api.ErrLimit)
		}
		if x, e := parcel.Old(data(inner)); !reflect.DeepEqual(x, api.Message{}) || e != api.ErrArg {
			t.Errorf("Old of %+v: %+v, %d", inner, x, e)
		}
	}
}

func FuzzBytes(f *testing.F) {
	for _, m := range good() {
		f.Add(written(m))
	}
	for _, l := range goodPlaces() {
		f.Add(writtenPlaces(l))
	}
	f.Fuzz(func(t *testing.T, b []byte) {
		checkBackAndThere(t, b)
		checkPlacesBackAndThere(t, b)
		for _, m := range []api.Message{text(), marked(), chart(), old(text())} {
			m.Body = b
			if parcel.Check(m) == api.OK {
				checkThereAndBack(t, m)
			}
		}
	})
}
