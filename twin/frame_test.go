package twin_test

import (
	"bytes"
	"encoding/binary"
	"encoding/hex"
	"hash/crc32"
	"math"
	"math/rand"
	"strings"
	"testing"

	"hauberk/api"
	"hauberk/twin"
)

const (
	most  = 1<<53 - 1
	whole = 512 // the most Bytes of a frame
)

func bytesOf(t testing.TB, s string) []byte {
	t.Helper()
	b, err := hex.DecodeString(strings.ReplaceAll(s, " ", ""))
	if err != nil {
		t.Fatal(err)
	}
	return b
}

// filled answers so many bytes, no two beside each other alike.
func filled(count int) []byte {
	b := make([]byte, count)
	for i := range b {
		b[i] = byte(0xA5 + 31*i)
	}
	return b
}

// asNumbers, sealed and the functions below tell the bytes by the library and the words of the chapters, by nothing of the program.
func asNumbers(l ...int) []byte {
	var b []byte
	for _, v := range l {
		b = binary.AppendUvarint(b, uint64(v))
	}
	return b
}

func sealed(b []byte) []byte {
	return binary.BigEndian.AppendUint32(bytes.Clone(b), crc32.ChecksumIEEE(b))
}

func frame(sender, life, serial int, b ...byte) api.Frame {
	return api.Frame{Sender: sender, Life: life, Serial: serial, Bytes: b}
}

// bare answers the bytes of f ahead of their check.
func bare(f api.Frame) []byte {
	return append(asNumbers(f.Sender, f.Life, f.Serial, len(f.Bytes)), f.Bytes...)
}

func written(f api.Frame) []byte { return sealed(bare(f)) }

// same holds frames against each other; a list without elements may be nil or not.
func same(a, b api.Frame) bool {
	return a.Sender == b.Sender && a.Life == b.Life && a.Serial == b.Serial && bytes.Equal(a.Bytes, b.Bytes)
}

// mayBe is the chapter's words once more.
func mayBe(f api.Frame) bool {
	return f.Sender >= 1 && f.Sender <= 8 && f.Life >= 1 && f.Life <= most && f.Serial >= 1 && f.Serial <= most && len(f.Bytes) <= whole
}

// edges are frames that may be, at the ends of what may be.
func edges() []api.Frame {
	var l []api.Frame
	for _, sender := range []int{1, 2, 7, 8} {
		for _, life := range []int{1, 2, 127, 128, 1 << 32, most - 1, most} {
			for _, serial := range []int{1, 2, 16383, 16384, 1<<31 - 1, most - 1, most} {
				for _, size := range []int{0, 1, 127, 128, 511, whole} {
					l = append(l, frame(sender, life, serial, filled(size)...))
				}
			}
		}
	}
	return l
}

// opensTo asks whether b is refused so, and nothing told beside it.
func opensTo(t *testing.T, name string, b []byte, want api.Errno) {
	t.Helper()
	f, e := twin.Open(b)
	if e != want {
		t.Errorf("%s: Open(%x): %d, want %d", name, b, e, want)
	}
	if e != api.OK && (!same(f, api.Frame{}) || len(f.Bytes) != 0) {
		t.Errorf("%s: Open(%x): %d, and %+v beside it", name, b, e, f)
	}
}

// wrongNodes and wrongNumbers are what no Sender, and no Life or Serial, may be.
func wrongNodes() []int {
	return []int{0, -1, 9, 10, 16, 255, 257, 1<<32 + 1, most, math.MaxInt, math.MinInt, math.MinInt + 1}
}

func wrongNumbers() []int {
	return []int{0, -1, -2, -most, most + 1, most + 2, 1 << 62, math.MaxInt, math.MinInt, math.MinInt + 1}
}

// P11.1: Pack

func TestPackExample(t *testing.T) {
	b, e := twin.Pack(frame(1, 2, 3, 0xAB))
	if e != api.OK || len(b) != 9 || !bytes.Equal(b[:5], bytesOf(t, "01 02 03 01 AB")) || !bytes.Equal(b, sealed(b[:5])) {
		t.Errorf("%x, %d", b, e)
	}
}

func TestPack(t *testing.T) {
	for _, f := range edges() {
		b, e := twin.Pack(f)
		if e != api.OK || !bytes.Equal(b, written(f)) {
			t.Errorf("Pack(%d, %d, %d, %d bytes): %x, %d", f.Sender, f.Life, f.Serial, len(f.Bytes), b, e)
		}
	}
	for sender := 1; sender <= 8; sender++ {
		if b, e := twin.Pack(frame(sender, 1, 1)); e != api.OK || !bytes.Equal(b, written(frame(sender, 1, 1))) {
			t.Errorf("Sender %d: %x, %d", sender, b, e)
		}
	}
	for size := 0; size <= whole; size++ {
		if b, e := twin.Pack(frame(3, 4, 5, filled(size)...)); e != api.OK || !bytes.Equal(b, written(frame(3, 4, 5, filled(size)...))) {
			t.Errorf("%d Bytes: %x, %d", size, b, e)
		}
	}
}

func TestPackNilBytes(t *testing.T) {
	for _, none := range [][]byte{nil, {}, filled(9)[:0]} {
		if b, e := twin.Pack(api.Frame{Sender: 8, Life: 300, Serial: 1, Bytes: none}); e != api.OK || !bytes.Equal(b, sealed(bytesOf(t, "08 AC 02 01 00"))) {
			t.Errorf("%x, %d", b, e)
		}
	}
}

func packsTo(t *testing.T, f api.Frame, want api.Errno) {
	t.Helper()
	if b, e := twin.Pack(f); e != want || len(b) != 0 {
		t.Errorf("Pack(%d, %d, %d, %d bytes): %x, %d, want %d", f.Sender, f.Life, f.Serial, len(f.Bytes), b, e, want)
	}
}

func TestPackRefusesNumbers(t *testing.T) {
	for _, size := range []int{0, 1, whole} {
		for _, n := range wrongNodes() {
			packsTo(t, frame(n, 1, 1, filled(size)...), api.ErrArg)
			packsTo(t, frame(n, most, most, filled(size)...), api.ErrArg)
		}
		for _, n := range wrongNumbers() {
			packsTo(t, frame(1, n, 1, filled(size)...), api.ErrArg)
			packsTo(t, frame(8, most, n, filled(size)...), api.ErrArg)
			packsTo(t, frame(8, n, n, filled(size)...), api.ErrArg)
		}
		packsTo(t, api.Frame{Bytes: filled(size)}, api.ErrArg)
	}
}

func TestPackRefusesTooMuch(t *testing.T) {
	for _, size := range []int{whole + 1, whole + 2, 1023, 1024, 1 << 16, 1<<16 + 1} {
		packsTo(t, frame(1, 1, 1, filled(size)...), api.ErrLimit)
		packsTo(t, frame(8, most, most, filled(size)...), api.ErrLimit)
		packsTo(t, frame(0, 1, 1, filled(size)...), api.ErrLimit) // how much it is comes ahead of all else
		packsTo(t, frame(1, 0, 1, filled(size)...), api.ErrLimit)
		packsTo(t, frame(1, 1, -1, filled(size)...), api.ErrLimit)
		packsTo(t, frame(9, most+1, most+1, filled(size)...), api.ErrLimit)
	}
}

// P11.1: Open

func TestOpenExamples(t *testing.T) {
	b, _ := twin.Pack(frame(1, 2, 3, 0xAB))
	f, e := twin.Open(b)
	if e != api.OK || !same(f, frame(1, 2, 3, 0xAB)) {
		t.Errorf("%+v, %d", f, e)
	}
	b[4] ^= 1
	opensTo(t, "one bit turned", b, api.ErrSum)
	opensTo(t, "three bytes", b[:3], api.ErrTrunc)
}

func TestOpen(t *testing.T) {
	for _, f := range edges() {
		got, e := twin.Open(written(f))
		if e != api.OK || !same(got, f) {
			t.Errorf("Open of (%d, %d, %d, %d bytes): %+v, %d", f.Sender, f.Life, f.Serial, len(f.Bytes), got, e)
		}
	}
	for sender := 1; sender <= 8; sender++ {
		opensTo(t, "each Sender", sealed(asNumbers(sender, 1, 1, 0)), api.OK)
	}
}

func TestOpenOfTooFewBytes(t *testing.T) {
	for _, f := range []api.Frame{frame(1, 1, 1), frame(1, 2, 3, 0xAB), frame(8, most, most, filled(3)...), frame(5, 300, 20000, filled(200)...), frame(8, most, most, filled(whole)...)} {
		b := written(f)
		for size := range len(b) { // what a seal itself ends
			want := api.ErrSum
			if size < 4 {
				want = api.ErrTrunc
			}
			opensTo(t, "a seal cut off", b[:size], want)
		}
		b = bare(f)
		for size := range len(b) { // what ends within the seal
			opensTo(t, "cut off and sealed", sealed(b[:size]), api.ErrTrunc)
		}
	}
	opensTo(t, "nothing", nil, api.ErrTrunc)
	opensTo(t, "nothing", []byte{}, api.ErrTrunc)
	opensTo(t, "nothing, sealed", []byte{0, 0, 0, 0}, api.ErrTrunc)
}

func TestOpenOfBytesThatAreLeft(t *testing.T) {
	for _, f := range []api.Frame{frame(1, 1, 1), frame(1, 2, 3, 0xAB), frame(8, most, most, filled(whole)...)} {
		for _, more := range [][]byte{{0}, {1}, {0x80}, {0xFF, 0xFF}, filled(600), bare(f), written(f)} {
			opensTo(t, "more within the seal", sealed(append(bare(f), more...)), api.ErrSyntax)
			opensTo(t, "more behind the seal", append(written(f), more...), api.ErrSum)
		}
	}
}

func TestOpenOfATurnedBit(t *testing.T) {
	for _, f := range []api.Frame{frame(1, 1, 1), frame(1, 2, 3, 0xAB), frame(8, most, most, filled(40)...), frame(3, 128, 129, filled(whole)...)} {
		b := written(f)
		for i := range 8 * len(b) {
			b[i/8] ^= 1 << (i % 8)
			if got, e := twin.Open(b); e != api.ErrSum || !same(got, api.Frame{}) {
				t.Errorf("bit %d of %d bytes: %+v, %d", i, len(b), got, e)
			}
			b[i/8] ^= 1 << (i % 8)
		}
		opensTo(t, "all bits as they were", b, api.OK)
	}
}

func TestOpenOfNumbersThatMayNotBe(t *testing.T) {
	for _, n := range []int{0, 9, 10, 127, 128, 256, 257, 1<<32 + 1, most} {
		opensTo(t, "Sender", sealed(asNumbers(n, 1, 1, 0)), api.ErrSyntax)
		opensTo(t, "Sender", sealed(append(asNumbers(n, most, most, 2), 1, 2)), api.ErrSyntax)
	}
	opensTo(t, "Life 0", sealed(asNumbers(1, 0, 1, 0)), api.ErrSyntax)
	opensTo(t, "Serial 0", sealed(asNumbers(1, 1, 0, 0)), api.ErrSyntax)
	opensTo(t, "both 0", sealed(asNumbers(8, 0, 0, 1, 7)), api.ErrSyntax)
	for _, n := range []int{most + 1, most + 2, 1<<54 - 1, 1<<56 - 1, 1 << 56, 1 << 62, math.MaxInt, -1} { // word takes none of these
		opensTo(t, "Sender", sealed(asNumbers(n, 1, 1, 0)), api.ErrSyntax)
		opensTo(t, "Life", sealed(asNumbers(1, n, 1, 0)), api.ErrSyntax)
		opensTo(t, "Serial", sealed(asNumbers(1, 1, n, 0)), api.ErrSyntax)
		opensTo(t, "how many", sealed(asNumbers(1, 1, 1, n)), api.ErrSyntax)
	}
}

func TestOpenOfTooMuch(t *testing.T) {
	for _, size := range []int{whole + 1, whole + 2, 1024, 1 << 16, 1 << 32, most} {
		opensTo(t, "how many, and none there", sealed(asNumbers(1, 1, 1, size)), api.ErrLimit)
		opensTo(t, "of one that may not be", sealed(asNumbers(0, 0, 0, size)), api.ErrLimit)
	}
	opensTo(t, "all there", written(frame(1, 1, 1, filled(whole+1)...)), api.ErrLimit)
	opensTo(t, "one more there", sealed(append(bare(frame(1, 1, 1, filled(whole+1)...)), 0)), api.ErrLimit)
	opensTo(t, "not all there", sealed(asNumbers(1, 1, 1, whole)), api.ErrTrunc)
}

// longer answers v in so many bytes at least, the last of which say nothing.
func longer(v, size int) []byte {
	b := asNumbers(v)
	for len(b) < size {
		b[len(b)-1] |= 0x80
		b = append(b, 0)
	}
	return b
}

func TestOpenOfNumbersWrittenOtherwise(t *testing.T) {
	numbers := []int{1, 2, 3, 1}
	for which := range numbers {
		for size := 1; size <= 10; size++ {
			var b []byte
			for i, v := range numbers {
				if i == which {
					b = append(b, longer(v, size)...)
				} else {
					b = append(b, asNumbers(v)...)
				}
			}
			want := api.ErrSyntax
			if size == 1 {
				want = api.OK
			}
			opensTo(t, "a number in more bytes", sealed(append(b, 0xAB)), want)
		}
	}
}

func TestOpenTellsTheFirstError(t *testing.T) {
	for _, c := range []struct {
		bare string
		want api.Errno
	}{
		{"81 00", api.ErrSyntax}, // ahead of what is missing behind it
		{"01 81 00", api.ErrSyntax},
		{"01 01 81 00", api.ErrSyntax},
		{"01 01 01 81 00", api.ErrSyntax},
		{"09 81", api.ErrTrunc}, // ahead of a Sender that may not be
		{"09 01 01", api.ErrTrunc},
		{"00 00 00 02 AB", api.ErrTrunc},
		{"00 00 00 81 04", api.ErrLimit},
		{"00 00 00 01 AB", api.ErrSyntax},    // all were read
		{"01 01 01 00 00", api.ErrSyntax},    // a byte is left
		{"09 01 01 00 00", api.ErrSyntax},    // both
		{"01 01 01 81 04 00", api.ErrLimit},  // too many, and they are missing
		{"01 01 01 80 04 00", api.ErrTrunc},  // just as many as may be, and they are missing
		{"01 01 01 81 84 00", api.ErrSyntax}, // too many, but not written in the one way
	} {
		opensTo(t, c.bare, sealed(bytesOf(t, c.bare)), c.want)
		spoilt := sealed(bytesOf(t, c.bare))
		spoilt[len(spoilt)-1] ^= 0x40
		opensTo(t, c.bare+" spoilt", spoilt, api.ErrSum)
	}
}

// P11.6

func TestFramesOnlyReadWhatIsHandedIn(t *testing.T) {
	for _, size := range []int{0, 1, 100, whole, whole + 1} {
		room := filled(size + 40)
		want := bytes.Clone(room)
		twin.Pack(frame(1, 2, 3, room[:size:size+40]...))
		twin.Pack(api.Frame{Sender: 1, Life: 2, Serial: 3, Bytes: room[:size]})
		twin.Pack(api.Frame{Sender: 9, Life: 2, Serial: 3, Bytes: room[:size]})
		if !bytes.Equal(room, want) {
			t.Errorf("Pack of %d bytes has written into what it was handed", size)
		}
		for _, b := range [][]byte{written(frame(1, 2, 3, filled(size)...)), written(frame(9, 2, 3, filled(size)...)), filled(size + 4)} {
			room := append(bytes.Clone(b), filled(40)...)
			want := bytes.Clone(room)
			twin.Open(room[:len(b)])
			if !bytes.Equal(room, want) {
				t.Errorf("Open of %d bytes has written into what it was handed", len(b))
			}
		}
	}
}

// spoil writes over b and its spare room.
func spoil(b []byte) {
	b = b[:cap(b)]
	for i := range b {
		b[i] ^= 0xFF
	}
}

func TestFramesAnswerNewMemory(t *testing.T) {
	for _, size := range []int{0, 1, 7, 8, 100, whole} {
		in := filled(size)
		want := written(frame(1, 2, 3, in...))
		a, _ := twin.Pack(api.Frame{Sender: 1, Life: 2, Serial: 3, Bytes: in})
		b, _ := twin.Pack(api.Frame{Sender: 1, Life: 2, Serial: 3, Bytes: in})
		spoil(a)
		if !bytes.Equal(b, want) || !bytes.Equal(in, filled(size)) {
			t.Errorf("Pack of %d bytes answers memory that is another's", size)
		}
		spoil(in)
		if !bytes.Equal(b, want) {
			t.Errorf("Pack of %d bytes answers what it was handed", size)
		}
		f, _ := twin.Open(b)
		g, _ := twin.Open(b)
		spoil(f.Bytes)
		if !bytes.Equal(b, want) || !bytes.Equal(g.Bytes, filled(size)) {
			t.Errorf("Open to %d bytes answers memory that is another's", size)
		}
		spoil(b)
		if !bytes.Equal(g.Bytes, filled(size)) {
			t.Errorf("Open to %d bytes answers what it was handed", size)
		}
	}
}

// P11.7

func TestThereAndBack(t *testing.T) {
	r := rand.New(rand.NewSource(117))
	for range 3000 {
		f := frame(1+r.Intn(8), 1+int(r.Int63n(most)>>r.Intn(53)), 1+int(r.Int63n(most)>>r.Intn(53)), filled(r.Intn(whole+1))...)
		b, e := twin.Pack(f)
		if e != api.OK {
			t.Fatalf("Pack(%+v): %d", f, e)
		}
		if got, e := twin.Open(b); e != api.OK || !same(got, f) {
			t.Fatalf("Open(%x): %+v, %d, want %+v", b, got, e, f)
		}
	}
}

// backAgain asks whether b is a frame's bytes as the chapter says, and is then what that is packed into.
func backAgain(t *testing.T, b []byte) bool {
	t.Helper()
	f, e := twin.Open(b)
	if e != api.OK {
		return false
	}
	if !mayBe(f) || !bytes.Equal(b, written(f)) {
		t.Errorf("Open(%x): %+v", b, f)
	}
	if again, e := twin.Pack(f); e != api.OK || !bytes.Equal(again, b) {
		t.Errorf("Pack(%+v): %x, %d, want %x", f, again, e, b)
	}
	return true
}

func TestBackAndThere(t *testing.T) {
	r := rand.New(rand.NewSource(1171))
	opened := 0
	for range 30000 {
		b := bare(frame(r.Intn(11), r.Intn(4), r.Intn(4), filled(r.Intn(5))...))
		switch i := r.Intn(len(b)); r.Intn(4) {
		case 0:
			b[i] = byte(r.Intn(256))
		case 1:
			b = append(b[:i:i], append([]byte{0x80}, b[i:]...)...)
		case 2:
			b = append(b[:i:i], b[i+1:]...)
		}
		if backAgain(t, sealed(b)) {
			opened++
		}
	}
	if opened < 1000 {
		t.Errorf("only %d were frames", opened)
	}
}

// wordsOf tells what Open answers of b, sealed, by the words of the chapters and the library's numbers.
func wordsOf(b []byte) api.Errno {
	var l [4]int
	for i := range l {
		v, size := binary.Uvarint(b)
		switch {
		case size > 8 || size < 0 || size == 0 && len(b) >= 8:
			return api.ErrSyntax
		case size == 0:
			return api.ErrTrunc
		case size > 1 && b[size-1] == 0 || v > most:
			return api.ErrSyntax
		}
		l[i], b = int(v), b[size:]
	}
	switch {
	case l[3] > whole:
		return api.ErrLimit
	case l[3] > len(b):
		return api.ErrTrunc
	case l[3] < len(b) || !mayBe(frame(l[0], l[1], l[2])):
		return api.ErrSyntax
	}
	return api.OK
}

func TestEveryShortRowOfBytes(t *testing.T) {
	digits := []byte{0, 1, 2, 8, 9, 0x7F, 0x80, 0x81}
	var each func(b []byte, left int)
	each = func(b []byte, left int) {
		opensTo(t, "a short row", sealed(b), wordsOf(b))
		backAgain(t, sealed(b))
		for _, d := range digits[:min(left, 1)*len(digits)] {
			each(append(b[:len(b):len(b)], d), left-1)
		}
	}
	each(nil, 5)
}

func FuzzOpen(f *testing.F) {
	f.Add(bare(frame(1, 2, 3, 0xAB)))
	f.Add(bare(frame(8, most, most)))
	f.Add(bare(frame(9, 0, 1, filled(513)...)))
	f.Add([]byte{1, 0x81, 0, 3, 0})
	f.Add(bytes.Repeat([]byte{0x80}, 8))
	f.Fuzz(func(t *testing.T, b []byte) {
		backAgain(t, b)
		backAgain(t, sealed(b))
		opensTo(t, "any bytes, sealed", sealed(b), wordsOf(b))
	})
}
