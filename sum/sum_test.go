package sum_test

import (
	"bytes"
	"hash/crc32"
	"math/rand"
	"strconv"
	"testing"

	"hauberk/api"
	"hauberk/sum"
)

// slow is the check as the document says it, bit by bit, without a table.
func slow(b []byte) uint32 {
	check := ^uint32(0)
	for _, c := range b {
		check ^= uint32(c)
		for step := 0; step < 8; step++ {
			low := check & 1
			check >>= 1
			if low == 1 {
				check ^= 0xEDB88320
			}
		}
	}
	return ^check
}

// known has bytes with their checks: the chapter's, each byte's edges, and some that are known elsewhere.
func known() []struct {
	b     []byte
	check uint32
} {
	return []struct {
		b     []byte
		check uint32
	}{
		{nil, 0},
		{[]byte{}, 0},
		{[]byte("123456789"), 0xCBF43926},
		{[]byte{0}, 0xD202EF8D},
		{[]byte("a"), 0xE8B7BE43},
		{[]byte{0xFF}, 0xFF000000},
		{[]byte{0, 0, 0, 0}, 0x2144DF1C},
		{[]byte{0xFF, 0xFF, 0xFF, 0xFF}, 0xFFFFFFFF},
		{[]byte("The quick brown fox jumps over the lazy dog"), 0x414FA339},
	}
}

// lists has lists of bytes of every length up to 70, and a few long ones; the same at each run.
func lists() [][]byte {
	r := rand.New(rand.NewSource(2))
	var all [][]byte
	for size := range 71 {
		all = append(all, random(r, size))
	}
	for _, size := range []int{255, 256, 257, 511, 512, 513, 4096, 70000} {
		all = append(all, random(r, size))
	}
	return all
}

func random(r *rand.Rand, size int) []byte {
	b := make([]byte, size)
	r.Read(b)
	return b
}

// turned answers b with one bit turned, the bit 0 being the lowest one of the first byte.
func turned(b []byte, bit int) []byte {
	b = bytes.Clone(b)
	b[bit/8] ^= 1 << (bit % 8)
	return b
}

// laid answers a check as four bytes, the highest first.
func laid(check uint32) []byte {
	return []byte{byte(check >> 24), byte(check >> 16), byte(check >> 8), byte(check)}
}

func wantRefused(t *testing.T, b []byte, want api.Errno) {
	t.Helper()
	if got, e := sum.Open(b); e != want || len(got) != 0 {
		t.Errorf("Open(% X): % X, error %d; want none, error %d", b, got, e, want)
	}
}

func wantOpened(t *testing.T, b, want []byte) {
	t.Helper()
	if got, e := sum.Open(b); e != api.OK || !bytes.Equal(got, want) {
		t.Errorf("Open(% X): % X, error %d; want % X", b, got, e, want)
	}
}

// P2.1

func TestOfKnownBytes(t *testing.T) {
	for _, k := range known() {
		if got := sum.Of(k.b); got != k.check {
			t.Errorf("Of(% X): %08X, want %08X", k.b, got, k.check)
		}
	}
}

func TestOfEveryByte(t *testing.T) {
	for c := range 256 {
		b := []byte{byte(c)}
		if got, want := sum.Of(b), slow(b); got != want {
			t.Errorf("Of(%02X): %08X, want %08X", c, got, want)
		}
	}
}

func TestOfIsTheCheckBitByBit(t *testing.T) {
	for _, b := range lists() {
		got := sum.Of(b)
		if want := slow(b); got != want {
			t.Errorf("Of %d bytes: %08X, want %08X", len(b), got, want)
		}
		if want := crc32.ChecksumIEEE(b); got != want {
			t.Errorf("Of %d bytes: %08X, the library's is %08X", len(b), got, want)
		}
	}
}

func TestBytesThatAreZeroCount(t *testing.T) {
	seen := map[uint32]int{}
	for size := range 200 {
		check := sum.Of(make([]byte, size))
		if before, ok := seen[check]; ok {
			t.Errorf("%d and %d bytes 0 have the check %08X", before, size, check)
		}
		seen[check] = size
	}
}

func TestOfHangsOnTheOrder(t *testing.T) {
	if a, b := sum.Of([]byte{1, 2}), sum.Of([]byte{2, 1}); a == b {
		t.Errorf("01 02 and 02 01 have the check %08X", a)
	}
}

func TestSealExamples(t *testing.T) {
	for _, c := range []struct{ b, want []byte }{
		{nil, []byte{0, 0, 0, 0}},
		{[]byte{}, []byte{0, 0, 0, 0}},
		{[]byte("a"), []byte{0x61, 0xE8, 0xB7, 0xBE, 0x43}},
		{[]byte{0}, []byte{0, 0xD2, 0x02, 0xEF, 0x8D}},
	} {
		if got := sum.Seal(c.b); !bytes.Equal(got, c.want) {
			t.Errorf("Seal(% X): % X, want % X", c.b, got, c.want)
		}
	}
}

func TestSealIsBytesAndCheck(t *testing.T) {
	for _, b := range lists() {
		want := append(bytes.Clone(b), laid(slow(b))...)
		if got := sum.Seal(b); !bytes.Equal(got, want) {
			t.Errorf("Seal of %d bytes: not the bytes and their check", len(b))
		}
	}
}

// P2.2

func TestOpenExamples(t *testing.T) {
	wantOpened(t, []byte{0, 0, 0, 0}, nil)
	wantOpened(t, []byte{0x61, 0xE8, 0xB7, 0xBE, 0x43}, []byte{0x61})
	wantOpened(t, []byte{0, 0xD2, 0x02, 0xEF, 0x8D}, []byte{0})
	wantRefused(t, []byte{0x61, 0xE8, 0xB7, 0xBE, 0x42}, api.ErrSum)
	wantRefused(t, []byte{0xE8, 0xB7, 0xBE}, api.ErrTrunc)
}

func TestOpenTooFew(t *testing.T) {
	wantRefused(t, nil, api.ErrTrunc)
	for size := range 4 {
		wantRefused(t, make([]byte, size), api.ErrTrunc)
		wantRefused(t, bytes.Repeat([]byte{0xFF}, size), api.ErrTrunc)
		wantRefused(t, make([]byte, size, 8), api.ErrTrunc) // spare room is no bytes
	}
}

func TestOpenFourBytes(t *testing.T) {
	wantOpened(t, make([]byte, 4), nil)
	for place := range 4 {
		for _, c := range []byte{1, 0x80, 0xFF} {
			b := make([]byte, 4)
			b[place] = c
			wantRefused(t, b, api.ErrSum)
		}
	}
}

func TestOpenFiveBytes(t *testing.T) {
	for c := range 256 {
		b := []byte{byte(c)}
		check := slow(b)
		wantOpened(t, append(bytes.Clone(b), laid(check)...), b)
		wantRefused(t, append(bytes.Clone(b), laid(check+1)...), api.ErrSum)
		wantRefused(t, append(bytes.Clone(b), laid(^check)...), api.ErrSum)
	}
}

func TestOpenCheckThatIsNotTheirs(t *testing.T) {
	check := slow([]byte("ab"))
	for name, b := range map[string][]byte{
		"lowest byte first": {'a', 'b', byte(check), byte(check >> 8), byte(check >> 16), byte(check >> 24)},
		"ahead of them":     append(laid(check), 'a', 'b'),
		"of others":         append([]byte("ab"), laid(slow([]byte("ac")))...),
		"of fewer":          append([]byte("ab"), laid(slow([]byte("a")))...),
		"of more":           append([]byte("ab"), laid(slow([]byte("abc")))...),
		"of all":            append([]byte("ab"), laid(slow([]byte("ab\x00\x00\x00\x00")))...),
		"none":              {'a', 'b', 0, 0, 0, 0},
		"cut by a byte":     append([]byte("ab"), laid(check)[:3]...),
		"a byte more":       append(append([]byte("ab"), laid(check)...), 0),
	} {
		if got, e := sum.Open(b); e != api.ErrSum || len(got) != 0 {
			t.Errorf("a check %s: % X, error %d", name, got, e)
		}
	}
}

func TestOpenOtherBytes(t *testing.T) {
	for _, b := range lists() {
		if len(b) < 4 {
			wantRefused(t, b, api.ErrTrunc)
			continue
		}
		end := len(b) - 4
		if bytes.Equal(b[end:], laid(slow(b[:end]))) {
			t.Fatalf("%d bytes of this test are sealed: take others", len(b))
		}
		wantRefused(t, b, api.ErrSum)
	}
}

// P2.3

func TestHandedInIsOnlyRead(t *testing.T) {
	for name, call := range map[string]func([]byte){
		"Of":   func(b []byte) { sum.Of(b) },
		"Seal": func(b []byte) { sum.Seal(b) },
		"Open": func(b []byte) { sum.Open(b) },
	} {
		for _, b := range [][]byte{[]byte("ab"), sum.Seal([]byte("ab")), turned(sum.Seal([]byte("ab")), 0)} {
			whole := append(bytes.Clone(b), bytes.Repeat([]byte{0xA5}, 16)...)
			before := bytes.Clone(whole)
			call(whole[:len(b)])
			if !bytes.Equal(whole, before) {
				t.Errorf("%s: % X, and its spare room, were % X", name, whole, before)
			}
		}
	}
}

func TestSealIsNewMemory(t *testing.T) {
	whole := []byte("abcdefghijkl")
	b := whole[:4] // with room for a check behind it
	first, second := sum.Seal(b), sum.Seal(b)
	wantApart(t, "Seal", first, second, whole)
}

func TestOpenIsNewMemory(t *testing.T) {
	b := sum.Seal([]byte("abcd"))
	first, _ := sum.Open(b)
	second, _ := sum.Open(b)
	wantApart(t, "Open", first, second, b)
}

// wantApart writes into one answer, its spare room too, and looks whether another one, or what was handed in, is as it was; and the other way round.
func wantApart(t *testing.T, what string, first, second, handed []byte) {
	t.Helper()
	if len(first) == 0 || !bytes.Equal(first, second) {
		t.Fatalf("%s: % X, then % X", what, first, second)
	}
	wantSecond, wantHanded := bytes.Clone(second), bytes.Clone(handed)
	spoil(first)
	if !bytes.Equal(second, wantSecond) || !bytes.Equal(handed, wantHanded) {
		t.Errorf("%s: writing into an answer changes something else", what)
	}
	spoil(handed)
	if !bytes.Equal(second, wantSecond) {
		t.Errorf("%s: writing into what was handed in changes an answer", what)
	}
}

func spoil(b []byte) {
	b = b[:cap(b)]
	for i := range b {
		b[i] ^= 0xFF
	}
}

func TestAnswersHangOnArgumentsAlone(t *testing.T) {
	b := []byte("abcd")
	check := sum.Of(b)
	spoil(sum.Seal(b))
	sum.Open([]byte{1})
	if again := sum.Of(b); again != check {
		t.Errorf("Of: %08X, then %08X", check, again)
	}
}

// P2.4, W6

func TestThereAndBack(t *testing.T) {
	for _, b := range lists() {
		wantOpened(t, sum.Seal(b), b)
		wantOpened(t, sum.Seal(sum.Seal(b)), sum.Seal(b))
	}
}

func TestBackAndThere(t *testing.T) {
	for _, b := range lists() {
		sealed := append(bytes.Clone(b), laid(crc32.ChecksumIEEE(b))...)
		wantSealedAgain(t, sealed, true)
		wantSealedAgain(t, b, false)
	}
}

func wantSealedAgain(t *testing.T, b []byte, opens bool) {
	t.Helper()
	out, e := sum.Open(b)
	if (e == api.OK) != opens {
		t.Errorf("Open of %d bytes: error %d", len(b), e)
	}
	if e == api.OK && !bytes.Equal(sum.Seal(out), b) {
		t.Errorf("% X can be opened, but Seal makes % X of it", b, sum.Seal(out))
	}
}

func FuzzOpen(f *testing.F) {
	for _, k := range known() {
		f.Add(k.b)
		f.Add(sum.Seal(k.b))
	}
	f.Fuzz(func(t *testing.T, b []byte) {
		wantOpened(t, sum.Seal(b), b)
		if sum.Of(b) != slow(b) {
			t.Errorf("Of(% X): %08X", b, sum.Of(b))
		}
		if out, e := sum.Open(b); e == api.OK && !bytes.Equal(sum.Seal(out), b) {
			t.Errorf("% X can be opened, but Seal makes % X of it", b, sum.Seal(out))
		}
	})
}

// P2.5

func TestOneTurnedBitIsTold(t *testing.T) {
	for _, b := range lists() {
		sealed := sum.Seal(b)
		for _, bit := range someBits(8 * len(sealed)) {
			if got, e := sum.Open(turned(sealed, bit)); e != api.ErrSum || len(got) != 0 {
				t.Errorf("bit %d of %d sealed bytes: %d bytes, error %d", bit, len(sealed), len(got), e)
			}
		}
	}
}

func TestOneTurnedBitMakesAnotherCheck(t *testing.T) {
	for _, b := range lists() {
		check := sum.Of(b)
		for _, bit := range someBits(8 * len(b)) {
			if sum.Of(turned(b, bit)) == check {
				t.Errorf("bit %d of %d bytes: the check %08X stays", bit, len(b), check)
			}
		}
	}
}

// someBits answers all bits of a short list; of a long one the first ones, the last ones (those of a check among them) and some between.
func someBits(bits int) []int {
	var some []int
	for bit := 0; bit < bits; bit++ {
		some = append(some, bit)
		if bit == 600 && bits > 1200 {
			some = append(some, bits/3, bits/2)
			bit = bits - 65
		}
	}
	return some
}

// P2.6

func TestThreeAsLong(t *testing.T) {
	r := rand.New(rand.NewSource(26))
	for _, size := range []int{0, 1, 2, 3, 4, 5, 8, 63, 64, 65, 255, 256, 257, 512, 5000} {
		t.Run(strconv.Itoa(size), func(t *testing.T) {
			zero, ones := make([]byte, size), bytes.Repeat([]byte{0xFF}, size)
			wantThree(t, zero, zero, zero)
			wantThree(t, zero, ones, random(r, size))
			for range 20 {
				a, b, c := random(r, size), random(r, size), random(r, size)
				wantThree(t, a, b, c)
				wantThree(t, a, a, b)
			}
		})
	}
}

func wantThree(t *testing.T, a, b, c []byte) {
	t.Helper()
	mixed := make([]byte, len(a))
	for i := range mixed {
		mixed[i] = a[i] ^ b[i] ^ c[i]
	}
	if got, want := sum.Of(mixed), sum.Of(a)^sum.Of(b)^sum.Of(c); got != want {
		t.Errorf("of % X, % X and % X: %08X, their checks make %08X", a, b, c, got, want)
	}
}
