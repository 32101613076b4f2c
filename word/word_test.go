package word_test

import (
	"bytes"
	"math"
	"math/rand"
	"testing"

	"hauberk/api"
	"hauberk/word"
)

const most = api.MaxNumber

// coded has numbers at the edges of each length, with their bytes in seven bits a byte.
func coded() []struct {
	v int
	b []byte
} {
	return []struct {
		v int
		b []byte
	}{
		{0, []byte{0x00}},
		{1, []byte{0x01}},
		{127, []byte{0x7F}},
		{128, []byte{0x80, 0x01}},
		{300, []byte{0xAC, 0x02}},
		{1<<14 - 1, []byte{0xFF, 0x7F}},
		{1 << 14, []byte{0x80, 0x80, 0x01}},
		{1<<49 - 1, []byte{0xFF, 0xFF, 0xFF, 0xFF, 0xFF, 0xFF, 0x7F}},
		{1 << 49, []byte{0x80, 0x80, 0x80, 0x80, 0x80, 0x80, 0x80, 0x01}},
		{1<<53 - 1, []byte{0xFF, 0xFF, 0xFF, 0xFF, 0xFF, 0xFF, 0xFF, 0x0F}},
	}
}

// edges has every number beside a power of two that may be put, in order.
func edges() []int {
	vs := []int{0}
	for p := 0; p <= 53; p++ {
		for _, v := range []int{1<<p - 1, 1 << p, 1<<p + 1} {
			if v > vs[len(vs)-1] && v <= most {
				vs = append(vs, v)
			}
		}
	}
	return vs
}

func put(t *testing.T, v int) []byte {
	t.Helper()
	w := word.Write()
	if e := w.Put(v); e != api.OK {
		t.Fatalf("Put(%d): error %d", v, e)
	}
	return w.Bytes()
}

func octets(t *testing.T, b []byte) []byte {
	t.Helper()
	w := word.Write()
	if e := w.Octets(b); e != api.OK {
		t.Fatalf("Octets of %d bytes: error %d", len(b), e)
	}
	return w.Bytes()
}

func wantBytes(t *testing.T, what string, got, want []byte) {
	t.Helper()
	if !bytes.Equal(got, want) {
		t.Errorf("%s: % X, want % X", what, got, want)
	}
}

func wantErrno(t *testing.T, what string, got, want api.Errno) {
	t.Helper()
	if got != want {
		t.Errorf("%s: error %d, want %d", what, got, want)
	}
}

// P1.1

func TestNewWriterHasNoBytes(t *testing.T) {
	w := word.Write()
	if w == nil {
		t.Fatal("no writer")
	}
	wantBytes(t, "Bytes", w.Bytes(), nil)
}

func TestWritersAreApart(t *testing.T) {
	a, b := word.Write(), word.Write()
	a.Put(1)
	b.Put(2)
	wantBytes(t, "first", a.Bytes(), []byte{1})
	wantBytes(t, "second", b.Bytes(), []byte{2})
}

func TestWriterThatIsNone(t *testing.T) {
	for name, w := range map[string]*word.Writer{"nil": nil, "zero": new(word.Writer)} {
		for _, v := range []int{0, -1, most, most + 1} {
			wantErrno(t, name+" Put", w.Put(v), api.ErrNil)
			for _, size := range []int{-1, 0, 1, 8, 9} {
				wantErrno(t, name+" Fixed", w.Fixed(v, size), api.ErrNil)
			}
		}
		wantErrno(t, name+" Octets", w.Octets([]byte{1}), api.ErrNil)
		wantErrno(t, name+" Octets of none", w.Octets(nil), api.ErrNil)
		wantBytes(t, name+" Bytes", w.Bytes(), nil)
	}
}

func TestReaderThatIsNone(t *testing.T) {
	for name, r := range map[string]*word.Reader{"nil": nil, "zero": new(word.Reader)} {
		v, e := r.Get()
		if v != 0 || e != api.ErrNil {
			t.Errorf("%s Get: %d, error %d", name, v, e)
		}
		for _, size := range []int{-1, 0, 1, 8, 9} {
			if v, e := r.Fixed(size); v != 0 || e != api.ErrNil {
				t.Errorf("%s Fixed(%d): %d, error %d", name, size, v, e)
			}
		}
		for _, n := range []int{-1, 0, 1} {
			if b, e := r.Octets(n); len(b) != 0 || e != api.ErrNil {
				t.Errorf("%s Octets(%d): % X, error %d", name, n, b, e)
			}
		}
		if n := r.Left(); n != 0 {
			t.Errorf("%s Left: %d", name, n)
		}
	}
}

// P1.2

func TestPut(t *testing.T) {
	all := word.Write()
	var want []byte
	for _, c := range coded() {
		wantBytes(t, "alone", put(t, c.v), c.b)
		wantErrno(t, "Put", all.Put(c.v), api.OK)
		want = append(want, c.b...)
	}
	wantBytes(t, "one behind the other", all.Bytes(), want)
}

func TestPutOutOfRange(t *testing.T) {
	w := word.Write()
	w.Put(5)
	for _, v := range []int{-1, math.MinInt, 1 << 53, math.MaxInt} {
		wantErrno(t, "Put", w.Put(v), api.ErrRange)
		wantBytes(t, "behind an error", w.Bytes(), []byte{5})
	}
}

func TestWriteFixed(t *testing.T) {
	for _, c := range []struct {
		v, size int
		b       []byte
	}{
		{0, 1, []byte{0}},
		{255, 1, []byte{255}},
		{256, 2, []byte{1, 0}},
		{258, 3, []byte{0, 1, 2}},
		{0, 8, make([]byte, 8)},
		{1 << 53, 7, []byte{0x20, 0, 0, 0, 0, 0, 0}},
		{0x0102030405060708, 8, []byte{1, 2, 3, 4, 5, 6, 7, 8}},
		{1<<63 - 1, 8, []byte{0x7F, 0xFF, 0xFF, 0xFF, 0xFF, 0xFF, 0xFF, 0xFF}},
	} {
		w := word.Write()
		wantErrno(t, "Fixed", w.Fixed(c.v, c.size), api.OK)
		wantBytes(t, "Fixed", w.Bytes(), c.b)
	}
}

func TestWriteFixedFits(t *testing.T) {
	for size := 1; size < 8; size++ {
		w := word.Write()
		wantErrno(t, "greatest", w.Fixed(1<<(8*size)-1, size), api.OK)
		want := bytes.Repeat([]byte{0xFF}, size)
		wantBytes(t, "greatest", w.Bytes(), want)
		for _, v := range []int{1 << (8 * size), -1, math.MinInt, math.MaxInt} {
			wantErrno(t, "does not fit", w.Fixed(v, size), api.ErrRange)
			wantBytes(t, "behind an error", w.Bytes(), want)
		}
	}
	w := word.Write()
	wantErrno(t, "below 0", w.Fixed(-1, 8), api.ErrRange)
	wantErrno(t, "least", w.Fixed(math.MinInt, 8), api.ErrRange)
	wantBytes(t, "behind errors", w.Bytes(), nil)
}

func TestWriteFixedWrongSize(t *testing.T) {
	w := word.Write()
	w.Put(5)
	for _, size := range []int{0, 9, -1, 64, math.MinInt, math.MaxInt} {
		for _, v := range []int{0, 1, -1, math.MaxInt} {
			wantErrno(t, "Fixed", w.Fixed(v, size), api.ErrArg)
			wantBytes(t, "behind an error", w.Bytes(), []byte{5})
		}
	}
}

func TestWriteOctets(t *testing.T) {
	wantBytes(t, "none", octets(t, nil), []byte{0})
	wantBytes(t, "empty", octets(t, []byte{}), []byte{0})
	wantBytes(t, "two", octets(t, []byte{1, 2}), []byte{2, 1, 2})
	for n, head := range map[int][]byte{127: {0x7F}, 128: {0x80, 0x01}, 300: {0xAC, 0x02}} {
		b := bytes.Repeat([]byte{0x81}, n)
		wantBytes(t, "many", octets(t, b), append(head, b...))
	}
}

func TestBytesAsOftenAsAsked(t *testing.T) {
	w := word.Write()
	w.Put(300)
	w.Fixed(258, 3)
	w.Octets([]byte{1, 2})
	want := []byte{0xAC, 0x02, 0, 1, 2, 2, 1, 2}
	wantBytes(t, "once", w.Bytes(), want)
	wantBytes(t, "twice", w.Bytes(), want)
	w.Put(9)
	wantBytes(t, "more", w.Bytes(), append(want, 9))
}

// P1.3

func TestGet(t *testing.T) {
	var all []byte
	for _, c := range coded() {
		all = append(all, c.b...)
	}
	r := word.New(all)
	left := len(all)
	for _, c := range coded() {
		left -= len(c.b)
		if v, e := r.Get(); v != c.v || e != api.OK || r.Left() != left {
			t.Errorf("Get: %d, error %d, left %d; want %d, left %d", v, e, r.Left(), c.v, left)
		}
	}
	if _, e := r.Get(); e != api.ErrTrunc || r.Left() != 0 {
		t.Errorf("Get at the end: error %d, left %d", e, r.Left())
	}
}

func TestGetRefuses(t *testing.T) {
	high := func(n int, last ...byte) []byte { return append(bytes.Repeat([]byte{0x80}, n), last...) }
	full := func(last ...byte) []byte { return append(bytes.Repeat([]byte{0xFF}, 7), last...) }
	for name, c := range map[string]struct {
		b []byte
		e api.Errno
	}{
		"none":                       {nil, api.ErrTrunc},
		"empty":                      {[]byte{}, api.ErrTrunc},
		"one with more":              {high(1), api.ErrTrunc},
		"seven with more":            {high(7), api.ErrTrunc},
		"seven full with more":       {full(), api.ErrTrunc},
		"eight with more":            {high(8), api.ErrSyntax},
		"eight with more, then one":  {high(8, 1), api.ErrSyntax},
		"eight full with more":       {full(0xFF), api.ErrSyntax},
		"nine with more":             {high(9), api.ErrSyntax},
		"twenty with more":           {high(20), api.ErrSyntax},
		"last 0, second":             {high(1, 0), api.ErrSyntax},
		"last 0, third, bits ahead":  {[]byte{0xFF, 0x81, 0}, api.ErrSyntax},
		"last 0, eighth":             {high(7, 0), api.ErrSyntax},
		"last 0, then another":       {[]byte{0x81, 0, 1}, api.ErrSyntax},
		"2^53":                       {high(7, 0x10), api.ErrSyntax},
		"2^53 and all below":         {full(0x10), api.ErrSyntax},
		"all 56 bits":                {full(0x7F), api.ErrSyntax},
		"all 56 bits, then a number": {full(0x7F, 1), api.ErrSyntax},
	} {
		r := word.New(c.b)
		for range 2 {
			if v, e := r.Get(); v != 0 || e != c.e || r.Left() != len(c.b) {
				t.Errorf("%s: %d, error %d, left %d; want error %d", name, v, e, r.Left(), c.e)
			}
		}
	}
}

func TestReadFixed(t *testing.T) {
	b := []byte{0, 1, 2, 9, 0x7F, 0xFF, 0xFF, 0xFF, 0xFF, 0xFF, 0xFF, 0xFF, 1, 0}
	r := word.New(b)
	for _, c := range []struct{ size, v, left int }{{3, 258, 11}, {1, 9, 10}, {8, 1<<63 - 1, 2}, {2, 256, 0}} {
		if v, e := r.Fixed(c.size); v != c.v || e != api.OK || r.Left() != c.left {
			t.Errorf("Fixed(%d): %d, error %d, left %d; want %d, left %d", c.size, v, e, r.Left(), c.v, c.left)
		}
	}
}

func TestReadFixedRefuses(t *testing.T) {
	full := bytes.Repeat([]byte{0xFF}, 8)
	for _, c := range []struct {
		b    []byte
		size int
		e    api.Errno
	}{
		{full, 0, api.ErrArg},
		{full, 9, api.ErrArg},
		{append(full, 1), 9, api.ErrArg},
		{full, -1, api.ErrArg},
		{full, math.MinInt, api.ErrArg},
		{full, math.MaxInt, api.ErrArg},
		{nil, 0, api.ErrArg},
		{nil, 9, api.ErrArg},
		{nil, 1, api.ErrTrunc},
		{full[:1], 2, api.ErrTrunc},
		{full[:7], 8, api.ErrTrunc},
		{full, 8, api.ErrRange},
		{[]byte{0x80, 0, 0, 0, 0, 0, 0, 0}, 8, api.ErrRange},
	} {
		r := word.New(c.b)
		for range 2 {
			if v, e := r.Fixed(c.size); v != 0 || e != c.e || r.Left() != len(c.b) {
				t.Errorf("% X, Fixed(%d): %d, error %d, left %d; want error %d", c.b, c.size, v, e, r.Left(), c.e)
			}
		}
	}
}

func TestReadOctets(t *testing.T) {
	for _, n := range []int{0, 1, 2, 127, 128, 300} {
		b := bytes.Repeat([]byte{0x83}, n)
		for _, limit := range []int{n, n + 1, math.MaxInt} {
			r := word.New(append(octets(t, b), 7))
			got, e := r.Octets(limit)
			wantErrno(t, "Octets", e, api.OK)
			wantBytes(t, "Octets", got, b)
			if r.Left() != 1 {
				t.Errorf("%d bytes: left %d", n, r.Left())
			}
		}
	}
}

func TestReadOctetsRefuses(t *testing.T) {
	for _, c := range []struct {
		b     []byte
		limit int
		e     api.Errno
	}{
		{nil, 5, api.ErrTrunc},
		{[]byte{0x80}, 5, api.ErrTrunc},
		{[]byte{0x80, 0}, 5, api.ErrSyntax},
		{bytes.Repeat([]byte{0x80}, 8), 5, api.ErrSyntax},
		{nil, -1, api.ErrTrunc},
		{[]byte{0x80, 0}, -1, api.ErrSyntax},
		{[]byte{0}, -1, api.ErrLimit},
		{[]byte{0}, math.MinInt, api.ErrLimit},
		{[]byte{1, 9}, -1, api.ErrLimit},
		{[]byte{1, 9}, 0, api.ErrLimit},
		{[]byte{2, 1}, 1, api.ErrLimit},
		{[]byte{2, 1}, 2, api.ErrTrunc},
		{[]byte{2, 1}, 5, api.ErrTrunc},
		{[]byte{1}, 1, api.ErrTrunc},
		{[]byte{0xFF, 0xFF, 0xFF, 0xFF, 0xFF, 0xFF, 0xFF, 0x0F}, math.MaxInt, api.ErrTrunc},
		{[]byte{0xFF, 0xFF, 0xFF, 0xFF, 0xFF, 0xFF, 0xFF, 0x0F}, most - 1, api.ErrLimit},
	} {
		r := word.New(c.b)
		for range 2 {
			if b, e := r.Octets(c.limit); len(b) != 0 || e != c.e || r.Left() != len(c.b) {
				t.Errorf("% X, Octets(%d): % X, error %d, left %d; want error %d", c.b, c.limit, b, e, r.Left(), c.e)
			}
		}
	}
}

func TestReadOnBehindAnError(t *testing.T) {
	r := word.New([]byte{2, 1, 7, 0, 1, 2})
	_, e := r.Octets(1)
	wantErrno(t, "too many", e, api.ErrLimit)
	_, e = r.Fixed(7)
	wantErrno(t, "too few left", e, api.ErrTrunc)
	b, e := r.Octets(2)
	wantErrno(t, "Octets", e, api.OK)
	wantBytes(t, "Octets", b, []byte{1, 7})
	v, e := r.Fixed(3)
	if v != 258 || e != api.OK || r.Left() != 0 {
		t.Errorf("Fixed: %d, error %d, left %d", v, e, r.Left())
	}
}

// P1.4

// roomy answers a copy of b at the beginning of more memory, and that memory.
func roomy(b []byte) (part, whole []byte) {
	whole = bytes.Repeat([]byte{0x55}, len(b)+16)
	copy(whole, b)
	return whole[:len(b)], whole
}

func TestWriterDoesNotKeepOctets(t *testing.T) {
	b, whole := roomy([]byte{1, 2, 3})
	before := bytes.Clone(whole)
	w := word.Write()
	w.Octets(b)
	w.Put(300)
	wantBytes(t, "handed in", whole, before)
	clear(whole)
	wantBytes(t, "written", w.Bytes(), []byte{3, 1, 2, 3, 0xAC, 2})
}

func TestBytesAreNewMemory(t *testing.T) {
	w := word.Write()
	w.Octets([]byte{1, 2, 3})
	want := []byte{3, 1, 2, 3}
	first, second := w.Bytes(), w.Bytes()
	clear(first[:cap(first)])
	wantBytes(t, "another answer", second, want)
	wantBytes(t, "written", w.Bytes(), want)
	w.Put(9)
	wantBytes(t, "an earlier answer", second, want)
	_ = append(second, 7)
	wantBytes(t, "written on", w.Bytes(), append(want, 9))
}

func TestReaderDoesNotKeepBytes(t *testing.T) {
	b, whole := roomy([]byte{0xAC, 2, 2, 5, 6, 1, 0})
	before := bytes.Clone(whole)
	r := word.New(b)
	r.Get()
	wantBytes(t, "handed in", whole, before)
	clear(whole)
	got, e := r.Octets(2)
	wantErrno(t, "Octets", e, api.OK)
	wantBytes(t, "Octets", got, []byte{5, 6})
	if v, e := r.Fixed(2); v != 256 || e != api.OK {
		t.Errorf("Fixed: %d, error %d", v, e)
	}
}

func TestReaderDoesNotReadSpareRoom(t *testing.T) {
	b, _ := roomy([]byte{2, 1})
	r := word.New(b)
	if _, e := r.Octets(2); e != api.ErrTrunc || r.Left() != 2 {
		t.Errorf("Octets: error %d, left %d", e, r.Left())
	}
	if _, e := r.Fixed(3); e != api.ErrTrunc {
		t.Errorf("Fixed: error %d", e)
	}
}

func TestOctetsAreNewMemory(t *testing.T) {
	in := []byte{2, 5, 6, 2, 7, 8, 9}
	r := word.New(in)
	first, _ := r.Octets(2)
	clear(first[:cap(first)])
	second, e := r.Octets(2)
	wantErrno(t, "Octets", e, api.OK)
	wantBytes(t, "next ones", second, []byte{7, 8})
	_ = append(second, 1)
	if v, e := r.Get(); v != 9 || e != api.OK {
		t.Errorf("Get behind them: %d, error %d", v, e)
	}
	wantBytes(t, "handed in", in, []byte{2, 5, 6, 2, 7, 8, 9})
}

// P1.5 and W6

func TestNumbersThereAndBack(t *testing.T) {
	for _, v := range edges() {
		r := word.New(put(t, v))
		if got, e := r.Get(); got != v || e != api.OK || r.Left() != 0 {
			t.Errorf("%d: %d, error %d, left %d", v, got, e, r.Left())
		}
	}
}

func TestFixedThereAndBack(t *testing.T) {
	for size := 1; size <= 8; size++ {
		for p := 0; p < 8*size && p < 63; p++ {
			for _, v := range []int{1<<p - 1, 1 << p, 2*(1<<p-1) + 1} {
				w := word.Write()
				wantErrno(t, "Fixed", w.Fixed(v, size), api.OK)
				r := word.New(w.Bytes())
				if got, e := r.Fixed(size); got != v || e != api.OK || r.Left() != 0 {
					t.Errorf("%d in %d: %d, error %d, left %d", v, size, got, e, r.Left())
				}
			}
		}
	}
}

// call is one thing that is written, and then looked for.
type call struct {
	size int // of Fixed; 0: Put; -1: Octets
	v    int
	b    []byte
}

func someCall(dice *rand.Rand) call {
	size := dice.Intn(10) - 1
	switch {
	case size < 0:
		b := make([]byte, dice.Intn(400))
		dice.Read(b)
		return call{size: size, b: b}
	case size == 0:
		return call{v: dice.Intn(most+1) >> dice.Intn(54)}
	}
	return call{size: size, v: int(dice.Uint64() >> max(64-8*size, 1) >> dice.Intn(8*size))}
}

func (c call) write(w *word.Writer) api.Errno {
	switch c.size {
	case -1:
		return w.Octets(c.b)
	case 0:
		return w.Put(c.v)
	}
	return w.Fixed(c.v, c.size)
}

func (c call) isRead(r *word.Reader) bool {
	var v int
	var b []byte
	var e api.Errno
	switch c.size {
	case -1:
		b, e = r.Octets(len(c.b))
	case 0:
		v, e = r.Get()
	default:
		v, e = r.Fixed(c.size)
	}
	return e == api.OK && v == c.v && bytes.Equal(b, c.b)
}

func TestAllCallsThereAndBack(t *testing.T) {
	dice := rand.New(rand.NewSource(1))
	for round := range 500 {
		w := word.Write()
		calls := make([]call, dice.Intn(30))
		for i := range calls {
			calls[i] = someCall(dice)
			if e := calls[i].write(w); e != api.OK {
				t.Fatalf("round %d, write %+v: error %d", round, calls[i], e)
			}
		}
		r := word.New(w.Bytes())
		for _, c := range calls {
			if !c.isRead(r) {
				t.Fatalf("round %d: %+v is not read", round, c)
			}
		}
		if r.Left() != 0 {
			t.Fatalf("round %d: left %d", round, r.Left())
		}
	}
}

// checkBackAndThere asks that what is read of b is written as the very bytes that were read.
func checkBackAndThere(t *testing.T, b []byte) {
	t.Helper()
	r := word.New(b)
	if v, e := r.Get(); e == api.OK {
		wantBytes(t, "Get, Put", put(t, v), b[:len(b)-r.Left()])
	}
	r = word.New(b)
	if got, e := r.Octets(math.MaxInt); e == api.OK {
		wantBytes(t, "Octets, Octets", octets(t, got), b[:len(b)-r.Left()])
	}
}

func TestBackAndThereShort(t *testing.T) {
	for a := range 256 {
		for b := range 256 {
			checkBackAndThere(t, []byte{byte(a), byte(b), 0})
			checkBackAndThere(t, []byte{byte(a), byte(b), 0x80, 1})
		}
	}
}

func FuzzBackAndThere(f *testing.F) {
	for _, c := range coded() {
		f.Add(c.b)
	}
	f.Add([]byte{0x80, 0x00})
	f.Add([]byte{0x03, 1, 2, 3, 4})
	f.Add([]byte{0x83, 0x00, 1, 2, 3, 4})
	f.Add([]byte{0xFF, 0xFF, 0xFF, 0xFF, 0xFF, 0xFF, 0xFF, 0x10})
	f.Fuzz(checkBackAndThere)
}

// P1.6

func TestGreaterTakesNoFewerBytes(t *testing.T) {
	last := 0
	for _, v := range edges() {
		n := len(put(t, v))
		if n < last {
			t.Errorf("%d takes %d bytes, a lesser one %d", v, n, last)
		}
		last = n
	}
}

func TestNoneIsTheBeginningOfAnother(t *testing.T) {
	vs := edges()
	for _, v := range vs {
		b := put(t, v)
		for _, u := range vs {
			if u != v && bytes.HasPrefix(put(t, u), b) {
				t.Errorf("%d begins as %d", u, v)
			}
		}
	}
}
