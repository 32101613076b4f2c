package mark_test

import (
	"fmt"
	"math"
	"math/rand"
	"slices"
	"strconv"
	"testing"

	"hauberk/api"
	"hauberk/mark"
)

const most = 1<<53 - 1

func ring(seq, rep int) api.RingId { return api.RingId{Seq: seq, Rep: rep} }

func key(stamp, seq, rep, last int) api.Key {
	return api.Key{Stamp: stamp, Ring: ring(seq, rep), Seq: last}
}

// numbers answers numbers at all edges, within and without, in order.
func numbers() []int {
	return []int{
		math.MinInt, math.MinInt + 1, -1 << 53, -1 << 32, -9, -8, -2, -1,
		0, 1, 2, 3, 7, 8, 9, 10, 15, 16, 17, 1<<16 - 1, 1 << 16, 1<<24 - 1, 1 << 24, 1<<31 - 1, 1 << 31, 1 << 32, 1<<32 + 1,
		1<<36 - 1, 1 << 36, 1<<36 + 1, 1<<40 - 1, 1 << 40, 1<<40 + 1, 1<<52 - 1, most - 1, most,
		most + 1, most + 2, 1 << 54, 1 << 56, 1 << 62, math.MaxInt - 1, math.MaxInt,
	}
}

// reps answers numbers around the nodes', and far from them.
func reps() []int {
	l := []int{math.MinInt, -8, -1}
	for n := range 20 {
		l = append(l, n)
	}
	return append(l, 256, 257, 1<<32+1, most, math.MaxInt)
}

func mayBeRing(r api.RingId) bool {
	if r.Seq == 0 || r.Rep == 0 {
		return r.Seq == 0 && r.Rep == 0
	}
	return r.Seq > 0 && r.Seq <= most && r.Rep > 0 && r.Rep <= 8
}

func mayBe(k api.Key) bool {
	return k.Stamp >= 0 && k.Stamp <= most && k.Seq >= 0 && k.Seq <= most && mayBeRing(k.Ring)
}

func fits(k api.Key) bool {
	return k.Stamp < 1<<40 && k.Ring.Seq < 1<<40 && k.Seq < 1<<36
}

// keyOrder holds keys against each other as lists of their numbers, as the document tells their order.
func keyOrder(a, b api.Key) int {
	list := func(k api.Key) []int { return []int{k.Stamp, k.Ring.Seq, k.Ring.Rep, k.Seq} }
	return slices.Compare(list(a), list(b))
}

// written answers a key's two numbers by writing its bits out one behind the other.
func written(t testing.TB, k api.Key) [2]uint64 {
	t.Helper()
	s := fmt.Sprintf("%08b%040b%040b%04b%036b", 0, k.Stamp, k.Ring.Seq, k.Ring.Rep, k.Seq)
	if len(s) != 128 {
		t.Fatalf("%+v: %d bits", k, len(s))
	}
	return [2]uint64{bitsOf(t, s[:64]), bitsOf(t, s[64:])}
}

// said answers the key that two numbers say, by reading their bits.
func said(t testing.TB, x [2]uint64) (head int, k api.Key) {
	t.Helper()
	s := fmt.Sprintf("%064b%064b", x[0], x[1])
	part := func(from, to int) int { return int(bitsOf(t, s[from:to])) }
	return part(0, 8), key(part(8, 48), part(48, 88), part(88, 92), part(92, 128))
}

func bitsOf(t testing.TB, s string) uint64 {
	t.Helper()
	v, err := strconv.ParseUint(s, 2, 64)
	if err != nil {
		t.Fatal(err)
	}
	return v
}

// packable answers keys at the edges of all their numbers, in their order.
func packable() []api.Key {
	var l []api.Key
	for _, stamp := range []int{0, 1, 1<<24 - 1, 1 << 39, 1<<40 - 1} {
		for _, seq := range []int{0, 1, 2, 1<<24 - 1, 1 << 24, 1<<24 + 1, 1 << 39, 1<<40 - 1} {
			for rep := range 9 {
				for _, last := range []int{0, 1, 1 << 32, 1 << 35, 1<<36 - 1} {
					if k := key(stamp, seq, rep, last); mayBeRing(k.Ring) {
						l = append(l, k)
					}
				}
			}
		}
	}
	return l
}

// anyKeys answers keys of numbers at the edges, most of which may not be, each with some that differ in one field alone.
func anyKeys(count int) []api.Key {
	r := rand.New(rand.NewSource(4))
	pick := func() int { return numbers()[r.Intn(len(numbers()))] }
	var l []api.Key
	for len(l) < count {
		k := key(pick(), pick(), pick(), pick())
		l = append(l, k, apart(k, r.Intn(4), pick()), apart(k, r.Intn(4), pick()))
	}
	return l
}

// apart answers k with another number in one field.
func apart(k api.Key, field, v int) api.Key {
	switch field {
	case 0:
		k.Stamp = v
	case 1:
		k.Ring.Seq = v
	case 2:
		k.Ring.Rep = v
	case 3:
		k.Seq = v
	}
	return k
}

func refusal(may bool) api.Errno {
	if may {
		return api.OK
	}
	return api.ErrArg
}

// P4.1

func TestCheckRing(t *testing.T) {
	cases := []struct {
		r    api.RingId
		want api.Errno
	}{
		{ring(0, 0), api.OK}, {ring(1, 1), api.OK}, {ring(1, 8), api.OK}, {ring(7, 3), api.OK}, {ring(most, 1), api.OK}, {ring(most, 8), api.OK},
		{ring(0, 1), api.ErrArg}, {ring(0, 8), api.ErrArg}, {ring(0, 9), api.ErrArg}, {ring(0, -1), api.ErrArg},
		{ring(1, 0), api.ErrArg}, {ring(most, 0), api.ErrArg}, {ring(-1, 0), api.ErrArg},
		{ring(1, 9), api.ErrArg}, {ring(most, 9), api.ErrArg}, {ring(1, -1), api.ErrArg}, {ring(-1, -1), api.ErrArg},
		{ring(-1, 1), api.ErrArg}, {ring(most+1, 1), api.ErrArg}, {ring(most+1, 8), api.ErrArg}, {ring(most+1, 0), api.ErrArg},
		{ring(math.MinInt, 1), api.ErrArg}, {ring(math.MaxInt, 1), api.ErrArg}, {ring(1, math.MinInt), api.ErrArg}, {ring(1, math.MaxInt), api.ErrArg},
		{ring(math.MinInt, math.MinInt), api.ErrArg}, {ring(math.MaxInt, math.MaxInt), api.ErrArg},
	}
	for _, c := range cases {
		if e := mark.CheckRing(c.r); e != c.want {
			t.Errorf("CheckRing(%v): %d, want %d", c.r, e, c.want)
		}
	}
}

func TestCheckRingAtAllEdges(t *testing.T) {
	for _, seq := range numbers() {
		for _, rep := range reps() {
			r := ring(seq, rep)
			if e := mark.CheckRing(r); e != refusal(mayBeRing(r)) {
				t.Errorf("CheckRing(%v): %d", r, e)
			}
		}
	}
}

func TestCheck(t *testing.T) {
	cases := []struct {
		k    api.Key
		want api.Errno
	}{
		{key(0, 0, 0, 0), api.OK}, {key(5, 1, 1, 9), api.OK}, {key(most, 0, 0, 0), api.OK}, {key(0, 0, 0, most), api.OK}, {key(most, most, 8, most), api.OK},
		{key(most+1, 0, 0, 0), api.ErrArg}, {key(-1, 0, 0, 0), api.ErrArg}, {key(math.MinInt, 0, 0, 0), api.ErrArg}, {key(math.MaxInt, 0, 0, 0), api.ErrArg},
		{key(0, 0, 0, most+1), api.ErrArg}, {key(0, 0, 0, -1), api.ErrArg}, {key(0, 0, 0, math.MinInt), api.ErrArg}, {key(0, 0, 0, math.MaxInt), api.ErrArg},
		{key(5, 0, 1, 9), api.ErrArg}, {key(5, 1, 0, 9), api.ErrArg}, {key(5, 1, 9, 9), api.ErrArg}, {key(5, -1, 1, 9), api.ErrArg}, {key(5, most+1, 1, 9), api.ErrArg},
		{key(5, math.MinInt, 1, 9), api.ErrArg}, {key(5, math.MaxInt, 1, 9), api.ErrArg}, {key(5, 1, math.MinInt, 9), api.ErrArg}, {key(5, 1, math.MaxInt, 9), api.ErrArg},
	}
	for _, c := range cases {
		if e := mark.Check(c.k); e != c.want {
			t.Errorf("Check(%v): %d, want %d", c.k, e, c.want)
		}
	}
}

func TestCheckAtAllEdges(t *testing.T) {
	rings := []api.RingId{{}, ring(1, 1), ring(most, 8), ring(0, 1), ring(1, 0), ring(1, 9), ring(most+1, 1), ring(-1, 1)}
	for _, stamp := range numbers() {
		for _, last := range numbers() {
			for _, r := range rings {
				k := api.Key{Stamp: stamp, Ring: r, Seq: last}
				if e := mark.Check(k); e != refusal(mayBe(k)) {
					t.Errorf("Check(%v): %d", k, e)
				}
			}
		}
	}
}

// P4.2

func TestRings(t *testing.T) {
	cases := []struct {
		a, b api.RingId
		want int
	}{
		{ring(2, 1), ring(1, 8), 1},
		{ring(2, 1), ring(2, 3), -1},
		{ring(0, 0), ring(0, 0), 0},
		{ring(0, 0), ring(1, 1), -1},
		{ring(most, 8), ring(most, 8), 0},
		{ring(most-1, 8), ring(most, 1), -1},
		{ring(0, 1), ring(0, 0), 1},
		{ring(0, -1), ring(0, 0), -1},
		{ring(math.MinInt, 1), ring(math.MaxInt, 1), -1},
		{ring(math.MinInt, 0), ring(1, 0), -1},
		{ring(3, math.MaxInt), ring(3, math.MinInt), 1},
		{ring(-1, math.MaxInt), ring(0, math.MinInt), -1},
	}
	for _, c := range cases {
		if got, back := mark.Rings(c.a, c.b), mark.Rings(c.b, c.a); got != c.want || back != -c.want {
			t.Errorf("Rings(%v, %v): %d, turned about %d, want %d", c.a, c.b, got, back, c.want)
		}
	}
}

func TestRingsAtAllEdges(t *testing.T) {
	var l []api.RingId
	for _, seq := range numbers() {
		for _, rep := range []int{math.MinInt, -1, 0, 1, 2, 8, 9, math.MaxInt} {
			l = append(l, ring(seq, rep))
		}
	}
	for i, a := range l { // they stand in their order
		for j, b := range l {
			want := max(-1, min(1, i-j))
			if got := mark.Rings(a, b); got != want {
				t.Errorf("Rings(%v, %v): %d, want %d", a, b, got, want)
			}
		}
	}
}

func TestKeys(t *testing.T) {
	cases := []struct {
		a, b api.Key
		want int
	}{
		{key(5, 1, 1, 9), key(5, 1, 2, 0), -1},
		{key(5, 1, 1, 9), key(5, 1, 1, 8), 1},
		{key(0, 0, 0, 0), key(0, 0, 0, 0), 0},
		{key(1, 2, 3, 4), key(1, 2, 3, 4), 0},
		{key(most, most, 8, most), key(most, most, 8, most), 0},
		{key(1, 2, 3, 4), key(2, 2, 3, 4), -1},
		{key(1, 2, 3, 4), key(1, 3, 3, 4), -1},
		{key(1, 2, 3, 4), key(1, 2, 4, 4), -1},
		{key(1, 2, 3, 4), key(1, 2, 3, 5), -1},
		{key(4, 9, 8, 9), key(5, 0, 0, 0), -1},
		{key(5, 1, 8, 9), key(5, 2, 1, 0), -1},
		{key(math.MinInt, 0, 0, 0), key(math.MaxInt, 0, 0, 0), -1},
		{key(0, math.MinInt, 0, 0), key(0, math.MaxInt, 0, 0), -1},
		{key(0, 0, math.MinInt, 0), key(0, 0, math.MaxInt, 0), -1},
		{key(0, 0, 0, math.MinInt), key(0, 0, 0, math.MaxInt), -1},
		{key(-1, math.MaxInt, math.MaxInt, math.MaxInt), key(0, math.MinInt, math.MinInt, math.MinInt), -1},
		{key(math.MinInt, 1, 1, 1), key(math.MinInt, 1, 1, 1), 0},
	}
	for _, c := range cases {
		if got, back := mark.Keys(c.a, c.b), mark.Keys(c.b, c.a); got != c.want || back != -c.want {
			t.Errorf("Keys(%v, %v): %d, turned about %d, want %d", c.a, c.b, got, back, c.want)
		}
	}
}

func TestKeysThatDifferInOneField(t *testing.T) {
	for _, k := range []api.Key{{}, key(1, 2, 3, 4), key(most, most, 8, most), key(-1, -2, -3, -4)} {
		for field := range 4 {
			for i, v := range numbers() {
				for j, w := range numbers() {
					want := max(-1, min(1, i-j))
					if got := mark.Keys(apart(k, field, v), apart(k, field, w)); got != want {
						t.Errorf("%v, field %d being %d and %d: %d, want %d", k, field, v, w, got, want)
					}
				}
			}
		}
	}
}

func TestKeysOfAnyNumbers(t *testing.T) {
	l := anyKeys(900)
	for _, a := range l {
		for _, b := range l {
			if got, want := mark.Keys(a, b), keyOrder(a, b); got != want {
				t.Fatalf("Keys(%v, %v): %d, want %d", a, b, got, want)
			}
		}
	}
}

// P4.3

func TestPack(t *testing.T) {
	cases := []struct {
		k api.Key
		x [2]uint64
	}{
		{key(0, 0, 0, 0), [2]uint64{0, 0}},
		{key(1, 2, 3, 4), [2]uint64{0x0000000000010000, 0x0000023000000004}},
		{key(1, 0, 0, 0), [2]uint64{0x0000000000010000, 0}},
		{key(0, 0, 0, 1), [2]uint64{0, 1}},
		{key(0, 1, 1, 0), [2]uint64{0, 0x0000011000000000}},
		{key(0, 1<<24-1, 1, 0), [2]uint64{0, 0xFFFFFF1000000000}},
		{key(0, 1<<24, 8, 0), [2]uint64{1, 0x0000008000000000}},
		{key(1<<40-1, 0, 0, 0), [2]uint64{0x00FFFFFFFFFF0000, 0}},
		{key(0, 1<<40-1, 8, 0), [2]uint64{0xFFFF, 0xFFFFFF8000000000}},
		{key(0, 0, 0, 1<<36-1), [2]uint64{0, 0x0000000FFFFFFFFF}},
		{key(1<<40-1, 1<<40-1, 8, 1<<36-1), [2]uint64{0x00FFFFFFFFFFFFFF, 0xFFFFFF8FFFFFFFFF}},
		{key(0x123456789A, 0xBCDEF01234, 5, 0x6789ABCDE), [2]uint64{0x00123456789ABCDE, 0xF0123456789ABCDE}},
	}
	for _, c := range cases {
		if x, e := mark.Pack(c.k); x != c.x || e != api.OK {
			t.Errorf("Pack(%v): %016X, %d, want %016X", c.k, x, e, c.x)
		}
		if k, e := mark.Unpack(c.x); k != c.k || e != api.OK {
			t.Errorf("Unpack(%016X): %v, %d, want %v", c.x, k, e, c.k)
		}
	}
}

func TestPackRefuses(t *testing.T) {
	cases := []struct {
		k    api.Key
		want api.Errno
	}{
		{key(1<<40, 0, 0, 0), api.ErrRange}, {key(1<<40+1, 1, 1, 1), api.ErrRange}, {key(most, 0, 0, 0), api.ErrRange},
		{key(0, 1<<40, 1, 0), api.ErrRange}, {key(0, most, 8, 0), api.ErrRange}, {key(1<<40-1, 1<<40, 8, 1<<36-1), api.ErrRange},
		{key(0, 0, 0, 1<<36), api.ErrRange}, {key(0, 0, 0, 1<<40-1), api.ErrRange}, {key(0, 0, 0, most), api.ErrRange}, {key(most, most, 8, most), api.ErrRange},
		{key(most+1, 0, 0, 0), api.ErrArg}, {key(-1, 0, 0, 0), api.ErrArg}, {key(0, 0, 0, most+1), api.ErrArg}, {key(0, 0, 0, -1), api.ErrArg},
		{key(0, 0, 1, 0), api.ErrArg}, {key(0, 1, 0, 0), api.ErrArg}, {key(0, 1, 9, 0), api.ErrArg}, {key(0, 1, 16, 0), api.ErrArg},
		{key(0, -1, 1, 0), api.ErrArg}, {key(0, most+1, 1, 0), api.ErrArg},
		{key(math.MinInt, 0, 0, 0), api.ErrArg}, {key(math.MaxInt, 0, 0, 0), api.ErrArg}, {key(0, 0, 0, math.MinInt), api.ErrArg}, {key(0, 0, 0, math.MaxInt), api.ErrArg},
		{key(1<<40, 0, 1, 0), api.ErrArg}, {key(1<<40, 0, 0, -1), api.ErrArg}, {key(-1, 1<<40, 1, 1<<36), api.ErrArg}, {key(1<<40, 1<<40, 9, 1<<36), api.ErrArg}, {key(1<<40, 1, 1, most+1), api.ErrArg},
	}
	for _, c := range cases {
		if x, e := mark.Pack(c.k); x != [2]uint64{} || e != c.want {
			t.Errorf("Pack(%v): %016X, %d, want %d", c.k, x, e, c.want)
		}
	}
}

func checkPack(t testing.TB, k api.Key) {
	t.Helper()
	var want [2]uint64
	wantE := api.OK
	switch {
	case !mayBe(k):
		wantE = api.ErrArg
	case !fits(k):
		wantE = api.ErrRange
	default:
		want = written(t, k)
	}
	if x, e := mark.Pack(k); x != want || e != wantE {
		t.Errorf("Pack(%v): %016X, %d, want %016X, %d", k, x, e, want, wantE)
	}
}

func TestPackOfAnyNumbers(t *testing.T) {
	for _, k := range packable() {
		checkPack(t, k)
		for field := range 4 {
			for _, v := range numbers() {
				checkPack(t, apart(k, field, v))
			}
		}
	}
	for _, k := range anyKeys(3000) {
		checkPack(t, k)
	}
}

func TestUnpackRefuses(t *testing.T) {
	l := [][2]uint64{
		{1 << 56, 0}, {1 << 63, 0}, {math.MaxUint64, math.MaxUint64}, {1<<56 | 0x10000, 0x23000000004},
		{0, 1 << 36}, {0, 8 << 36}, // Rep without Seq
		{0, 1 << 40}, {1, 0}, {0xFFFF, 0xFFFFFF0000000000}, // Seq without Rep
		{0, 1<<40 | 9<<36}, {0, 1<<40 | 15<<36}, {0, 9 << 36}, {1<<56 - 1, math.MaxUint64}, // Rep that is no node
	}
	for bit := 56; bit < 64; bit++ {
		l = append(l, [2]uint64{1 << bit, 0}, [2]uint64{1<<bit | 0x10000, 0x23000000004}, [2]uint64{1<<bit | (1<<56 - 1), 0xFFFFFF8FFFFFFFFF})
	}
	for _, x := range l {
		if k, e := mark.Unpack(x); k != (api.Key{}) || e != api.ErrArg {
			t.Errorf("Unpack(%016X): %v, %d", x, k, e)
		}
	}
}

func checkUnpack(t testing.TB, x [2]uint64) {
	t.Helper()
	head, want := said(t, x)
	wantE := api.OK
	if head != 0 || !mayBe(want) {
		want, wantE = api.Key{}, api.ErrArg
	}
	k, e := mark.Unpack(x)
	if k != want || e != wantE {
		t.Errorf("Unpack(%016X): %v, %d, want %v, %d", x, k, e, want, wantE)
	}
	if back, f := mark.Pack(k); e == api.OK && (back != x || f != api.OK) {
		t.Errorf("Pack of Unpack(%016X): %016X, %d", x, back, f)
	}
}

func TestUnpackOfOneBitMoreOrLess(t *testing.T) {
	for _, k := range packable() {
		x := written(t, k)
		checkUnpack(t, x)
		for bit := range 64 {
			checkUnpack(t, [2]uint64{x[0] ^ 1<<bit, x[1]})
			checkUnpack(t, [2]uint64{x[0], x[1] ^ 1<<bit})
		}
	}
}

// P4.4

// checkOrder tells whether order is one on l: of any two just one of three holds, turned about the other way round, and it goes on over a third one.
func checkOrder[T comparable](t *testing.T, l []T, order func(a, b T) int) {
	t.Helper()
	for _, a := range l {
		for _, b := range l {
			ab := order(a, b)
			if ab < -1 || ab > 1 || ab != -order(b, a) || (ab == 0) != (a == b) {
				t.Fatalf("%v, %v: %d, turned about %d", a, b, ab, order(b, a))
			}
			if ab != -1 {
				continue
			}
			for _, c := range l {
				if order(b, c) == -1 && order(a, c) != -1 {
					t.Fatalf("%v, %v, %v: the first is not ahead of the last", a, b, c)
				}
			}
		}
	}
}

func TestRingsAreInAnOrder(t *testing.T) {
	var l []api.RingId
	for _, seq := range numbers() {
		for _, rep := range []int{math.MinInt, 0, 1, 8, math.MaxInt} {
			l = append(l, ring(seq, rep))
		}
	}
	checkOrder(t, l, mark.Rings)
}

func TestKeysAreInAnOrder(t *testing.T) {
	var l []api.Key
	few := []int{math.MinInt, 0, 1, math.MaxInt}
	for _, stamp := range few {
		for _, seq := range few {
			for _, rep := range few {
				for _, last := range few {
					l = append(l, key(stamp, seq, rep, last))
				}
			}
		}
	}
	checkOrder(t, l, mark.Keys)
	checkOrder(t, anyKeys(150), mark.Keys)
}

// P4.5

func TestUnpackOfPackIsTheKey(t *testing.T) {
	for _, k := range packable() {
		x, e := mark.Pack(k)
		if e != api.OK {
			t.Fatalf("Pack(%v): %d", k, e)
		}
		if back, e := mark.Unpack(x); back != k || e != api.OK {
			t.Errorf("Unpack(Pack(%v)): %v, %d", k, back, e)
		}
	}
}

func TestPackOfUnpackIsTheNumbers(t *testing.T) {
	r := rand.New(rand.NewSource(45))
	taken := 0
	for range 20000 {
		x := [2]uint64{r.Uint64() >> (r.Intn(16)), r.Uint64() >> r.Intn(64)}
		k, e := mark.Unpack(x)
		if e != api.OK {
			continue
		}
		taken++
		if back, e := mark.Pack(k); back != x || e != api.OK {
			t.Errorf("Pack(Unpack(%016X)): %016X, %d", x, back, e)
		}
	}
	if taken < 1000 {
		t.Errorf("only %d could be unpacked", taken)
	}
}

func TestPackedKeysAreInTheKeysOrder(t *testing.T) {
	keys := packable()
	packed := make([][2]uint64, len(keys))
	for i, k := range keys {
		x, e := mark.Pack(k)
		if e != api.OK {
			t.Fatalf("Pack(%v): %d", k, e)
		}
		packed[i] = x
	}
	for i, a := range packed {
		for j, b := range packed {
			want := keyOrder(keys[i], keys[j])
			if got := slices.Compare(a[:], b[:]); got != want || mark.Keys(keys[i], keys[j]) != want {
				t.Fatalf("%v, %v: packed %d, Keys %d, want %d", keys[i], keys[j], got, mark.Keys(keys[i], keys[j]), want)
			}
		}
	}
}

// P4.6

func TestKeysOfAMap(t *testing.T) {
	l := anyKeys(600)
	l = append(l, l...)
	at := map[api.Key]int{}
	for i, k := range l {
		if _, there := at[k]; !there {
			at[k] = i
		}
	}
	for i, a := range l {
		for j, b := range l[:i] {
			if one := at[a] == at[b]; one != (mark.Keys(a, b) == 0) || one != (keyOrder(a, b) == 0) {
				t.Fatalf("%v (%d), %v (%d): one key of a map: %t, Keys %d", a, i, b, j, one, mark.Keys(a, b))
			}
		}
	}
}

func TestUnpackedKeysOfAMap(t *testing.T) {
	keys := packable()
	count := map[api.Key]int{}
	for _, k := range keys {
		x, _ := mark.Pack(k)
		back, _ := mark.Unpack(x)
		count[k]++
		count[back]++
	}
	if len(count) != len(keys) {
		t.Errorf("%d keys of a map, want %d", len(count), len(keys))
	}
	for k, n := range count {
		if n != 2 {
			t.Errorf("%v: met %d times", k, n)
		}
	}
}

func TestRingsOfAMap(t *testing.T) {
	at := map[api.RingId]int{}
	for _, r := range []api.RingId{ring(1, 1), ring(1, 2), ring(2, 1), {}, ring(0, 1), ring(1, 1)} {
		at[r]++
	}
	for a, n := range at {
		want := 1
		if mark.Rings(a, ring(1, 1)) == 0 {
			want = 2
		}
		if n != want {
			t.Errorf("%v: met %d times, want %d", a, n, want)
		}
	}
}

// All of them

func FuzzAnyKeys(f *testing.F) {
	for _, k := range anyKeys(60) {
		f.Add(k.Stamp, k.Ring.Seq, k.Ring.Rep, k.Seq, k.Stamp, k.Seq, k.Ring.Rep, k.Ring.Seq)
	}
	f.Fuzz(func(t *testing.T, stamp, seq, rep, last, stamp2, seq2, rep2, last2 int) {
		a, b := key(stamp, seq, rep, last), key(stamp2, seq2, rep2, last2)
		if got := mark.Keys(a, b); got != keyOrder(a, b) || got != -mark.Keys(b, a) {
			t.Errorf("Keys(%v, %v): %d", a, b, got)
		}
		if mark.CheckRing(a.Ring) != refusal(mayBeRing(a.Ring)) || mark.Check(a) != refusal(mayBe(a)) {
			t.Errorf("%v: %d, %d", a, mark.CheckRing(a.Ring), mark.Check(a))
		}
		checkPack(t, a)
		checkUnpack(t, [2]uint64{uint64(stamp), uint64(last)})
		x, e := mark.Pack(a)
		y, f := mark.Pack(b)
		if e == api.OK && f == api.OK && slices.Compare(x[:], y[:]) != keyOrder(a, b) {
			t.Errorf("%v, %v: packed in another order", a, b)
		}
	})
}
