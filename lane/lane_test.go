package lane_test

import (
	"bytes"
	"fmt"
	"math"
	"math/rand"
	"slices"
	"testing"

	"hauberk/api"
	"hauberk/lane"
)

const (
	most     = 4096
	allNodes = 1<<9 - 2
)

// gram is a datagram of these bytes.
func gram(from, to int, b ...byte) api.Datagram {
	return api.Datagram{From: from, To: to, Bytes: b}
}

func same(a, b api.Datagram) bool {
	return a.From == b.From && a.To == b.To && bytes.Equal(a.Bytes, b.Bytes)
}

func isZero(d api.Datagram) bool { return d.From == 0 && d.To == 0 && len(d.Bytes) == 0 }

// well asks whether a call went well.
func well(t *testing.T, what string, e api.Errno) {
	t.Helper()
	if e != api.OK {
		t.Errorf("%s: %d", what, e)
	}
}

// with answers a lane that has these datagrams.
func with(t *testing.T, l ...api.Datagram) *lane.Lane {
	t.Helper()
	n := lane.New()
	for _, d := range l {
		well(t, "Put", n.Put(d))
	}
	return n
}

// numbered is a datagram that can be told from others by i.
func numbered(i int) api.Datagram {
	return gram(1+i%8, 1+i/8%8, byte(i), byte(i>>8))
}

// full answers a lane that has as many as it can, each of them another one.
func full(t *testing.T) *lane.Lane {
	t.Helper()
	l := lane.New()
	for i := range most {
		if e := l.Put(numbered(i)); e != api.OK {
			t.Fatalf("Put %d: %d", i, e)
		}
	}
	return l
}

// take asks whether what stands at the place i is this one.
func take(t *testing.T, l *lane.Lane, i int, want api.Datagram) {
	t.Helper()
	n := l.Len()
	if d, e := l.Take(i); e != api.OK || !same(d, want) || l.Len() != n-1 {
		t.Errorf("Take(%d) of %d: %v, %d, want %v; %d are left", i, n, d, e, want, l.Len())
	}
}

// drain asks whether exactly these are on their way, in this order, and takes them all.
func drain(t *testing.T, l *lane.Lane, want ...api.Datagram) {
	t.Helper()
	if l.Len() != len(want) {
		t.Errorf("%d are on their way, want %d", l.Len(), len(want))
	}
	for _, d := range want {
		take(t, l, 0, d)
	}
	if d, e := l.Take(0); e != api.ErrRange || !isZero(d) {
		t.Errorf("Take of none: %v, %d", d, e)
	}
}

// noPlaces are numbers that are no place of n datagrams.
func noPlaces(n int) []int {
	return []int{-1, -2, -n - 1, n, n + 1, n + 8, 1<<32 + n, 1 << 32, -1 << 32, 1 << 62, math.MinInt, math.MinInt + 1, math.MaxInt - 1, math.MaxInt}
}

// noNodes are numbers that are no node's.
func noNodes() []int {
	return []int{0, 9, -1, -2, -8, -9, 10, 16, 63, 64, 65, 1<<8 + 1, 1<<32 + 1, -1<<32 + 1, 1<<62 + 1, math.MinInt, math.MinInt + 1, math.MaxInt - 1, math.MaxInt}
}

// The chapter's examples

func TestExampleOfDatagrams(t *testing.T) {
	l := lane.New()
	got := []api.Errno{l.Put(gram(1, 2, 0xAB)), l.Put(gram(2, 1)), l.Double(0), l.Flip(2, 9)}
	if want := []api.Errno{api.OK, api.OK, api.OK, api.ErrRange}; !slices.Equal(got, want) || l.Len() != 3 {
		t.Errorf("%v, want %v; %d are on their way", got, want, l.Len())
	}
	well(t, "Flip", l.Flip(2, 0))
	take(t, l, 2, gram(1, 2, 0xAA))
	take(t, l, 0, gram(1, 2, 0xAB))
	if d, e := l.Take(5); e != api.ErrRange || !isZero(d) || l.Len() != 1 {
		t.Errorf("Take(5): %v, %d; %d are on their way", d, e, l.Len())
	}
	got = []api.Errno{l.Put(gram(0, 1)), l.Put(gram(1, 9)), l.Flip(0, 0)}
	if want := []api.Errno{api.ErrArg, api.ErrArg, api.ErrRange}; !slices.Equal(got, want) {
		t.Errorf("%v, want %v", got, want)
	}
	drain(t, l, gram(2, 1))
}

func TestExampleOfCut(t *testing.T) {
	l := lane.New()
	well(t, "Cut", l.Cut(6))
	got := []bool{l.Reaches(1, 2), l.Reaches(1, 3), l.Reaches(3, 4), l.Reaches(3, 9)}
	if want := []bool{true, false, true, false}; !slices.Equal(got, want) {
		t.Errorf("%v, want %v", got, want)
	}
}

func TestNumbersOfErrors(t *testing.T) {
	var nobody *lane.Lane
	l := full(t)
	got := []api.Errno{nobody.Cut(0), l.Cut(0), l.Put(gram(0, 1)), l.Put(gram(1, 1)), l.Double(most), l.Flip(0, 16)}
	if want := []api.Errno{1, 0, 2, 7, 9, 9}; !slices.Equal(got, want) {
		t.Errorf("%v, want %v", got, want)
	}
}

// P9.1

func TestNewHasNone(t *testing.T) {
	l := lane.New()
	if l == nil || l.Len() != 0 {
		t.Fatalf("New: %v", l)
	}
	drain(t, l)
	if l.Double(0) != api.ErrRange || l.Flip(0, 0) != api.ErrRange {
		t.Errorf("there is one: %d, %d", l.Double(0), l.Flip(0, 0))
	}
	for from := 1; from <= 8; from++ {
		for to := 1; to <= 8; to++ {
			if !l.Reaches(from, to) {
				t.Errorf("%d does not reach %d", from, to)
			}
		}
	}
}

func TestNewOnesAreOfTheirOwn(t *testing.T) {
	a, b := lane.New(), lane.New()
	well(t, "Put", a.Put(gram(1, 2, 3)))
	well(t, "Cut", a.Cut(2))
	if b.Len() != 0 || !b.Reaches(1, 2) || a.Reaches(1, 2) {
		t.Errorf("%d are on their way; 1 reaches 2: %v, %v", b.Len(), b.Reaches(1, 2), a.Reaches(1, 2))
	}
	well(t, "Put", b.Put(gram(4, 5, 6)))
	well(t, "Flip", b.Flip(0, 0))
	drain(t, a, gram(1, 2, 3))
	drain(t, lane.New())
	drain(t, b, gram(4, 5, 7))
}

func TestNoLane(t *testing.T) {
	var nobody *lane.Lane
	var zero lane.Lane
	for i, l := range []*lane.Lane{nobody, &zero, {}, new(lane.Lane)} {
		for range 2 { // no call makes a lane of it
			for _, n := range append(noPlaces(0), 1, 2, 8, 9, allNodes) {
				if e := l.Put(gram(n, 2, 1)); e != api.ErrNil {
					t.Errorf("%d: Put from %d: %d", i, n, e)
				}
				if e := l.Put(gram(1, n)); e != api.ErrNil {
					t.Errorf("%d: Put to %d: %d", i, n, e)
				}
				if d, e := l.Take(n); e != api.ErrNil || !isZero(d) {
					t.Errorf("%d: Take(%d): %v, %d", i, n, d, e)
				}
				if got := []api.Errno{l.Double(n), l.Flip(n, 0), l.Flip(0, n), l.Cut(n)}; !slices.Equal(got, []api.Errno{api.ErrNil, api.ErrNil, api.ErrNil, api.ErrNil}) {
					t.Errorf("%d: %d: %v", i, n, got)
				}
				if l.Reaches(n, 1) || l.Reaches(1, n) || l.Reaches(n, n) || l.Reaches(1, 2) {
					t.Errorf("%d: %d reaches somebody", i, n)
				}
				if l.Len() != 0 {
					t.Errorf("%d: Len: %d", i, l.Len())
				}
			}
		}
	}
}

// P9.2

func TestPutOfEachPairOfNodes(t *testing.T) {
	for from := -2; from <= 11; from++ {
		for to := -2; to <= 11; to++ {
			l := with(t, gram(3, 4, 5))
			d := gram(from, to, 7)
			if from >= 1 && from <= 8 && to >= 1 && to <= 8 {
				well(t, "Put", l.Put(d))
				drain(t, l, gram(3, 4, 5), d)
				continue
			}
			if e := l.Put(d); e != api.ErrArg {
				t.Errorf("Put from %d to %d: %d", from, to, e)
			}
			drain(t, l, gram(3, 4, 5))
		}
	}
}

func TestPutOfNoNodes(t *testing.T) {
	l := with(t, gram(3, 4, 5))
	filled := full(t)
	for _, n := range noNodes() {
		for _, d := range []api.Datagram{gram(n, 1, 1), gram(8, n, 1), gram(n, n), gram(n, -n)} {
			if e := l.Put(d); e != api.ErrArg {
				t.Errorf("Put from %d to %d: %d", d.From, d.To, e)
			}
			if e := filled.Put(d); e != api.ErrArg {
				t.Errorf("Put from %d to %d, no room: %d", d.From, d.To, e)
			}
		}
	}
	drain(t, l, gram(3, 4, 5))
	if filled.Len() != most {
		t.Errorf("%d are on their way", filled.Len())
	}
}

// Who is parted from whom is not asked, neither at Put nor at Take.
func TestPutOverACut(t *testing.T) {
	for _, side := range []int{0, 2, 6, 1 << 8, allNodes} {
		l := lane.New()
		well(t, "Cut", l.Cut(side))
		var want []api.Datagram
		for from := 1; from <= 8; from++ {
			for to := 1; to <= 8; to++ {
				want = append(want, gram(from, to, byte(from), byte(to)))
				well(t, "Put", l.Put(want[len(want)-1]))
			}
		}
		well(t, "Cut", l.Cut(side^2))
		drain(t, l, want...)
	}
}

func TestPutOfBytesOfAnyLength(t *testing.T) {
	l := lane.New()
	var want []api.Datagram
	for _, n := range []int{0, 1, 2, 7, 8, 9, 511, 512, 513, 1 << 12, 1 << 16} {
		b := make([]byte, n)
		for i := range b {
			b[i] = byte(i*7 + n)
		}
		want = append(want, gram(1+n%8, 8, b...))
		well(t, "Put", l.Put(want[len(want)-1]))
	}
	well(t, "Put", l.Put(api.Datagram{From: 1, To: 1}))
	well(t, "Put", l.Put(api.Datagram{From: 1, To: 1, Bytes: []byte{}}))
	drain(t, l, append(want, gram(1, 1), gram(1, 1))...)
}

func TestPutUntilItIsFull(t *testing.T) {
	l := full(t)
	for range 2 {
		if put, double := l.Put(gram(1, 8)), l.Double(0); put != api.ErrFull || double != api.ErrFull || l.Len() != most {
			t.Errorf("the one behind the last one: %d, %d; %d are on their way", put, double, l.Len())
		}
	}
	take(t, l, 7, numbered(7)) // one has gone: there is room for one
	well(t, "Put", l.Put(gram(5, 5, 55)))
	if put, double := l.Put(gram(1, 8)), l.Double(most-1); put != api.ErrFull || double != api.ErrFull || l.Len() != most {
		t.Errorf("once more: %d, %d; %d are on their way", put, double, l.Len())
	}
	var want []api.Datagram
	for i := range most {
		if i != 7 {
			want = append(want, numbered(i))
		}
	}
	drain(t, l, append(want, gram(5, 5, 55))...)
}

// What was full has room again for as many.
func TestPutOnceItIsEmptyAgain(t *testing.T) {
	l := full(t)
	for i := most - 1; i >= 0; i-- {
		take(t, l, i, numbered(i))
	}
	for i := range most {
		if e := l.Put(numbered(i * 3)); e != api.OK || l.Len() != i+1 {
			t.Fatalf("Put %d: %d; %d are on their way", i, e, l.Len())
		}
	}
	if e := l.Put(gram(1, 1)); e != api.ErrFull {
		t.Errorf("Put: %d", e)
	}
}

func TestLen(t *testing.T) {
	l := lane.New()
	for i := range 20 {
		well(t, "Put", l.Put(numbered(i)))
		for range 2 { // asking changes nothing
			if l.Len() != i+1 {
				t.Errorf("%d are on their way, want %d", l.Len(), i+1)
			}
		}
	}
}

// P9.3

func TestTakeAtEachPlace(t *testing.T) {
	for n := 1; n <= 9; n++ {
		for at := range n {
			l := lane.New()
			var want []api.Datagram
			for i := range n {
				well(t, "Put", l.Put(numbered(i)))
				if i != at {
					want = append(want, numbered(i))
				}
			}
			take(t, l, at, numbered(at))
			drain(t, l, want...)
		}
	}
}

func TestTakeOfAFullLane(t *testing.T) {
	for _, at := range []int{0, 1, most / 2, most - 2, most - 1} {
		l := full(t)
		take(t, l, at, numbered(at))
		for i := range most {
			if i != at {
				take(t, l, 0, numbered(i))
			}
		}
		drain(t, l)
	}
}

func TestTakeFromTheBack(t *testing.T) {
	l := with(t, numbered(1), numbered(2), numbered(3))
	take(t, l, 2, numbered(3))
	take(t, l, 1, numbered(2))
	well(t, "Put", l.Put(numbered(4)))
	take(t, l, 1, numbered(4))
	take(t, l, 0, numbered(1))
	drain(t, l)
}

func TestDoubleAtEachPlace(t *testing.T) {
	for n := 1; n <= 9; n++ {
		for at := range n {
			l := lane.New()
			var want []api.Datagram
			for i := range n {
				want = append(want, numbered(i))
				well(t, "Put", l.Put(numbered(i)))
			}
			well(t, "Double", l.Double(at))
			well(t, "Double", l.Double(n)) // one that was doubled can be doubled
			well(t, "Put", l.Put(numbered(99)))
			drain(t, l, append(want, numbered(at), numbered(at), numbered(99))...)
		}
	}
}

func TestDoubleOfNoBytes(t *testing.T) {
	l := with(t, gram(7, 8))
	well(t, "Double", l.Double(0))
	drain(t, l, gram(7, 8), gram(7, 8))
}

func TestDoubleUntilItIsFull(t *testing.T) {
	l := with(t, gram(1, 8, 1), gram(8, 1, 2))
	for i := 2; i < most; i++ {
		if e := l.Double(i - 2); e != api.OK || l.Len() != i+1 {
			t.Fatalf("Double %d: %d; %d are on their way", i, e, l.Len())
		}
	}
	for _, at := range []int{0, 1, most / 2, most - 1} {
		if e := l.Double(at); e != api.ErrFull {
			t.Errorf("Double(%d): %d", at, e)
		}
	}
	if put, double := l.Put(gram(1, 1)), l.Double(most); put != api.ErrFull || double != api.ErrRange || l.Len() != most {
		t.Errorf("%d, %d; %d are on their way", put, double, l.Len())
	}
	take(t, l, most-1, gram(8, 1, 2))
	well(t, "Double", l.Double(0))
	for i := range most - 1 {
		take(t, l, 0, []api.Datagram{gram(1, 8, 1), gram(8, 1, 2)}[i%2])
	}
	drain(t, l, gram(1, 8, 1))
}

func TestFlipOfEachBit(t *testing.T) {
	for n := range 6 {
		b := []byte{0x00, 0xFF, 0xA5, 0x5A, 0x01, 0x80}[:n]
		for bit := -3; bit <= 8*n+10; bit++ {
			l := with(t, gram(1, 2, 9, 9, 9, 9, 9, 9, 9), gram(3, 4, b...), gram(5, 6, 7, 7, 7, 7, 7, 7, 7))
			e := l.Flip(1, bit)
			want := bytes.Clone(b)
			if bit >= 0 && bit < 8*n {
				well(t, "Flip", e)
				want[bit/8] ^= []byte{1, 2, 4, 8, 16, 32, 64, 128}[bit%8]
			} else if e != api.ErrRange {
				t.Errorf("bit %d of %d bytes: %d", bit, n, e)
			}
			drain(t, l, gram(1, 2, 9, 9, 9, 9, 9, 9, 9), gram(3, 4, want...), gram(5, 6, 7, 7, 7, 7, 7, 7, 7))
		}
	}
}

func TestFlipOfBitsThatAreNone(t *testing.T) {
	l := with(t, gram(1, 2, 3), gram(1, 2))
	for _, bit := range []int{-1, -2, -7, -8, -9, 8, 9, 15, 16, 1 << 32, 1<<32 + 1, -1 << 32, 1 << 60, 1 << 61, 1 << 62, math.MinInt, math.MinInt + 1, math.MaxInt - 1, math.MaxInt} {
		for at := range 2 {
			if e := l.Flip(at, bit); e != api.ErrRange {
				t.Errorf("Flip(%d, %d): %d", at, bit, e)
			}
		}
	}
	if e := l.Flip(1, 0); e != api.ErrRange {
		t.Errorf("Flip of no byte: %d", e)
	}
	drain(t, l, gram(1, 2, 3), gram(1, 2))
}

func TestFlipTwice(t *testing.T) {
	l := with(t, gram(1, 2, 3, 4))
	for bit := range 16 {
		well(t, "Flip", l.Flip(0, bit))
	}
	well(t, "Double", l.Double(0))
	for bit := range 16 {
		well(t, "Flip", l.Flip(0, bit))
	}
	drain(t, l, gram(1, 2, 3, 4), gram(1, 2, 0xFC, 0xFB))
}

func TestFlipAtEdgesOfAFullLane(t *testing.T) {
	l := full(t)
	for _, at := range []int{0, most - 1} {
		well(t, "Flip", l.Flip(at, 0))
		well(t, "Flip", l.Flip(at, 15))
	}
	for i := range most {
		d := numbered(i)
		if i == 0 || i == most-1 {
			d.Bytes[0] ^= 1
			d.Bytes[1] ^= 0x80
		}
		take(t, l, 0, d)
	}
}

// Of one that was doubled and the one that it was doubled from each has bits of its own.
func TestFlipOfDoubledOnes(t *testing.T) {
	for _, b := range [][]byte{{0x10}, {1, 2, 3, 4, 5, 6, 7, 8}, make([]byte, 200)} {
		for at := range 3 {
			l := with(t, gram(1, 2, b...))
			well(t, "Double", l.Double(0))
			well(t, "Double", l.Double(1))
			well(t, "Flip", l.Flip(at, 2))
			for i := range 3 {
				d := gram(1, 2, bytes.Clone(b)...)
				if i == at {
					d.Bytes[0] ^= 4
				}
				take(t, l, 0, d)
			}
		}
	}
}

func TestPlacesThatAreNone(t *testing.T) {
	for _, n := range []int{0, 1, 2, 5, most} {
		l := lane.New()
		for i := range n {
			l.Put(numbered(i))
		}
		for _, at := range noPlaces(n) {
			if d, e := l.Take(at); e != api.ErrRange || !isZero(d) {
				t.Errorf("Take(%d) of %d: %v, %d", at, n, d, e)
			}
			if e := l.Double(at); e != api.ErrRange {
				t.Errorf("Double(%d) of %d: %d", at, n, e)
			}
			for _, bit := range []int{0, 1, 15, -1, 16, math.MinInt, math.MaxInt} {
				if e := l.Flip(at, bit); e != api.ErrRange {
					t.Errorf("Flip(%d, %d) of %d: %d", at, bit, n, e)
				}
			}
			if l.Len() != n {
				t.Fatalf("%d are on their way, want %d", l.Len(), n)
			}
		}
		for i := range n {
			take(t, l, 0, numbered(i))
		}
		drain(t, l)
	}
}

// P9.4

// Every side: who reaches whom is told by the bits alone, and so it is whatever the side was.
func TestCutByEverySide(t *testing.T) {
	for _, was := range []int{0, 6, allNodes, 1 << 8} {
		for side := range 1 << 10 {
			l := lane.New()
			well(t, "Cut", l.Cut(was))
			well(t, "Cut", l.Cut(side))
			for from := -1; from <= 10; from++ {
				for to := -1; to <= 10; to++ {
					nodes := from >= 1 && from <= 8 && to >= 1 && to <= 8
					want := nodes && (side&(1<<max(from, 0)) != 0) == (side&(1<<max(to, 0)) != 0)
					if l.Reaches(from, to) != want {
						t.Fatalf("side %x: %d reaches %d: %v", side, from, to, !want)
					}
				}
			}
		}
	}
}

// Bits that are no node's count for nothing: neither do they part anybody, nor make a node of 0 or 9.
func TestCutByOtherBits(t *testing.T) {
	for _, more := range []int{1, 1 << 9, 1<<9 + 1, 1 << 10, 1 << 31, 1 << 32, 1 << 62, -1 << 9, -1<<9 + 1, math.MinInt, math.MinInt + 1, math.MaxInt &^ allNodes, math.MaxInt &^ allNodes &^ 1} {
		for _, side := range []int{0, 2, 6, 1 << 8, 0xAA, allNodes} {
			l, plain := lane.New(), lane.New()
			well(t, "Cut", l.Cut(side|more))
			well(t, "Cut", plain.Cut(side))
			for from := -1; from <= 64; from++ {
				for to := -1; to <= 64; to++ {
					if l.Reaches(from, to) != plain.Reaches(from, to) {
						t.Fatalf("side %x, and %x more: %d reaches %d: %v", side, more, from, to, l.Reaches(from, to))
					}
				}
			}
		}
	}
}

func TestReachesOfNoNodes(t *testing.T) {
	l := lane.New()
	for _, side := range []int{0, 1, -1, 6, allNodes, 1<<9 + 1, math.MinInt, math.MaxInt} {
		well(t, "Cut", l.Cut(side))
		for _, n := range noNodes() {
			if l.Reaches(n, n) || l.Reaches(n, -n) {
				t.Errorf("side %x: %d reaches itself", side, n)
			}
			for node := 1; node <= 8; node++ {
				if l.Reaches(node, n) || l.Reaches(n, node) {
					t.Errorf("side %x: %d and %d reach one another", side, node, n)
				}
			}
		}
	}
}

// Datagrams on their way do not mind a cut.
func TestCutChangesNoDatagrams(t *testing.T) {
	l := with(t, gram(1, 2, 3), gram(2, 1, 4))
	well(t, "Cut", l.Cut(2))
	well(t, "Double", l.Double(0))
	well(t, "Cut", l.Cut(allNodes))
	drain(t, l, gram(1, 2, 3), gram(2, 1, 4), gram(1, 2, 3))
	if l.Cut(6); l.Reaches(1, 3) {
		t.Errorf("1 reaches 3")
	}
	well(t, "Put", l.Put(gram(1, 3)))
	take(t, l, 0, gram(1, 3))
	if l.Reaches(1, 3) || !l.Reaches(1, 2) {
		t.Errorf("the side is another one behind Put and Take")
	}
}

// P9.5

// spoil writes into all bytes of a list, its spare room too.
func spoil(b []byte) {
	b = b[:cap(b)]
	for i := range b {
		b[i] ^= 0x55
	}
}

func TestWritingIntoWhatWasHandedIn(t *testing.T) {
	for _, n := range []int{0, 1, 7, 8, 200} {
		room := make([]byte, n+9)
		b := room[:n]
		want := bytes.Clone(b)
		l := lane.New()
		well(t, "Put", l.Put(gram(1, 2, b...)))
		well(t, "Put", l.Put(gram(1, 2, b...)))
		well(t, "Double", l.Double(0))
		spoil(b)
		drain(t, l, gram(1, 2, want...), gram(1, 2, want...), gram(1, 2, want...))
	}
}

func TestWhatIsHandedInIsOnlyRead(t *testing.T) {
	room := []byte{1, 2, 3, 4, 5, 6, 7, 8, 9, 10, 11, 12}
	was := bytes.Clone(room)
	b := room[2:5]
	l := lane.New()
	well(t, "Put", l.Put(gram(1, 2, b...)))
	well(t, "Put", l.Put(gram(3, 4, b...)))
	well(t, "Double", l.Double(1))
	for at := range 3 {
		for bit := range 24 {
			well(t, "Flip", l.Flip(at, bit))
		}
	}
	for l.Len() > 0 {
		d, _ := l.Take(l.Len() - 1)
		spoil(d.Bytes)
		_ = append(d.Bytes, 1, 2, 3)
	}
	if !bytes.Equal(room, was) {
		t.Errorf("what was handed in is %v, was %v", room, was)
	}
}

// Writing into what Take answered changes neither what is on its way still, doubled ones among it, nor what was answered before or is later.
func TestWritingIntoWhatWasTaken(t *testing.T) {
	for _, n := range []int{1, 5, 8, 9, 200} {
		b := bytes.Repeat([]byte{0xC3}, n)
		for first := range 4 {
			l := with(t, gram(1, 2, b...), gram(3, 4, b...))
			well(t, "Double", l.Double(0))
			well(t, "Double", l.Double(2))
			before, _ := l.Take(first)
			d, _ := l.Take(0)
			spoil(d.Bytes)
			if !bytes.Equal(before.Bytes, b) {
				t.Errorf("an earlier answer: %v", before)
			}
			well(t, "Put", l.Put(gram(5, 6, b...)))
			for l.Len() > 0 {
				d, e := l.Take(0)
				if e != api.OK || !bytes.Equal(d.Bytes, b) {
					t.Errorf("Take: %v, %d", d, e)
				}
				spoil(d.Bytes)
			}
			if !bytes.Equal(before.Bytes, b) {
				t.Errorf("an earlier answer: %v", before)
			}
		}
	}
}

// What was answered does not mind what is done with the lane later.
func TestWhatWasTakenStays(t *testing.T) {
	l := with(t, gram(1, 2, 1, 2, 3), gram(1, 2, 4, 5, 6))
	well(t, "Double", l.Double(0))
	d, _ := l.Take(0)
	for at := range 2 {
		for bit := range 24 {
			well(t, "Flip", l.Flip(at, bit))
		}
	}
	well(t, "Put", l.Put(gram(7, 7, 7, 7, 7)))
	take(t, l, 0, gram(1, 2, 0xFB, 0xFA, 0xF9))
	if !same(d, gram(1, 2, 1, 2, 3)) {
		t.Errorf("what was taken is %v", d)
	}
}

// P9.6

// known is one that was put: what became of its bits and how often it may be taken.
type known struct {
	d    api.Datagram
	left int
}

// What is taken was put; bits alone can have become others; none is taken oftener than it was put and doubled.
func TestNothingComesFromNowhere(t *testing.T) {
	for seed := range 40 {
		r := rand.New(rand.NewSource(int64(seed)))
		l := lane.New()
		var put []known
		flips := seed%2 == 1
		places := []int{} // which of put stands at each place
		for range 500 {
			at := r.Intn(len(places) + 1)
			switch op := r.Intn(5); {
			case op < 2:
				d := gram(1+r.Intn(8), 1+r.Intn(8), byte(len(put)), byte(len(put)>>8), byte(r.Intn(256)))
				well(t, "Put", l.Put(d))
				places = append(places, len(put))
				put = append(put, known{d, 1})
			case at == len(places):
				if _, e := l.Take(at); e != api.ErrRange {
					t.Fatalf("Take(%d): %d", at, e)
				}
			case op == 2:
				well(t, "Double", l.Double(at))
				put[places[at]].left++
				places = append(places, places[at])
			case op == 3 && flips:
				well(t, "Flip", l.Flip(at, 16+r.Intn(8))) // not those that tell it from others
			default:
				d, e := l.Take(at)
				k := &put[places[at]]
				if e != api.OK || len(d.Bytes) != 3 || !flips && !same(d, k.d) {
					t.Fatalf("Take(%d): %v, %d, want %v", at, d, e, k.d)
				}
				d.Bytes[2] = k.d.Bytes[2]
				if k.left--; k.left < 0 || !same(d, k.d) {
					t.Fatalf("Take(%d): %v, want %v, of which %d were left", at, d, k.d, k.left+1)
				}
				places = slices.Delete(places, at, at+1)
			}
		}
		for ; l.Len() > 0; l.Take(0) {
			put[places[0]].left--
			places = places[1:]
		}
		for i, k := range put {
			if k.left != 0 {
				t.Errorf("seed %d: of %d %d are left", seed, i, k.left)
			}
		}
	}
}

func TestFromTheFrontInTheirOrder(t *testing.T) {
	l := lane.New()
	var want []api.Datagram
	for i := range 300 {
		d := numbered(i)
		well(t, "Put", l.Put(d))
		want = append(want, d)
		if i%3 == 0 { // doubled ones as put then
			at := i * 7 % l.Len()
			well(t, "Double", l.Double(at))
			want = append(want, want[at])
		}
		if i%4 == 3 {
			take(t, l, 0, want[0])
			want = want[1:]
		}
	}
	drain(t, l, want...)
}

// P9.7

func TestWhoReachesWhom(t *testing.T) {
	l := lane.New()
	for side := range 1 << 9 {
		well(t, "Cut", l.Cut(side))
		for a := 1; a <= 8; a++ {
			if !l.Reaches(a, a) {
				t.Fatalf("side %x: %d does not reach itself", side, a)
			}
			for b := 1; b <= 8; b++ {
				if l.Reaches(a, b) != l.Reaches(b, a) {
					t.Fatalf("side %x: of %d and %d one alone reaches the other", side, a, b)
				}
				for c := 1; c <= 8; c++ {
					if l.Reaches(a, b) && l.Reaches(b, c) && !l.Reaches(a, c) {
						t.Fatalf("side %x: %d reaches %d, and that %d", side, a, b, c)
					}
				}
			}
		}
	}
}

func TestNobodyIsParted(t *testing.T) {
	l := lane.New()
	for _, side := range []int{0, allNodes, 1, -1, 1 << 9, allNodes + 1, ^allNodes, math.MinInt, math.MaxInt} {
		well(t, "Cut", l.Cut(0x24))
		well(t, "Cut", l.Cut(side))
		for from := 1; from <= 8; from++ {
			for to := 1; to <= 8; to++ {
				if !l.Reaches(from, to) {
					t.Errorf("side %x: %d does not reach %d", side, from, to)
				}
			}
		}
	}
}

// All of them

// ticket is one that was put, or doubled, at a time of its own, which is never forgotten; its bits are told one by one.
type ticket struct {
	from, to int
	bits     []bool
	gone     bool
}

// model says a lane by all that it ever had.
type model struct {
	all  []ticket
	side map[int]bool
}

// at answers which of all stands at the place i; -1: there is no such place.
func (m *model) at(i int) int {
	for k := range m.all {
		if m.all[k].gone {
			continue
		}
		if i == 0 {
			return k
		}
		i--
	}
	return -1
}

func (m *model) len() int {
	n := 0
	for _, k := range m.all {
		if !k.gone {
			n++
		}
	}
	return n
}

func (m *model) put(d api.Datagram) api.Errno {
	if d.From < 1 || d.From > 8 || d.To < 1 || d.To > 8 {
		return api.ErrArg
	}
	k := ticket{from: d.From, to: d.To}
	for _, x := range d.Bytes {
		for by := range 8 {
			k.bits = append(k.bits, x>>by&1 == 1)
		}
	}
	return m.add(k)
}

func (m *model) add(k ticket) api.Errno {
	if m.len() == most {
		return api.ErrFull
	}
	k.bits = slices.Clone(k.bits)
	m.all = append(m.all, k)
	return api.OK
}

func (m *model) take(i int) (api.Datagram, api.Errno) {
	k := m.at(i)
	if k < 0 {
		return api.Datagram{}, api.ErrRange
	}
	m.all[k].gone = true
	d := gram(m.all[k].from, m.all[k].to, make([]byte, len(m.all[k].bits)/8)...)
	for bit, on := range m.all[k].bits {
		if on {
			d.Bytes[bit/8] += 1 << (bit % 8)
		}
	}
	return d, api.OK
}

func (m *model) double(i int) api.Errno {
	k := m.at(i)
	if k < 0 {
		return api.ErrRange
	}
	return m.add(m.all[k])
}

func (m *model) flip(i, bit int) api.Errno {
	k := m.at(i)
	if k < 0 || bit < 0 || bit >= len(m.all[k].bits) {
		return api.ErrRange
	}
	m.all[k].bits[bit] = !m.all[k].bits[bit]
	return api.OK
}

func (m *model) cut(side int) api.Errno {
	m.side = map[int]bool{}
	for n := 1; n <= 8; n++ {
		m.side[n] = side>>n&1 == 1
	}
	return api.OK
}

func (m *model) reaches(from, to int) bool {
	return from >= 1 && from <= 8 && to >= 1 && to <= 8 && m.side[from] == m.side[to]
}

// both are a lane and what it is held against.
type both struct {
	l *lane.Lane
	m model
}

func newBoth() *both { return &both{l: lane.New()} }

// do makes a call of both, of one of five kinds, and tells what was not as it is to be.
func (b *both) do(op, x, y int) string {
	var got, want api.Errno
	switch op {
	case 0:
		d := gram(x, y, bytes.Repeat([]byte{byte(x*37 + y)}, (x+y)&3)...)
		got, want = b.l.Put(d), b.m.put(d)
	case 1:
		var has, asked api.Datagram
		has, got = b.l.Take(x)
		asked, want = b.m.take(x)
		if !same(has, asked) {
			return fmt.Sprintf("Take(%d): %v, want %v", x, has, asked)
		}
	case 2:
		got, want = b.l.Double(x), b.m.double(x)
	case 3:
		got, want = b.l.Flip(x, y), b.m.flip(x, y)
	case 4:
		got, want = b.l.Cut(x), b.m.cut(x)
	}
	if got != want {
		return fmt.Sprintf("call %d(%d, %d): %d, want %d", op, x, y, got, want)
	}
	if b.l.Len() != b.m.len() {
		return fmt.Sprintf("Len: %d, want %d", b.l.Len(), b.m.len())
	}
	if b.l.Reaches(x, y) != b.m.reaches(x, y) || b.l.Reaches(1, 2) != b.m.reaches(1, 2) {
		return fmt.Sprintf("Reaches(%d, %d): %v", x, y, b.l.Reaches(x, y))
	}
	return ""
}

// end takes all that is left.
func (b *both) end() string {
	for b.m.len() > 0 {
		if wrong := b.do(1, 0, 0); wrong != "" {
			return wrong
		}
	}
	return b.do(1, 0, 0)
}

// Every row of six calls.
func TestEveryRowOfCalls(t *testing.T) {
	calls := [][3]int{{0, 1, 2}, {0, 3, 1}, {0, 9, 1}, {1, 0, 0}, {1, 1, 0}, {2, 0, 0}, {2, 1, 0}, {3, 0, 0}, {3, 1, 9}, {4, 2, 0}}
	const length = 6
	rows := 1
	for range length {
		rows *= len(calls)
	}
	for row := range rows {
		b := newBoth()
		for i, rest := 0, row; i < length; i, rest = i+1, rest/len(calls) {
			c := calls[rest%len(calls)]
			if wrong := b.do(c[0], c[1], c[2]); wrong != "" {
				t.Fatalf("row %d, call %d: %s", row, i, wrong)
			}
		}
		if wrong := b.end(); wrong != "" {
			t.Fatalf("row %d, at its end: %s", row, wrong)
		}
	}
}

func TestLongRowsOfCalls(t *testing.T) {
	r := rand.New(rand.NewSource(9))
	for row := range 200 {
		b := newBoth()
		for i := range 300 {
			op, x, y := r.Intn(5), r.Intn(11)-1, r.Intn(30)-2
			switch {
			case op == 0:
				y = r.Intn(10)
			case op == 4:
				x = r.Intn(1 << 10)
			case r.Intn(2) == 0: // far behind
				x = b.m.len() - r.Intn(3)
			}
			if wrong := b.do(op, x, y); wrong != "" {
				t.Fatalf("row %d, call %d: %s", row, i, wrong)
			}
		}
		if wrong := b.end(); wrong != "" {
			t.Fatalf("row %d, at its end: %s", row, wrong)
		}
	}
}

func FuzzCalls(f *testing.F) {
	f.Add([]byte{0, 1, 2, 0, 2, 1, 2, 0, 0, 3, 2, 9, 3, 2, 0, 1, 2, 0, 1, 0, 0, 1, 5, 0})
	f.Add([]byte{0, 0, 1, 0, 1, 9, 3, 0, 0, 4, 6, 0, 4, 255, 3})
	f.Fuzz(func(t *testing.T, l []byte) {
		b := newBoth()
		for i := 0; i+2 < len(l); i += 3 {
			if wrong := b.do(int(l[i])%5, int(int8(l[i+1])), int(int8(l[i+2]))); wrong != "" {
				t.Fatalf("call %d: %s", i/3, wrong)
			}
		}
		if wrong := b.end(); wrong != "" {
			t.Fatalf("at its end: %s", wrong)
		}
	})
}
