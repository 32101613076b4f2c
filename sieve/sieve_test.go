package sieve_test

import (
	"encoding/binary"
	"fmt"
	"math"
	"math/rand"
	"slices"
	"strings"
	"testing"

	"hauberk/api"
	"hauberk/sieve"
)

const memory = 64

// told asks a sieve of these numbers, and tells each answer by a letter: yes, no, arg, nil; ! is none that may be.
func told(s *sieve.Sieve, numbers ...int) string {
	var b strings.Builder
	for _, n := range numbers {
		fresh, e := s.Fresh(n)
		switch {
		case e == api.OK && fresh:
			b.WriteByte('y')
		case e == api.OK:
			b.WriteByte('n')
		case e == api.ErrArg && !fresh:
			b.WriteByte('a')
		case e == api.ErrNil && !fresh:
			b.WriteByte('0')
		default:
			b.WriteByte('!')
		}
	}
	return b.String()
}

// tells asks whether a sieve answers so.
func tells(t *testing.T, s *sieve.Sieve, want string, numbers ...int) {
	t.Helper()
	if got := told(s, numbers...); got != want {
		t.Errorf("Fresh of %v: %s, want %s", numbers, got, want)
	}
}

// after answers a sieve that has been asked of these numbers, in order.
func after(numbers ...int) *sieve.Sieve {
	s := sieve.New()
	told(s, numbers...)
	return s
}

// count answers the numbers from a to b.
func count(a, b int) []int {
	var l []int
	for n := a; n <= b; n++ {
		l = append(l, n)
	}
	return l
}

// wrong are numbers that no sieve takes.
func wrong() []int {
	return []int{0, -1, -5, -63, -64, -65, -128, -1 << 31, -1 << 32, 1 - 1<<32, -1 << 62, math.MinInt + 65, math.MinInt + 64, math.MinInt + 63, math.MinInt + 1, math.MinInt}
}

// The chapter's examples

func TestExamples(t *testing.T) {
	tells(t, sieve.New(), "yynyyyn", 1, 2, 2, 5, 4, 3, 4)
	tells(t, sieve.New(), "ynynyny", 70, 6, 7, 7, 200, 136, 137)
	tells(t, sieve.New(), "aayn", 0, -5, 1<<62, 1)
}

func TestNumbersOfErrors(t *testing.T) {
	var nobody *sieve.Sieve
	_, nils := nobody.Fresh(1)
	_, args := sieve.New().Fresh(0)
	_, well := sieve.New().Fresh(1)
	if nils != 1 || args != 2 || well != 0 {
		t.Errorf("%d %d %d", nils, args, well)
	}
}

// P10.1

func TestNewHasSeenNothing(t *testing.T) {
	for _, n := range append(count(1, 300), 1<<31-1, 1<<31, 1<<32, 1<<32+1, api.MaxNumber, 1<<62, math.MaxInt-64, math.MaxInt-63, math.MaxInt-1, math.MaxInt) {
		tells(t, sieve.New(), "yn", n, n)
	}
}

func TestSievesAreOfTheirOwn(t *testing.T) {
	a, b := sieve.New(), sieve.New()
	if a == b {
		t.Error("one sieve, made twice")
	}
	tells(t, a, "yyy", 1, 2, 100)
	tells(t, b, "yyn", 1, 2, 1)
	tells(t, a, "ny", 2, 99)
	tells(t, b, "yyy", 3, 4, 100)
}

// P10.2

func TestFreshOfNone(t *testing.T) {
	var nobody *sieve.Sieve
	for _, s := range []*sieve.Sieve{nobody, {}, new(sieve.Sieve)} {
		for _, n := range append(wrong(), 1, 2, 64, 65, 1<<62, math.MaxInt) {
			tells(t, s, "00", n, n)
		}
	}
}

func TestFreshRefuses(t *testing.T) {
	for _, n := range wrong() {
		tells(t, sieve.New(), "aay", n, n, 1)
		tells(t, after(1, 64, 70), "aa", n, n)
		tells(t, after(math.MaxInt), "aa", n, n)
	}
}

func TestFreshAtTheOtherEndOfMemory(t *testing.T) {
	for _, top := range []int{65, 66, 127, 128, 129, 1000, 1 << 31, 1<<32 + 7, 1 << 53, 1 << 62, math.MaxInt - 1, math.MaxInt} {
		tells(t, after(top), "n", top)
		tells(t, after(top), "yn", top-63, top-63)
		tells(t, after(top), "nnyn", top-64, top-64, top-63, top-64)
		tells(t, after(top), "nnn", 1, top-64, 1)
	}
}

func TestFreshOfOne(t *testing.T) {
	tells(t, sieve.New(), "ynn", 1, 1, 1)
	for top := 2; top <= 64; top++ {
		tells(t, after(top), "yn", 1, 1)
		tells(t, after(1, top), "nn", 1, top)
	}
	for _, top := range []int{65, 66, 67, 128, 129, 1 << 40, math.MaxInt} {
		tells(t, after(top), "nn", 1, 1)
		tells(t, after(1, top), "nn", 1, 1)
	}
}

func TestNumbersBelowZeroAreNeverWithin(t *testing.T) { // top - 63 is below 1 as long as top is below 64
	for top := 1; top <= 64; top++ {
		tells(t, after(top), "aa", top-64, 0)
		tells(t, after(top), strings.Repeat("y", top-1)+"n", count(1, top)...)
	}
}

func TestStepsUp(t *testing.T) {
	for _, step := range append(count(1, 130), 191, 192, 193, 256, 320, 1000, 1<<16, 1<<32, 1<<32+1, 1<<32+63, 1<<53, 1<<62, math.MaxInt-200) {
		seen := []int{200, 137, 139, 141, 169, 197, 199} // both ends of the 64 up to 200, and some between
		top := 200 + step
		for below := range 201 { // each number alone: asking of one must not help another one
			n := top - below
			want := "y"
			if slices.Contains(seen, n) || n == top || below >= memory {
				want = "n"
			}
			s := after(seen...)
			tells(t, s, "y", top)
			if got := told(s, n); got != want {
				t.Errorf("a step of %d to %d: Fresh(%d): %s, want %s", step, top, n, got, want)
			}
		}
	}
}

func TestStepsUpByName(t *testing.T) {
	tells(t, after(1), "ynyn", 64, 1, 2, 2)        // a step of 63: 1 is the last that is known
	tells(t, after(1), "ynyn", 65, 1, 2, 2)        // of 64: 1 is out, 2 is the last
	tells(t, after(1, 2), "ynnyn", 66, 1, 2, 3, 3) // of 64 from the top 2
	tells(t, after(1), "ynnyn", 66, 1, 2, 3, 3)    // of 65
	tells(t, after(1, 2, 3), "ynnnnyy", 1<<40, 1, 2, 3, 1<<40-64, 1<<40-63, 1<<40-1)
}

func TestStepsFromNothing(t *testing.T) { // the top is 0 at first, but 0 was not seen, nor was anything ahead of it
	for _, step := range []int{1, 62, 63, 64, 65, 66, 127, 128, 129} {
		for n := 1; n < step; n++ {
			want := "y"
			if step-n >= memory {
				want = "n"
			}
			tells(t, after(step), want, n)
		}
	}
}

func TestTheGreatestNumbers(t *testing.T) {
	for i := range 130 {
		n := math.MaxInt - i
		want := "n"
		if i > 0 && i < memory {
			want = "y"
		}
		tells(t, after(math.MaxInt), want+"n", n, n)
		tells(t, after(math.MaxInt-200, n), "nn", n, math.MaxInt-264)
	}
	tells(t, sieve.New(), strings.Repeat("y", 200)+"n", append(count(math.MaxInt-199, math.MaxInt-1), math.MaxInt, math.MaxInt)...)
}

func TestWhatIsNotTheTopLeavesIt(t *testing.T) {
	s := after(1000)
	tells(t, s, "yyyn", 937, 999, 950, 936) // the last of them would be fresh, had the top gone down
	tells(t, s, "nnnn", 937, 950, 999, 1000)
	tells(t, s, "yny", 1001, 937, 938)
}

// P10.3

func TestNoNumberIsFreshTwice(t *testing.T) {
	r := rand.New(rand.NewSource(103))
	for range 200 {
		s, was := sieve.New(), map[int]int{}
		base := []int{0, 1 << 31, math.MaxInt - 600}[r.Intn(3)]
		for range 2000 {
			n := base + 1 + r.Intn(600)
			if told(s, n) == "y" {
				was[n]++
			}
		}
		for n, times := range was {
			if times != 1 {
				t.Errorf("%d was fresh %d times", n, times)
			}
		}
	}
}

func TestInOrderAllAreFresh(t *testing.T) {
	s := sieve.New()
	for n := 1; n <= 1<<17; n++ {
		if got := told(s, n); got != "y" {
			t.Fatalf("Fresh(%d): %s", n, got)
		}
	}
	for n := 1; n <= 1<<17; n++ {
		if got := told(s, n); got != "n" {
			t.Fatalf("Fresh(%d) once more: %s", n, got)
		}
	}
}

func TestBackWithinMemoryAllAreFresh(t *testing.T) { // 64 at a time, the greatest of them first
	for size := 1; size <= memory; size++ {
		s := sieve.New()
		for from := 0; from < 10*size; from += size {
			for n := from + size; n > from; n-- {
				tells(t, s, "y", n)
			}
		}
	}
	tells(t, after(count(2, 65)...), "n", 1) // one more is too many
}

func TestMixedWithinMemoryAllAreFresh(t *testing.T) {
	r := rand.New(rand.NewSource(1031))
	for range 100 {
		s, left, top := sieve.New(), count(1, 1500), 0
		for len(left) > 0 {
			i := r.Intn(min(len(left), 80))
			if left[i]-left[0] >= memory { // then the least one would come too late
				i = 0
			}
			n := left[i]
			if top-n >= memory {
				t.Fatalf("the test asks of %d behind %d", n, top)
			}
			left, top = append(left[:i], left[i+1:]...), max(top, n)
			tells(t, s, "y", n)
		}
	}
}

// P10.4

// rest asks a sieve of every number about its top, and tells what it answers.
func rest(s *sieve.Sieve, top int) string {
	var l []int
	for n := max(1, top-140); n < top+3; n++ {
		l = append(l, n)
	}
	return told(s, l...)
}

func TestRefusedChangesNothing(t *testing.T) {
	for _, rows := range [][]int{{}, {1}, {63}, {64}, {65}, {64, 1}, {1, 3, 5, 64}, {70, 7, 9}, {200, 137, 150, 199}, {1 << 62}, {1 << 62, 1<<62 - 63}} {
		top := 0
		for _, n := range rows {
			top = max(top, n)
		}
		want := rest(after(rows...), top)
		for _, n := range wrong() {
			s := after(rows...)
			tells(t, s, "aa", n, n)
			if got := rest(s, top); got != want {
				t.Errorf("behind %v and %d: %s, want %s", rows, n, got, want)
			}
		}
	}
}

func TestWhatIsNotFreshChangesNothing(t *testing.T) {
	for _, rows := range [][]int{{1}, {65}, {64, 1}, {70, 7, 9}, {200, 137, 150, 199}, {1 << 62, 1<<62 - 63, 1<<62 - 5}} {
		top := rows[0]
		want := rest(after(rows...), top)
		not := append([]int{}, rows...)
		for _, n := range []int{1, top - 64, top - 65, top - 128, top - 129} {
			if n > 0 && n <= top-64 {
				not = append(not, n)
			}
		}
		for _, n := range not {
			s := after(rows...)
			tells(t, s, "nn", n, n)
			if got := rest(s, top); got != want {
				t.Errorf("behind %v and %d: %s, want %s", rows, n, got, want)
			}
		}
	}
}

func TestANoneStaysNone(t *testing.T) {
	s := &sieve.Sieve{}
	tells(t, s, "000000", 1, 64, 0, -1, 65, 1)
	if *s != (sieve.Sieve{}) {
		t.Error("a zero one was changed")
	}
}

// All of them

// both is a sieve and a model of it, which remembers all that it ever saw.
type both struct {
	s   *sieve.Sieve
	saw map[int]bool
	top int
}

func newBoth() *both { return &both{s: sieve.New(), saw: map[int]bool{}} }

// do asks both of n, and tells what was wrong.
func (b *both) do(n int) string {
	want := "n"
	switch {
	case n < 1:
		want = "a"
	case n > b.top-memory && !b.saw[n]:
		want = "y"
		b.saw[n] = true
		b.top = max(b.top, n)
	}
	if got := told(b.s, n); got != want {
		return fmt.Sprintf("Fresh(%d): %s, want %s", n, got, want)
	}
	return ""
}

func TestEveryShortRow(t *testing.T) {
	numbers := []int{0, 1, 2, 3, 62, 63, 64, 65, 66, 127, 128, 129}
	const length = 5
	rows := 1
	for range length {
		rows *= len(numbers)
	}
	for row := range rows {
		b := newBoth()
		for i, left := 0, row; i < length; i, left = i+1, left/len(numbers) {
			if bad := b.do(numbers[left%len(numbers)]); bad != "" {
				t.Fatalf("row %d, call %d: %s", row, i, bad)
			}
		}
	}
}

func TestLongRows(t *testing.T) {
	r := rand.New(rand.NewSource(10))
	for row := range 300 {
		b := newBoth()
		spread := 1 + r.Intn(200)
		for i := range 3000 {
			n := b.top - r.Intn(spread)
			switch r.Intn(40) {
			case 0:
				n = b.top + r.Intn(200)
			case 1, 2, 3, 4:
				n = b.top + r.Intn(3)
			case 5:
				n = r.Intn(3) - 1
			case 6:
				n = b.top - 60 - r.Intn(8)
			}
			if bad := b.do(n); bad != "" {
				t.Fatalf("row %d, call %d, top %d: %s", row, i, b.top, bad)
			}
		}
	}
}

func FuzzCalls(f *testing.F) {
	f.Add([]byte{0, 70, 1, 63, 1, 64, 0, 1, 2, 9})
	f.Add([]byte{3, 127, 255, 255, 255, 255, 255, 255, 255, 1, 63, 1, 64})
	f.Add([]byte{3, 128, 0, 0, 0, 0, 0, 0, 0, 0, 65, 1, 64, 1, 63})
	f.Fuzz(func(t *testing.T, script []byte) {
		b := newBoth()
		for len(script) > 1 {
			n, by := 0, int(script[1])
			switch script[0] % 4 {
			case 0:
				n = b.top + min(by, math.MaxInt-b.top)
			case 1:
				n = b.top - by
			case 2:
				n = by - 3
			default:
				var word [8]byte
				copy(word[:], script[1:])
				n = int(binary.BigEndian.Uint64(word[:]))
				script = script[min(7, len(script)-2):]
			}
			script = script[2:]
			if bad := b.do(n); bad != "" {
				t.Fatal(bad)
			}
		}
	})
}
