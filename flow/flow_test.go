package flow_test

import (
	"math"
	"math/big"
	"math/rand"
	"slices"
	"testing"

	"hauberk/api"
	"hauberk/flow"
)

const (
	least    = math.MinInt64
	greatest = math.MaxInt64
)

// The numbers of the document, written out, so that the package is not held against itself.
const (
	burst = 4
	reach = 32
)

// allows asks whether this may be sent.
func allows(t *testing.T, waiting, seq, aru, want int) {
	t.Helper()
	if n := flow.Allow(waiting, seq, aru); n != want {
		t.Errorf("Allow(%d, %d, %d): %d, want %d", waiting, seq, aru, n, want)
	}
}

// byWords answers what may be sent, by the chapter's words, in numbers of any size.
func byWords(waiting, seq, aru int) int {
	ahead := new(big.Int).Sub(big.NewInt(int64(seq)), big.NewInt(int64(aru)))
	less := big.NewInt(int64(waiting))
	for _, n := range []*big.Int{big.NewInt(burst), new(big.Int).Sub(big.NewInt(reach), ahead)} {
		if n.Cmp(less) < 0 {
			less = n
		}
	}
	if less.Sign() < 0 {
		return 0
	}
	return int(less.Int64())
}

// about answers the numbers no more than this many from n, as far as there are any.
func about(n, many int) []int {
	var l []int
	for d := -many; d <= many; d++ {
		if v := n + d; (d < 0) == (v < n) {
			l = append(l, v)
		}
	}
	return l
}

// edges answers numbers in their order, at which what may be sent might change, or a difference wrap.
func edges() []int {
	var l []int
	for _, n := range []int{0, burst, reach, -reach, 2 * reach, math.MaxInt32, math.MinInt32, 1 << 32, -1 << 32, api.MaxNumber, 1 << 62, -1 << 62} {
		l = append(l, about(n, 1)...)
	}
	for _, n := range []int{least, least + reach, greatest, greatest - reach} {
		l = append(l, about(n, burst+1)...)
	}
	slices.Sort(l)
	return slices.Compact(l)
}

// shifts answers numbers that seq and aru both may be moved by, from the midst to the ends.
func shifts() []int {
	return []int{0, 1, -1, 7, -40, math.MaxInt32, -1 << 40, api.MaxNumber, 1 << 62, -1 << 62, greatest - 200, least + 200}
}

func TestExamples(t *testing.T) {
	allows(t, 9, 10, 10, 4)
	allows(t, 2, 10, 10, 2)
	allows(t, 9, 40, 10, 2)
	allows(t, 9, 42, 10, 0)
	allows(t, 9, 50, 10, 0)
	allows(t, -5, 0, 0, 0)
	allows(t, 9, 5, 30, 4)
	allows(t, 9, greatest, least, 0)
	allows(t, 9, least, greatest, 4)
}

func TestLimits(t *testing.T) {
	if api.Burst != burst || api.Reach != reach {
		t.Errorf("Burst %d, Reach %d", api.Burst, api.Reach)
	}
}

// P15.1

func TestSoManyAsWait(t *testing.T) {
	for _, by := range shifts() {
		for waiting, want := range []int{0, 1, 2, 3, 4, 4, 4} {
			allows(t, waiting, by, by, want)
		}
	}
	for _, waiting := range []int{reach - 1, reach, reach + 1, math.MaxInt32, 1 << 32, 1<<32 + 1, greatest - 1, greatest} {
		allows(t, waiting, 10, 10, burst)
	}
}

func TestLessThanNoneWait(t *testing.T) {
	for _, waiting := range []int{-1, -2, -burst, -reach, math.MinInt32, -1 << 32, -1<<32 + 1, least + 1, least} {
		for _, seq := range []int{0, 10, -10, reach, 100, least, greatest} {
			for _, aru := range []int{0, 10, -10, reach, 100, least, greatest} {
				allows(t, waiting, seq, aru, 0)
			}
		}
	}
}

func TestSoFarAsReach(t *testing.T) {
	for _, by := range shifts() {
		for ahead := range 100 {
			allows(t, greatest, by+ahead, by, min(burst, max(0, reach-ahead)))
			allows(t, 2, by+ahead, by, min(2, max(0, reach-ahead)))
		}
		for i, want := range []int{4, 4, 3, 2, 1, 0, 0} {
			allows(t, 9, by+27+i, by, want)
		}
	}
}

func TestFarAhead(t *testing.T) {
	for _, ahead := range []int{math.MaxInt32, 1 << 32, 1<<32 + 1, 1<<32 + reach, api.MaxNumber, 1 << 62, greatest} {
		allows(t, 9, ahead, 0, 0)
		allows(t, 9, ahead, 1, 0)
		allows(t, 9, 0, -ahead, 0)
	}
}

func TestBehindWhatAllHave(t *testing.T) {
	for _, by := range shifts() {
		for behind := range 100 {
			allows(t, 9, by, by+behind, burst)
			allows(t, 3, by, by+behind, 3)
			allows(t, 0, by, by+behind, 0)
		}
	}
	for _, behind := range []int{math.MaxInt32, 1 << 32, 1<<32 + reach, api.MaxNumber, 1 << 62, greatest} {
		allows(t, 9, 0, behind, burst)
		allows(t, 9, -behind, 0, burst)
		allows(t, 9, -behind, 1, burst)
	}
}

func TestAtTheEnds(t *testing.T) {
	for d := range 80 {
		room := min(burst, max(0, reach-d))
		allows(t, 9, least+d, least, room)
		allows(t, 9, greatest, greatest-d, room)
		allows(t, 9, least, least+d, burst)
		allows(t, 9, greatest-d, greatest, burst)
		allows(t, greatest, greatest-d, least, 0)
		allows(t, greatest, greatest, least+d, 0)
		allows(t, greatest, least+d, greatest, burst)
		allows(t, greatest, least, greatest-d, burst)
	}
}

// A difference that no number of 64 bits holds may come to one from 0 to Reach, where it wraps.
func TestDifferencesThatWrap(t *testing.T) {
	for d := range 80 {
		allows(t, 9, greatest, -1-d, 0)
		allows(t, 9, 1+d, least, 0)
		allows(t, 9, -1-d, greatest, burst)
		allows(t, 9, least, 1+d, burst)
		allows(t, 9, 1<<62+d, -1<<62, 0)
		allows(t, 9, -1<<62, 1<<62+d, burst)
	}
}

func TestByWords(t *testing.T) {
	all := edges()
	for _, waiting := range all {
		for _, seq := range all {
			for _, aru := range all {
				allows(t, waiting, seq, aru, byWords(waiting, seq, aru))
			}
		}
	}
}

func TestByWordsAnyNumbers(t *testing.T) {
	r := rand.New(rand.NewSource(15))
	for range 100000 {
		waiting, seq := anyNumber(r), anyNumber(r)
		aru := anyNumber(r)
		if r.Intn(2) == 0 {
			aru = seq - r.Intn(2*reach)
		}
		allows(t, waiting, seq, aru, byWords(waiting, seq, aru))
	}
}

// anyNumber answers a number of any size, below 0 as often as above.
func anyNumber(r *rand.Rand) int {
	return int(r.Uint64()) >> r.Intn(64)
}

// P15.2

func TestBounds(t *testing.T) {
	all := edges()
	for _, waiting := range all {
		for _, seq := range all {
			for _, aru := range all {
				n := flow.Allow(waiting, seq, aru)
				if n < 0 || n > burst || n > max(0, waiting) {
					t.Fatalf("Allow(%d, %d, %d): %d", waiting, seq, aru, n)
				}
				if n > 0 && isBeyond(seq, n, aru) {
					t.Fatalf("Allow(%d, %d, %d): %d, beyond Reach", waiting, seq, aru, n)
				}
			}
		}
	}
}

// isBeyond asks, in numbers of any size, whether n more than seq are more than Reach beyond aru.
func isBeyond(seq, n, aru int) bool {
	sum := new(big.Int).Add(big.NewInt(int64(seq)), big.NewInt(int64(n)))
	return sum.Sub(sum, big.NewInt(int64(aru))).Cmp(big.NewInt(reach)) > 0
}

func TestSentAgainAndAgain(t *testing.T) {
	for _, aru := range shifts() {
		for ahead := range 2 * reach {
			for waiting := 1; waiting <= burst+1; waiting++ {
				seq := aru + ahead
				for range reach + 1 {
					seq += flow.Allow(waiting, seq, aru)
				}
				// All the room is used, and what was beyond it already stays where it is.
				if want := aru + max(ahead, reach); seq != want {
					t.Fatalf("aru %d, %d ahead, %d wait: %d, want %d", aru, ahead, waiting, seq, want)
				}
			}
		}
	}
}

func TestSentWhileWhatAllHaveMoves(t *testing.T) {
	r := rand.New(rand.NewSource(2))
	for _, from := range shifts() {
		seq, aru := from, from
		for seq < from+100 {
			n := flow.Allow(r.Intn(2*burst), seq, aru)
			seq += n
			if seq-aru > reach {
				t.Fatalf("%d sent: seq %d, aru %d", n, seq, aru)
			}
			if r.Intn(3) == 0 {
				aru += r.Intn(seq - aru + 1)
			}
		}
	}
}

func TestSoMuchOverAllAsWaits(t *testing.T) {
	for total := range 100 {
		left, seq, aru := total, 0, 0
		for range 100 {
			n := flow.Allow(left, seq, aru)
			left, seq = left-n, seq+n
			aru = seq
		}
		if left != 0 || seq != total {
			t.Fatalf("of %d: %d left, %d sent", total, left, seq)
		}
	}
}

// P15.3

func TestNeverLessNeverMore(t *testing.T) {
	all := edges()
	for _, a := range all {
		for _, b := range all {
			was := [3]int{0, 0, burst}
			for _, n := range all {
				now := [3]int{flow.Allow(n, a, b), flow.Allow(a, b, n), flow.Allow(a, n, b)}
				if now[0] < was[0] {
					t.Fatalf("Allow(%d, %d, %d): %d, with less that wait %d", n, a, b, now[0], was[0])
				}
				if now[1] < was[1] {
					t.Fatalf("Allow(%d, %d, %d): %d, with a lesser aru %d", a, b, n, now[1], was[1])
				}
				if now[2] > was[2] {
					t.Fatalf("Allow(%d, %d, %d): %d, with a lesser seq %d", a, n, b, now[2], was[2])
				}
				was = now
			}
		}
	}
}

func TestStepByStep(t *testing.T) {
	for _, by := range shifts() {
		for waiting := -2; waiting <= burst+2; waiting++ {
			for d := -reach - 10; d <= reach+10; d++ {
				n := flow.Allow(waiting, by+d, by)
				if more := flow.Allow(waiting+1, by+d, by); more < n || more > n+1 {
					t.Fatalf("one more than %d waits, %d ahead of %d: %d, was %d", waiting, d, by, more, n)
				}
				if more := flow.Allow(waiting, by+d, by+1); more < n || more > n+1 {
					t.Fatalf("%d wait, %d ahead of %d, a greater aru: %d, was %d", waiting, d, by, more, n)
				}
				if less := flow.Allow(waiting, by+d+1, by); less > n || less < n-1 {
					t.Fatalf("%d wait, %d ahead of %d, a greater seq: %d, was %d", waiting, d, by, less, n)
				}
			}
		}
	}
}

// R2

func TestAnswersHangOnArgumentsAlone(t *testing.T) {
	all := edges()
	for _, seq := range all {
		first := flow.Allow(9, seq, 10)
		flow.Allow(greatest, greatest, least)
		flow.Allow(least, least, greatest)
		allows(t, 9, seq, 10, first)
	}
}

func FuzzAnyNumbers(f *testing.F) {
	f.Add(9, 40, 10)
	f.Add(-5, 0, 0)
	f.Add(9, greatest, least)
	f.Add(9, least, greatest)
	f.Add(greatest, greatest, greatest-reach)
	f.Fuzz(func(t *testing.T, waiting, seq, aru int) {
		allows(t, waiting, seq, aru, byWords(waiting, seq, aru))
	})
}
