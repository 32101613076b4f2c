package crew_test

import (
	"math"
	"math/bits"
	"math/rand"
	"slices"
	"testing"

	"hauberk/api"
	"hauberk/crew"
)

// nodesOf answers the nodes of c as the document says them: the node n is the value 2^n, and no other value is anybody's.
func nodesOf(c int) []int {
	values := [][2]int{{1, 2}, {2, 4}, {3, 8}, {4, 16}, {5, 32}, {6, 64}, {7, 128}, {8, 256}}
	var l []int
	for _, v := range values {
		if c&v[1] != 0 {
			l = append(l, v[0])
		}
	}
	return l
}

// crews answers every number that may be a crew.
func crews() []int {
	var l []int
	for c := 0; c <= 510; c += 2 {
		l = append(l, c)
	}
	return l
}

// numbers answers every crew, each as it is and with bits that are nobody's, and numbers at the ends.
func numbers() []int {
	nobodys := []int{0, 1, 512, 513, 1 << 31, 1 << 32, 1 << 62, math.MinInt, math.MinInt | 1, -512, -511}
	var l []int
	for _, c := range crews() {
		for _, more := range nobodys {
			l = append(l, c|more)
		}
	}
	return append(l, math.MaxInt, math.MaxInt-1, math.MinInt, math.MinInt+1, -1, -2, -3, 511, 512, 513, 1023, 1024)
}

// places answers every node, and numbers that are none, out to the ends.
func places() []int {
	l := []int{math.MinInt, math.MinInt + 1, -1 << 32, -513, -65, -64, -63, -9, -8, -7, -1}
	for n := range 70 {
		l = append(l, n)
	}
	return append(l, 255, 256, 257, 1<<32, 1<<32+1, 1<<62, math.MaxInt-1, math.MaxInt)
}

// strangers answers numbers that are no nodes.
func strangers() []int {
	return slices.DeleteFunc(places(), func(n int) bool { return 1 <= n && n <= 8 })
}

// P3.1

func TestCheck(t *testing.T) {
	cases := []struct {
		c    int
		want api.Errno
	}{
		{0, api.OK}, {2, api.OK}, {10, api.OK}, {256, api.OK}, {510, api.OK},
		{1, api.ErrArg}, {3, api.ErrArg}, {511, api.ErrArg},
		{512, api.ErrArg}, {514, api.ErrArg}, {1022, api.ErrArg}, {1 << 32, api.ErrArg}, {1<<32 | 2, api.ErrArg}, {1 << 62, api.ErrArg},
		{-1, api.ErrArg}, {-2, api.ErrArg}, {-510, api.ErrArg}, {-512, api.ErrArg},
		{math.MinInt, api.ErrArg}, {math.MinInt + 2, api.ErrArg}, {math.MaxInt, api.ErrArg}, {math.MaxInt - 1, api.ErrArg},
	}
	for _, c := range cases {
		if e := crew.Check(c.c); e != c.want {
			t.Errorf("Check(%d): %d, want %d", c.c, e, c.want)
		}
	}
}

func TestCheckTakesCrewsAlone(t *testing.T) {
	for c := -2000; c <= 2000; c++ {
		want := api.ErrArg
		if c >= 0 && c <= 510 && c%2 == 0 {
			want = api.OK
		}
		if e := crew.Check(c); e != want {
			t.Errorf("Check(%d): %d, want %d", c, e, want)
		}
	}
	for bit := 9; bit < 64; bit++ {
		for _, c := range []int{0, 2, 510} {
			if e := crew.Check(c | 1<<bit); e != api.ErrArg {
				t.Errorf("Check of %d with the bit %d: %d", c, bit, e)
			}
		}
	}
}

func TestOf(t *testing.T) {
	cases := []struct {
		l    []int
		want int
	}{
		{nil, 0},
		{[]int{}, 0},
		{[]int{1}, 2},
		{[]int{8}, 256},
		{[]int{1, 8}, 258},
		{[]int{8, 1}, 258},
		{[]int{3, 1, 3}, 10},
		{[]int{1, 2, 3, 4, 5, 6, 7, 8}, 510},
		{[]int{8, 7, 6, 5, 4, 3, 2, 1}, 510},
		{[]int{8, 8, 8, 8, 8, 8, 8, 8, 8, 8}, 256},
		{slices.Repeat([]int{2, 7}, 1000), 132},
	}
	for _, c := range cases {
		if got, e := crew.Of(c.l...); got != c.want || e != api.OK {
			t.Errorf("Of(%v): %d, %d, want %d", c.l, got, e, c.want)
		}
	}
	if got, e := crew.Of(); got != 0 || e != api.OK {
		t.Errorf("Of(): %d, %d", got, e)
	}
	if got, e := crew.Of(3, 1, 3); got != 10 || e != api.OK {
		t.Errorf("Of(3, 1, 3): %d, %d", got, e)
	}
}

func TestOfRefusesStrangers(t *testing.T) {
	for _, n := range strangers() {
		for _, l := range [][]int{{n}, {n, 1}, {1, n}, {1, 8, n, 2}, {n, n}} {
			if got, e := crew.Of(l...); got != 0 || e != api.ErrArg {
				t.Errorf("Of(%v): %d, %d", l, got, e)
			}
		}
	}
}

func TestOfLeavesWhatItIsHanded(t *testing.T) {
	for _, l := range [][]int{{3, 1, 3}, {8, 7, 6}, {5, 0, 2}, {9}, {}} {
		room := append(slices.Clone(l), 71, 72, 73)
		was := slices.Clone(room)
		crew.Of(room[:len(l)]...)
		if !slices.Equal(room, was) {
			t.Errorf("Of(%v) left %v", was, room)
		}
	}
}

// P3.2

func TestList(t *testing.T) {
	cases := []struct {
		c    int
		want []int
	}{
		{0, nil},
		{1, nil},
		{512, nil},
		{513, nil},
		{math.MinInt, nil},
		{2, []int{1}},
		{256, []int{8}},
		{258, []int{1, 8}},
		{10, []int{1, 3}},
		{11, []int{1, 3}},
		{510, []int{1, 2, 3, 4, 5, 6, 7, 8}},
		{-1, []int{1, 2, 3, 4, 5, 6, 7, 8}},
		{-2, []int{1, 2, 3, 4, 5, 6, 7, 8}},
		{-512, nil},
		{math.MaxInt, []int{1, 2, 3, 4, 5, 6, 7, 8}},
		{math.MinInt + 2, []int{1}},
	}
	for _, c := range cases {
		if got := crew.List(c.c); !slices.Equal(got, c.want) {
			t.Errorf("List(%d): %v, want %v", c.c, got, c.want)
		}
		if got := crew.Count(c.c); got != len(c.want) {
			t.Errorf("Count(%d): %d, want %d", c.c, got, len(c.want))
		}
	}
}

func TestListOfAnyNumber(t *testing.T) {
	for _, c := range numbers() {
		if got, want := crew.List(c), nodesOf(c); !slices.Equal(got, want) {
			t.Errorf("List(%d): %v, want %v", c, got, want)
		}
	}
}

func TestListIsNewMemory(t *testing.T) {
	for _, c := range []int{2, 10, 256, 510, -1} {
		want := nodesOf(c)
		got, other := crew.List(c), crew.List(c)
		spoil(got)
		if !slices.Equal(other, want) {
			t.Errorf("List(%d) is %v since another answer was written into", c, other)
		}
		if again := crew.List(c); !slices.Equal(again, want) {
			t.Errorf("List(%d) answers %v since its answer was written into", c, again)
		}
	}
}

// spoil writes over l, and over its spare room.
func spoil(l []int) {
	l = l[:cap(l)]
	for i := range l {
		l[i] = 77
	}
}

func TestHas(t *testing.T) {
	cases := []struct {
		c, n int
		want bool
	}{
		{10, 1, true}, {10, 3, true}, {10, 2, false}, {10, 4, false}, {10, 0, false},
		{2, 1, true}, {256, 8, true}, {256, 9, false}, {256, 7, false},
		{0, 1, false}, {0, 8, false},
		{1, 0, false}, {-1, 0, false}, {-1, 9, false}, {-1, -1, false}, {512, 9, false},
		{-1, 1, true}, {-1, 8, true},
		{math.MinInt, 63, false}, {-1, 63, false}, {-1, 64, false}, {-1, math.MinInt, false}, {-1, math.MaxInt, false},
	}
	for _, c := range cases {
		if got := crew.Has(c.c, c.n); got != c.want {
			t.Errorf("Has(%d, %d): %t", c.c, c.n, got)
		}
	}
}

func TestHasOfAnyNumber(t *testing.T) {
	for _, c := range numbers() {
		l := nodesOf(c)
		for _, n := range places() {
			if got, want := crew.Has(c, n), slices.Contains(l, n); got != want {
				t.Errorf("Has(%d, %d): %t", c, n, got)
			}
		}
	}
}

func TestCount(t *testing.T) {
	cases := []struct{ c, want int }{{0, 0}, {1, 0}, {512, 0}, {2, 1}, {256, 1}, {10, 2}, {11, 2}, {510, 8}, {511, 8}, {-1, 8}, {math.MinInt, 0}, {math.MaxInt, 8}}
	for _, c := range cases {
		if got := crew.Count(c.c); got != c.want {
			t.Errorf("Count(%d): %d, want %d", c.c, got, c.want)
		}
	}
	for _, c := range numbers() {
		if got, want := crew.Count(c), len(nodesOf(c)); got != want {
			t.Errorf("Count(%d): %d, want %d", c, got, want)
		}
	}
}

func TestLeast(t *testing.T) {
	cases := []struct{ c, want int }{{10, 1}, {1, 0}, {0, 0}, {512, 0}, {2, 1}, {256, 8}, {257, 8}, {384, 7}, {510, 1}, {-1, 1}, {-4, 2}, {-512, 0}, {math.MinInt, 0}, {math.MaxInt, 1}}
	for _, c := range cases {
		if got := crew.Least(c.c); got != c.want {
			t.Errorf("Least(%d): %d, want %d", c.c, got, c.want)
		}
	}
	for _, c := range numbers() {
		want := 0
		if l := nodesOf(c); len(l) > 0 {
			want = slices.Min(l)
		}
		if got := crew.Least(c); got != want {
			t.Errorf("Least(%d): %d, want %d", c, got, want)
		}
	}
}

// P3.3

func TestNext(t *testing.T) {
	cases := []struct{ c, n, want int }{
		{10, 1, 3}, {10, 2, 3},
		{10, 3, 1}, {10, 4, 1}, {10, 8, 1},
		{10, 0, 1}, {10, -1, 1}, {10, -9, 1}, {10, 9, 1}, {10, 10, 1},
		{10, math.MinInt, 1}, {10, math.MaxInt, 1}, {10, 1 << 62, 1}, {10, 1 << 32, 1},
		{4, 2, 2}, {2, 1, 1}, {256, 8, 8}, {256, 7, 8}, {256, 0, 8}, {256, 9, 8},
		{258, 1, 8}, {258, 8, 1}, {510, 7, 8}, {510, 8, 1},
		{0, 5, 0}, {0, 0, 0}, {0, -1, 0}, {0, 9, 0}, {0, math.MaxInt, 0}, {0, math.MinInt, 0},
		{1, 5, 0}, {1, -1, 0}, {512, 8, 0}, {513, 0, 0}, {math.MinInt, 8, 0},
		{1025, 8, 0}, {514, 8, 1}, {-1, 8, 1}, {-1, 0, 1}, {-1, -1, 1}, {11, -1, 1},
	}
	for _, c := range cases {
		if got := crew.Next(c.c, c.n); got != c.want {
			t.Errorf("Next(%d, %d): %d, want %d", c.c, c.n, got, c.want)
		}
	}
}

func TestNextOfAnyNumber(t *testing.T) {
	for _, c := range numbers() {
		for _, n := range places() {
			if got, want := crew.Next(c, n), behind(nodesOf(c), n); got != want {
				t.Errorf("Next(%d, %d): %d, want %d", c, n, got, want)
			}
		}
	}
}

// behind answers what of l, which rises, comes behind n, going around.
func behind(l []int, n int) int {
	if len(l) == 0 {
		return 0
	}
	if i := slices.IndexFunc(l, func(m int) bool { return m > n }); i >= 0 {
		return l[i]
	}
	return l[0]
}

// P3.4

func TestOfListIsTheCrew(t *testing.T) {
	for _, c := range crews() {
		if got, e := crew.Of(crew.List(c)...); got != c || e != api.OK {
			t.Errorf("Of(List(%d)): %d, %d", c, got, e)
		}
	}
	for _, c := range numbers() {
		if got, e := crew.Of(crew.List(c)...); got != c&510 || e != api.OK {
			t.Errorf("Of(List(%d)): %d, %d", c, got, e)
		}
	}
}

func TestListOfIsTheNodes(t *testing.T) {
	r := rand.New(rand.NewSource(3))
	for range 2000 {
		l := make([]int, r.Intn(20))
		for i := range l {
			l[i] = 1 + r.Intn(8)
		}
		c, e := crew.Of(l...)
		want := slices.Clone(l)
		slices.Sort(want)
		want = slices.Compact(want)
		if got := crew.List(c); !slices.Equal(got, want) || e != api.OK {
			t.Errorf("List(Of(%v)): %v, %d, want %v", l, got, e, want)
		}
		if crew.Check(c) != api.OK {
			t.Errorf("Of(%v): %d, which may not be", l, c)
		}
	}
}

// P3.5

func TestNextGoesAround(t *testing.T) {
	for _, c := range numbers() {
		for _, first := range nodesOf(c) {
			met := []int{first}
			for n := crew.Next(c, first); n != first && len(met) <= 8; n = crew.Next(c, n) {
				met = append(met, n)
			}
			slices.Sort(met)
			if !slices.Equal(met, nodesOf(c)) {
				t.Errorf("from %d around %d: met %v", first, c, met)
			}
		}
	}
}

// P3.6

func TestCountOfTwo(t *testing.T) {
	for _, a := range crews() {
		for _, b := range crews() {
			if got, want := crew.Count(a|b), crew.Count(a)+crew.Count(b)-crew.Count(a&b); got != want {
				t.Errorf("Count(%d|%d): %d, want %d", a, b, got, want)
			}
			if got, want := crew.Count(a|b), bits.OnesCount(uint(a|b)); got != want {
				t.Errorf("Count(%d|%d): %d, want %d", a, b, got, want)
			}
		}
	}
}

// All of them

func FuzzAnyNumbers(f *testing.F) {
	for _, c := range []int{0, 1, 2, 10, 510, 511, 512, -1, -2, math.MinInt, math.MaxInt} {
		for _, n := range []int{0, 1, 8, 9, -1, math.MinInt, math.MaxInt} {
			f.Add(c, n)
		}
	}
	f.Fuzz(func(t *testing.T, c, n int) {
		l := nodesOf(c)
		if got := crew.List(c); !slices.Equal(got, l) {
			t.Errorf("List(%d): %v", c, got)
		}
		if crew.Count(c) != len(l) || crew.Least(c) != behind(l, 0) || crew.Next(c, n) != behind(l, n) || crew.Has(c, n) != slices.Contains(l, n) {
			t.Errorf("%d, %d: %d, %d, %d, %t", c, n, crew.Count(c), crew.Least(c), crew.Next(c, n), crew.Has(c, n))
		}
		back, e := crew.Of(l...)
		if e != api.OK || (back == c) != (crew.Check(c) == api.OK) {
			t.Errorf("%d: %d, %d, %d", c, back, e, crew.Check(c))
		}
		one, e := crew.Of(n)
		if (e == api.OK) != (1 <= n && n <= 8) || !slices.Equal(crew.List(one), nodesOf(one)) || (one == 0) != (e == api.ErrArg) {
			t.Errorf("Of(%d): %d, %d", n, one, e)
		}
	})
}
