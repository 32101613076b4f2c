package twin_test

import (
	"bytes"
	"fmt"
	"math"
	"math/rand"
	"slices"
	"testing"

	"hauberk/api"
	"hauberk/twin"
)

const (
	lag    = 10
	memory = 64
)

func makeTwin(t testing.TB, node, life, lanes int, active bool) *twin.Twin {
	t.Helper()
	x, e := twin.New(node, life, lanes, active)
	if x == nil || e != api.OK {
		t.Fatalf("New(%d, %d, %d, %v): %d", node, life, lanes, active, e)
	}
	return x
}

// takes asks whether f, come over the lane, is told, and as new or not.
func takes(t *testing.T, x *twin.Twin, lane int, f api.Frame, isNew bool) {
	t.Helper()
	b, got, e := x.Unwrap(lane, written(f))
	if e != api.OK || got != isNew || !bytes.Equal(b, f.Bytes) {
		t.Errorf("Unwrap of (%d, %d, %d, %x) over %d: %x, %v, %d, want %v", f.Sender, f.Life, f.Serial, f.Bytes, lane, b, got, e, isNew)
	}
}

// sends asks whether what is wrapped next goes over these lanes (bits).
func sends(t *testing.T, x *twin.Twin, over ...int) {
	t.Helper()
	for i, want := range over {
		if _, got, e := x.Wrap([]byte{9}); e != api.OK || got != want {
			t.Errorf("Wrap %d of %v: over %d, %d", i, over, got, e)
		}
	}
}

func faulty(t *testing.T, x *twin.Twin, want int) {
	t.Helper()
	if got := x.Faulty(); got != want {
		t.Errorf("Faulty: %d, want %d", got, want)
	}
}

func reinstates(t *testing.T, x *twin.Twin, lane int, want api.Errno) {
	t.Helper()
	if e := x.Reinstate(lane); e != want {
		t.Errorf("Reinstate(%d): %d, want %d", lane, e, want)
	}
}

// come lets so many frames come over the lane; what they are does not matter to the counts, so they are all the same.
func come(t *testing.T, x *twin.Twin, lane, count int) {
	t.Helper()
	for range count {
		if _, _, e := x.Unwrap(lane, written(frame(8, 1, 1))); e != api.OK {
			t.Fatalf("Unwrap over %d: %d", lane, e)
		}
	}
}

// wrongLanes are none of a twin of so many lanes.
func wrongLanes(lanes int) []int {
	return []int{-1, -2, -lanes, lanes, lanes + 1, 3, 4, 63, 64, 1 << 32, math.MaxInt, math.MinInt}
}

// The chapter's examples

func TestExamples(t *testing.T) {
	x := makeTwin(t, 4, 1, 2, true)
	for serial := 1; serial <= 2; serial++ {
		if b, over, e := x.Wrap([]byte{9}); over != 3 || e != api.OK || !bytes.Equal(b, written(frame(4, 1, serial, 9))) {
			t.Errorf("%x, %d, %d", b, over, e)
		}
	}
	sends(t, makeTwin(t, 4, 1, 3, false), 1, 2, 4, 1)
	takes(t, x, 0, frame(5, 7, 1), true)
	takes(t, x, 1, frame(5, 7, 1), false)
	takes(t, x, 1, frame(5, 6, 2), false)
	takes(t, x, 1, frame(5, 8, 1), true)
	x = makeTwin(t, 4, 1, 2, true)
	for serial := 1; serial <= 11; serial++ {
		faulty(t, x, 0)
		takes(t, x, 0, frame(5, 7, serial), true)
	}
	faulty(t, x, 2)
	reinstates(t, x, 0, api.ErrState)
	reinstates(t, x, 1, api.OK)
	faulty(t, x, 0)
}

func TestNumbersOfErrors(t *testing.T) {
	var none *twin.Twin
	x := makeTwin(t, 1, 1, 1, true)
	_, e1 := twin.New(0, 1, 1, true)
	_, _, e2 := x.Wrap(make([]byte, whole+1))
	_, e3 := twin.Open(nil)
	_, e4 := twin.Open(sealed([]byte{1, 1, 1, 0, 0}))
	_, e5 := twin.Open([]byte{1, 2, 3, 4})
	if none.Reinstate(0) != 1 || e1 != 2 || e2 != 5 || e3 != 3 || e4 != 4 || e5 != 60 || x.Reinstate(0) != 80 {
		t.Error(none.Reinstate(0), e1, e2, e3, e4, e5, x.Reinstate(0))
	}
}

// P11.2

func TestNew(t *testing.T) {
	for node := 1; node <= 8; node++ {
		for _, life := range []int{1, 2, 1 << 32, most - 1, most} {
			for lanes := 1; lanes <= 3; lanes++ {
				for _, active := range []bool{false, true} {
					x := makeTwin(t, node, life, lanes, active)
					faulty(t, x, 0)
					over := 1
					if active {
						over = 1<<lanes - 1
					}
					if b, got, e := x.Wrap(nil); e != api.OK || got != over || !bytes.Equal(b, written(frame(node, life, 1))) {
						t.Errorf("New(%d, %d, %d, %v): Wrap: %x, %d, %d", node, life, lanes, active, b, got, e)
					}
					reinstates(t, x, lanes-1, api.ErrState)
					reinstates(t, x, lanes, api.ErrArg)
				}
			}
		}
	}
}

func TestNewRefuses(t *testing.T) {
	refused := func(node, life, lanes int) {
		t.Helper()
		for _, active := range []bool{false, true} {
			if x, e := twin.New(node, life, lanes, active); x != nil || e != api.ErrArg {
				t.Errorf("New(%d, %d, %d, %v): %v, %d", node, life, lanes, active, x, e)
			}
		}
	}
	for _, n := range wrongNodes() {
		refused(n, 1, 1)
		refused(n, most, 3)
		refused(n, 0, 0)
	}
	for _, n := range wrongNumbers() {
		refused(1, n, 1)
		refused(8, n, 3)
		refused(8, n, 4)
	}
	for _, n := range []int{0, -1, 4, 5, 64, 1<<32 + 1, math.MaxInt, math.MinInt} {
		refused(1, 1, n)
		refused(8, most, n)
	}
}

func TestTwinsAreOfTheirOwn(t *testing.T) {
	a, b := makeTwin(t, 1, 1, 2, false), makeTwin(t, 1, 1, 2, false)
	if a == b {
		t.Fatal("one twin, made twice")
	}
	takes(t, a, 0, frame(5, 7, 1), true)
	takes(t, b, 0, frame(5, 7, 1), true)
	come(t, a, 0, 11)
	faulty(t, a, 2)
	faulty(t, b, 0)
	sends(t, a, 1, 1)
	sends(t, b, 1, 2)
	if out, _, _ := b.Wrap(nil); !bytes.Equal(out, written(frame(1, 1, 3))) {
		t.Errorf("%x", out)
	}
}

func TestNone(t *testing.T) {
	var none *twin.Twin
	for i, x := range []*twin.Twin{none, {}, new(twin.Twin)} {
		for range 2 {
			for _, b := range [][]byte{nil, {1}, filled(whole), filled(whole + 1), written(frame(1, 1, 1))} {
				if out, over, e := x.Wrap(b); out != nil || over != 0 || e != api.ErrNil {
					t.Errorf("%d: Wrap: %x, %d, %d", i, out, over, e)
				}
				for _, lane := range []int{0, 1, 2, 3, -1, math.MinInt} {
					if out, is, e := x.Unwrap(lane, b); out != nil || is || e != api.ErrNil {
						t.Errorf("%d: Unwrap: %x, %v, %d", i, out, is, e)
					}
					reinstates(t, x, lane, api.ErrNil)
				}
			}
			faulty(t, x, 0)
		}
	}
}

// P11.3

func TestWrapCounts(t *testing.T) {
	for _, active := range []bool{false, true} {
		x := makeTwin(t, 8, most, 3, active)
		for serial := 1; serial <= 1000; serial++ {
			in := filled(serial % (whole + 1))
			if b, _, e := x.Wrap(in); e != api.OK || !bytes.Equal(b, written(frame(8, most, serial, in...))) {
				t.Fatalf("Serial %d: %x, %d", serial, b, e)
			}
		}
	}
}

func TestWrapSizes(t *testing.T) {
	x := makeTwin(t, 1, 1, 1, true)
	for i, in := range [][]byte{nil, {}, {0}, filled(127), filled(128), filled(511), filled(whole)} {
		if b, over, e := x.Wrap(in); e != api.OK || over != 1 || !bytes.Equal(b, written(frame(1, 1, i+1, in...))) {
			t.Errorf("%d bytes: %x, %d, %d", len(in), b, over, e)
		}
	}
}

func TestWrapRefuses(t *testing.T) {
	for _, active := range []bool{false, true} {
		x, y := makeTwin(t, 2, 3, 3, active), makeTwin(t, 2, 3, 3, active)
		for i := range 8 { // neither the serial number nor the turn goes on
			for _, size := range []int{whole + 1, whole + 2, 1024, 1 << 16} {
				if b, over, e := x.Wrap(filled(size)); b != nil || over != 0 || e != api.ErrLimit {
					t.Errorf("%d bytes: %x, %d, %d", size, b, over, e)
				}
			}
			a, overA, _ := x.Wrap([]byte{9})
			b, overB, _ := y.Wrap([]byte{9})
			if !bytes.Equal(a, b) || overA != overB || !bytes.Equal(a, written(frame(2, 3, i+1, 9))) {
				t.Errorf("behind what was refused: %x over %d, want %x over %d", a, overA, b, overB)
			}
		}
	}
}

func TestOverAll(t *testing.T) {
	sends(t, makeTwin(t, 1, 1, 1, true), 1, 1, 1)
	sends(t, makeTwin(t, 1, 1, 2, true), 3, 3, 3)
	sends(t, makeTwin(t, 1, 1, 3, true), 7, 7, 7, 7)
	for bad := range 7 { // each set of faulty lanes that can be
		x := makeTwin(t, 1, 1, 3, true)
		spoilLanes(t, x, 3, bad)
		sends(t, x, 7-bad, 7-bad)
	}
}

// spoilLanes makes these lanes (bits) of a new twin faulty.
func spoilLanes(t *testing.T, x *twin.Twin, lanes, bad int) {
	t.Helper()
	for range lag + 1 {
		for lane := range lanes {
			if bad>>lane&1 == 0 {
				come(t, x, lane, 1)
			}
		}
	}
	faulty(t, x, bad)
}

func TestOverOneByOne(t *testing.T) {
	sends(t, makeTwin(t, 1, 1, 1, false), 1, 1, 1)
	sends(t, makeTwin(t, 1, 1, 2, false), 1, 2, 1, 2, 1)
	sends(t, makeTwin(t, 1, 1, 3, false), 1, 2, 4, 1, 2, 4, 1)
	for _, c := range []struct {
		bad  int
		want [][]int // behind none, one, two, three that were sent while all were well
	}{
		{1, [][]int{{2, 4, 2, 4}, {2, 4, 2, 4}, {4, 2, 4, 2}, {2, 4, 2, 4}}},
		{2, [][]int{{1, 4, 1, 4}, {4, 1, 4, 1}, {4, 1, 4, 1}, {1, 4, 1, 4}}},
		{4, [][]int{{1, 2, 1, 2}, {2, 1, 2, 1}, {1, 2, 1, 2}, {1, 2, 1, 2}}},
		{3, [][]int{{4, 4, 4}, {4, 4, 4}, {4, 4, 4}, {4, 4, 4}}},
		{5, [][]int{{2, 2, 2}, {2, 2, 2}, {2, 2, 2}, {2, 2, 2}}},
		{6, [][]int{{1, 1, 1}, {1, 1, 1}, {1, 1, 1}, {1, 1, 1}}},
	} {
		for ahead, want := range c.want {
			x := makeTwin(t, 1, 1, 3, false)
			sends(t, x, []int{1, 2, 4}[:ahead]...)
			spoilLanes(t, x, 3, c.bad)
			sends(t, x, want...)
		}
	}
}

func TestTheTurnGoesOnBehindReinstate(t *testing.T) {
	x := makeTwin(t, 1, 1, 3, false)
	sends(t, x, 1)
	spoilLanes(t, x, 3, 2)
	sends(t, x, 4, 1)
	reinstates(t, x, 1, api.OK)
	sends(t, x, 2, 4, 1, 2)
	x = makeTwin(t, 1, 1, 2, false)
	spoilLanes(t, x, 2, 1)
	sends(t, x, 2, 2)
	reinstates(t, x, 0, api.OK)
	sends(t, x, 1, 2, 1)
}

// P11.4

func TestUnwrapRefusesLanes(t *testing.T) {
	for lanes := 1; lanes <= 3; lanes++ {
		for _, lane := range wrongLanes(lanes) {
			if lane >= 0 && lane < lanes {
				continue
			}
			x := makeTwin(t, 1, 1, lanes, true)
			for _, b := range [][]byte{written(frame(5, 1, 1, 9)), nil, {1, 2, 3, 4}, sealed(nil)} { // the lane comes ahead of the bytes
				if out, is, e := x.Unwrap(lane, b); out != nil || is || e != api.ErrArg {
					t.Errorf("over %d of %d: %x, %v, %d", lane, lanes, out, is, e)
				}
			}
			takes(t, x, 0, frame(5, 1, 1, 9), true)
		}
	}
}

func TestUnwrapTellsOpensError(t *testing.T) {
	x := makeTwin(t, 1, 1, 3, true)
	turned := written(frame(5, 1, 1, 9))
	turned[0] ^= 2
	for _, c := range []struct {
		b    []byte
		want api.Errno
	}{
		{nil, api.ErrTrunc}, {[]byte{1, 2, 3}, api.ErrTrunc}, {sealed(nil), api.ErrTrunc}, {sealed([]byte{1, 1, 1, 1}), api.ErrTrunc},
		{[]byte{1, 2, 3, 4}, api.ErrSum}, {turned, api.ErrSum}, {written(frame(5, 1, 1))[1:], api.ErrSum},
		{written(frame(9, 1, 1)), api.ErrSyntax}, {written(frame(0, 1, 1)), api.ErrSyntax}, {written(frame(1, 0, 1)), api.ErrSyntax}, {written(frame(1, 1, 0)), api.ErrSyntax},
		{written(frame(1, most+1, 1)), api.ErrSyntax}, {sealed([]byte{1, 1, 1, 0, 0}), api.ErrSyntax}, {sealed([]byte{1, 0x81, 0, 1, 0}), api.ErrSyntax},
		{written(frame(1, 1, 1, filled(513)...)), api.ErrLimit},
	} {
		for lane := range 3 {
			if out, is, e := x.Unwrap(lane, c.b); out != nil || is || e != c.want {
				t.Errorf("Unwrap(%d, %x): %x, %v, %d, want %d", lane, c.b, out, is, e, c.want)
			}
		}
	}
}

func TestUnwrapTellsBytes(t *testing.T) {
	x := makeTwin(t, 1, 1, 1, true)
	for size := 0; size <= whole; size++ {
		takes(t, x, 0, frame(5, 1, size+1, filled(size)...), true)
	}
	takes(t, x, 0, frame(5, 1, whole+1, 7), false) // what is in it is told, new or not
	takes(t, x, 0, frame(5, 1, 1, 8, 9), false)
	takes(t, x, 0, frame(5, 2, 1, 8, 9), true)
	takes(t, x, 0, frame(5, 1, 9999, 8, 9), false)
	takes(t, x, 0, frame(1, most, most, 8, 9), true) // one that says to be from this twin's node is as any other
}

func TestLives(t *testing.T) {
	x := makeTwin(t, 4, 1, 2, true)
	takes(t, x, 0, frame(5, 7, 3), true)
	takes(t, x, 0, frame(5, 7, 3), false) // the same
	takes(t, x, 0, frame(5, 7, 4), true)
	takes(t, x, 0, frame(5, 6, 5), false) // the one below
	takes(t, x, 0, frame(5, 6, 1000), false)
	takes(t, x, 1, frame(5, 1, 6), false)
	takes(t, x, 0, frame(5, 7, 5), true) // what is of a life that is past was seen by none
	takes(t, x, 0, frame(5, 7, 6), true)
	takes(t, x, 0, frame(5, 8, 4), true) // the one above: all is new
	takes(t, x, 1, frame(5, 8, 4), false)
	takes(t, x, 1, frame(5, 8, 3), true)
	takes(t, x, 1, frame(5, 7, 7), false) // and the one that was is past
	takes(t, x, 1, frame(5, 8, 7), true)
	takes(t, x, 1, frame(5, most, 1), true)
	takes(t, x, 1, frame(5, most-1, 2), false)
	takes(t, x, 1, frame(5, most, most), true)
	takes(t, x, 1, frame(5, most, 2), false)
}

func TestANewLifeForgetsHowFarTheOldOneWas(t *testing.T) {
	x := makeTwin(t, 4, 1, 1, true)
	takes(t, x, 0, frame(5, 1, most), true)
	takes(t, x, 0, frame(5, 1, 1), false)
	takes(t, x, 0, frame(5, 2, 1), true)
	takes(t, x, 0, frame(5, 2, 2), true)
	takes(t, x, 0, frame(5, 1, most-1), false)
}

func TestTheFirstLifeMayBeAny(t *testing.T) {
	for _, life := range []int{1, 2, most} {
		x := makeTwin(t, 4, 3, 1, true) // its own life is nothing to others'
		takes(t, x, 0, frame(5, life, 1), true)
		takes(t, x, 0, frame(5, life, 1), false)
	}
}

func TestSendersAreOfTheirOwn(t *testing.T) {
	x := makeTwin(t, 4, 1, 1, true)
	for sender := 1; sender <= 8; sender++ {
		takes(t, x, 0, frame(sender, 10*sender, 5), true)
	}
	for sender := 1; sender <= 8; sender++ {
		takes(t, x, 0, frame(sender, 10*sender, 5), false)
		takes(t, x, 0, frame(sender, 10*sender-1, 6), false)
		takes(t, x, 0, frame(sender, 10*sender, 4), true)
	}
	takes(t, x, 0, frame(3, 31, 5), true)
	for sender := 1; sender <= 8; sender++ {
		takes(t, x, 0, frame(sender, 10*sender, 7), sender != 3)
	}
}

func TestSerials(t *testing.T) {
	for _, top := range []int{65, 66, 128, 1000, 1 << 32, most} {
		x := makeTwin(t, 4, 1, 2, true)
		takes(t, x, 0, frame(5, 7, top), true)
		takes(t, x, 1, frame(5, 7, top), false)
		takes(t, x, 0, frame(5, 7, top-64), false)
		takes(t, x, 0, frame(5, 7, top-63), true)
		takes(t, x, 1, frame(5, 7, top-63), false)
		takes(t, x, 1, frame(5, 7, top-1), true)
		takes(t, x, 1, frame(5, 7, 1), false)
	}
}

func TestALifeThatIsPastCountsForItsLane(t *testing.T) {
	for _, f := range []api.Frame{frame(5, 6, 1), frame(5, 7, 1)} { // of the life below; seen
		x := makeTwin(t, 4, 1, 2, true)
		takes(t, x, 1, frame(5, 7, 1), true)
		for range 11 {
			faulty(t, x, 0)
			takes(t, x, 0, f, false)
		}
		faulty(t, x, 0) // 11 to 1
		takes(t, x, 0, f, false)
		faulty(t, x, 2)
	}
}

func TestWhatIsRefusedIsNotCounted(t *testing.T) {
	x := makeTwin(t, 4, 1, 2, true)
	for range 50 {
		x.Unwrap(0, nil)
		x.Unwrap(0, []byte{1, 2, 3, 4})
		x.Unwrap(0, written(frame(9, 1, 1)))
		x.Unwrap(2, written(frame(5, 1, 1)))
		x.Unwrap(-1, written(frame(5, 1, 1)))
	}
	come(t, x, 0, 10)
	faulty(t, x, 0)
	come(t, x, 0, 1)
	faulty(t, x, 2)
}

// P11.5

func TestLag(t *testing.T) {
	for lanes := 2; lanes <= 3; lanes++ {
		for lane := range lanes {
			x := makeTwin(t, 4, 1, lanes, true)
			come(t, x, lane, lag)
			faulty(t, x, 0)
			come(t, x, lane, 1)
			faulty(t, x, 1<<lanes-1-1<<lane)
		}
	}
}

func TestLagBetweenTwo(t *testing.T) {
	for _, ahead := range []int{0, 1, 5, 100} {
		x := makeTwin(t, 4, 1, 3, true)
		for range ahead {
			come(t, x, 0, 1)
			come(t, x, 1, 1)
			come(t, x, 2, 1)
		}
		come(t, x, 1, 4)
		come(t, x, 2, lag)
		faulty(t, x, 0)
		come(t, x, 2, 1)
		faulty(t, x, 1) // 0, 4, 11
		come(t, x, 2, 3)
		faulty(t, x, 1) // 0, 4, 14
		come(t, x, 2, 1)
		faulty(t, x, 3) // 0, 4, 15
	}
}

func TestOneLaneIsNeverFaulty(t *testing.T) {
	x := makeTwin(t, 4, 1, 1, false)
	come(t, x, 0, 100)
	faulty(t, x, 0)
	sends(t, x, 1, 1)
	reinstates(t, x, 0, api.ErrState)
}

func TestWhatComesOverAFaultyLane(t *testing.T) {
	x := makeTwin(t, 4, 1, 2, true)
	come(t, x, 0, 11)
	faulty(t, x, 2)
	come(t, x, 1, 40) // it is taken and counted, but it makes nobody well, and the one that is well not faulty
	faulty(t, x, 2)
	takes(t, x, 1, frame(5, 1, 1), true)
	sends(t, x, 1)
	reinstates(t, x, 1, api.OK) // both have 41 now
	come(t, x, 0, lag)
	faulty(t, x, 0)
	come(t, x, 1, 2*lag)
	faulty(t, x, 0) // 51, 61
	come(t, x, 1, 1)
	faulty(t, x, 1)
}

func TestAFaultyLaneIsNoMeasure(t *testing.T) { // 11, 5, 0: the lane 2 is faulty, and comes to 100
	x := makeTwin(t, 4, 1, 3, true)
	come(t, x, 1, 5)
	come(t, x, 0, 11)
	faulty(t, x, 4)
	come(t, x, 2, 100)
	faulty(t, x, 4)
	come(t, x, 0, 4)
	faulty(t, x, 4) // 15, 5, 100
	come(t, x, 0, 1)
	faulty(t, x, 6)
}

func TestReinstateMakesCountsEqual(t *testing.T) {
	for well := range 3 {
		for back := range 3 {
			if back == well {
				continue
			}
			other := 3 - well - back
			x := makeTwin(t, 4, 1, 3, true)
			come(t, x, well, 11)
			faulty(t, x, 7-1<<well)
			reinstates(t, x, well, api.ErrState)
			reinstates(t, x, back, api.OK)
			faulty(t, x, 1<<other)
			reinstates(t, x, back, api.ErrState)
			come(t, x, well, lag) // 21, 11
			faulty(t, x, 1<<other)
			come(t, x, well, 1) // 22, 11
			faulty(t, x, 7-1<<well)
			reinstates(t, x, other, api.OK)
			reinstates(t, x, back, api.OK)
			faulty(t, x, 0)
			come(t, x, other, lag)
			faulty(t, x, 0)
			come(t, x, other, 1)
			faulty(t, x, 7-1<<other)
		}
	}
}

func TestReinstateMakesCountsEqualWhateverAFaultyLaneHas(t *testing.T) {
	x := makeTwin(t, 4, 1, 3, true)
	come(t, x, 0, 11)
	faulty(t, x, 6)
	come(t, x, 2, 60)
	reinstates(t, x, 1, api.OK) // all have 60
	faulty(t, x, 4)
	come(t, x, 0, 5)
	come(t, x, 1, lag)
	come(t, x, 2, 3)
	faulty(t, x, 4)
	reinstates(t, x, 2, api.OK) // all have 70
	faulty(t, x, 0)
	come(t, x, 2, lag)
	faulty(t, x, 0)
	come(t, x, 0, lag)
	come(t, x, 2, 1)
	faulty(t, x, 2)
}

func TestReinstateRefuses(t *testing.T) {
	for lanes := 1; lanes <= 3; lanes++ {
		x := makeTwin(t, 4, 1, lanes, true)
		if lanes > 1 {
			spoilLanes(t, x, lanes, 1)
		}
		want := x.Faulty()
		for _, lane := range wrongLanes(lanes) {
			if lane < 0 || lane >= lanes {
				reinstates(t, x, lane, api.ErrArg)
			}
		}
		for lane := range lanes {
			if want>>lane&1 == 0 {
				reinstates(t, x, lane, api.ErrState)
			}
		}
		faulty(t, x, want)
	}
}

func TestARefusedReinstateLeavesCounts(t *testing.T) {
	x := makeTwin(t, 4, 1, 2, true)
	come(t, x, 0, lag)
	reinstates(t, x, 1, api.ErrState)
	reinstates(t, x, 0, api.ErrState)
	reinstates(t, x, 2, api.ErrArg)
	reinstates(t, x, -1, api.ErrArg)
	come(t, x, 0, 1)
	faulty(t, x, 2)
}

func TestFaultyChangesNothing(t *testing.T) {
	x := makeTwin(t, 4, 1, 3, false)
	for range 11 {
		faulty(t, x, 0)
		faulty(t, x, 0)
		come(t, x, 1, 1)
	}
	faulty(t, x, 5)
	faulty(t, x, 5)
}

// P11.6

func TestTwinsOnlyReadWhatIsHandedIn(t *testing.T) {
	x := makeTwin(t, 4, 1, 2, true)
	for _, size := range []int{0, 1, 100, whole, whole + 1} {
		room := filled(size + 40)
		want := bytes.Clone(room)
		x.Wrap(room[:size])
		if !bytes.Equal(room, want) {
			t.Errorf("Wrap of %d bytes has written into what it was handed", size)
		}
		b := written(frame(5, 1, size+1, filled(size)...))
		room = append(bytes.Clone(b), filled(40)...)
		want = bytes.Clone(room)
		for lane := -1; lane < 3; lane++ {
			x.Unwrap(lane, room[:len(b)])
			x.Unwrap(lane, room[:len(b)-1])
		}
		if !bytes.Equal(room, want) {
			t.Errorf("Unwrap of %d bytes has written into what it was handed", len(b))
		}
	}
}

func TestTwinsKeepNothingAndAnswerNewMemory(t *testing.T) {
	x := makeTwin(t, 4, 1, 2, true)
	for i, size := range []int{0, 1, 7, 8, 100, whole} {
		in := filled(size)
		a, _, _ := x.Wrap(in)
		if b := written(frame(4, 1, 2*i+1, filled(size)...)); !bytes.Equal(a, b) {
			t.Errorf("Wrap: %x, want %x", a, b)
		}
		b, _, _ := x.Wrap(in)
		spoil(a)
		spoil(in)
		if !bytes.Equal(b, written(frame(4, 1, 2*i+2, filled(size)...))) {
			t.Errorf("Wrap of %d bytes answers memory that is another's", size)
		}
		in = written(frame(5, 1, i+1, filled(size)...))
		c, _, _ := x.Unwrap(0, in)
		d, _, _ := x.Unwrap(1, in)
		spoil(c)
		if !bytes.Equal(d, filled(size)) || !bytes.Equal(in, written(frame(5, 1, i+1, filled(size)...))) {
			t.Errorf("Unwrap to %d bytes answers memory that is another's", size)
		}
		spoil(in)
		if !bytes.Equal(d, filled(size)) {
			t.Errorf("Unwrap to %d bytes answers what it was handed", size)
		}
		takes(t, x, 0, frame(5, 1, i+1, filled(size)...), false)
	}
}

// P11.8

func TestNothingIsNewTwice(t *testing.T) {
	r := rand.New(rand.NewSource(118))
	for range 60 {
		x := makeTwin(t, 4, 1, 3, true)
		type thing struct{ sender, life, serial int }
		times := map[thing]int{}
		for range 3000 {
			f := frame(1+r.Intn(3), 1+r.Intn(3), 1+r.Intn(200))
			if _, is, _ := x.Unwrap(r.Intn(3), written(f)); is {
				times[thing{f.Sender, f.Life, f.Serial}]++
			}
		}
		for what, n := range times {
			if n != 1 {
				t.Errorf("%+v was new %d times", what, n)
			}
		}
	}
}

// flight is a frame on its way over a lane, and when it comes.
type flight struct {
	at, lane, serial int
	b                []byte
}

// fly answers what one sends: each frame over one of its lanes at least, each that is not lost not too late, maybe twice; in the order in which it comes.
func fly(r *rand.Rand, from *twin.Twin, count int) []flight {
	var l []flight
	for serial := 1; serial <= count; serial++ {
		b, over, _ := from.Wrap(filled(serial % 20))
		var lanes []int
		for lane := range 3 {
			if over>>lane&1 == 1 {
				lanes = append(lanes, lane)
			}
		}
		kept := lanes[r.Intn(len(lanes))]
		for _, lane := range lanes {
			for range 1 + r.Intn(2) {
				if lane == kept || r.Intn(2) == 0 {
					l = append(l, flight{at: serial + r.Intn(memory), lane: lane, serial: serial, b: b})
				}
			}
		}
	}
	slices.SortStableFunc(l, func(a, b flight) int { return a.at - b.at })
	return l
}

func TestAllThatIsSentIsNewOnce(t *testing.T) {
	const count = 400
	r := rand.New(rand.NewSource(1181))
	for row := range 60 {
		lanes := 1 + row%3
		from, to := makeTwin(t, 5, 7, lanes, row%2 == 0), makeTwin(t, 4, 1, lanes, true)
		times := map[int]int{}
		for _, f := range fly(r, from, count) {
			b, is, e := to.Unwrap(f.lane, f.b)
			if e != api.OK || !bytes.Equal(b, filled(f.serial%20)) {
				t.Fatalf("Serial %d: %x, %d", f.serial, b, e)
			}
			if is {
				times[f.serial]++
			}
		}
		for serial := 1; serial <= count; serial++ {
			if times[serial] != 1 {
				t.Errorf("row %d: Serial %d was new %d times", row, serial, times[serial])
			}
		}
	}
}

func TestTheSameOverAllLanesIsNewOnce(t *testing.T) {
	from, to := makeTwin(t, 5, 7, 3, true), makeTwin(t, 4, 1, 3, true)
	for range 300 {
		b, over, _ := from.Wrap(nil)
		var is [3]bool
		for lane := range 3 {
			if over>>lane&1 == 1 {
				_, is[lane], _ = to.Unwrap(lane, b)
			}
		}
		if is != [3]bool{true, false, false} {
			t.Fatal(is)
		}
	}
	faulty(t, to, 0)
}

// P11.9

func TestOneLaneAtLeastIsWell(t *testing.T) {
	r := rand.New(rand.NewSource(119))
	for row := range 90 {
		lanes := 1 + row%3
		x := makeTwin(t, 4, 1, lanes, false)
		for range 300 {
			lane := r.Intn(lanes)
			come(t, x, lane, 1+r.Intn(12))
			if r.Intn(8) == 0 {
				x.Reinstate(r.Intn(lanes))
			}
			if bad := x.Faulty(); bad < 0 || bad >= 1<<lanes-1 {
				t.Fatalf("row %d: Faulty %d of %d lanes", row, bad, lanes)
			}
			if _, over, e := x.Wrap(nil); e != api.OK || over == 0 || over&x.Faulty() != 0 || over&(over-1) != 0 {
				t.Fatalf("row %d: over %d, %d", row, over, e)
			}
		}
	}
}

func TestWhatKeepsUpStaysWell(t *testing.T) {
	r := rand.New(rand.NewSource(1191))
	for row := range 100 {
		lanes := 2 + row%2
		x, counts := makeTwin(t, 4, 1, lanes, true), make([]int, lanes)
		for range 1000 {
			lane := r.Intn(lanes)
			if r.Intn(3) > 0 {
				lane = row % lanes // one that would run ahead
			}
			if counts[lane]-slices.Min(counts) < lag {
				counts[lane]++
				come(t, x, lane, 1)
			}
			if x.Faulty() != 0 {
				t.Fatalf("row %d: Faulty %d at %v", row, x.Faulty(), counts)
			}
		}
	}
}

// All of them

// model is a twin by the chapter's words, which remembers all that it ever saw.
type model struct {
	node, life int
	active     bool
	counts     []int
	bad        []bool
	serial     int
	turn       int // the lane that was sent over last, -1: none
	lives      map[int]int
	tops       map[int]int
	seen       map[api.RingId]bool // a pair: Sender and Serial, of the sender's life now
}

func newModel(node, life, lanes int, active bool) *model {
	return &model{node: node, life: life, active: active, counts: make([]int, lanes), bad: make([]bool, lanes), turn: -1, lives: map[int]int{}, tops: map[int]int{}, seen: map[api.RingId]bool{}}
}

func (m *model) wrap(b []byte) ([]byte, int, api.Errno) {
	if len(b) > whole {
		return nil, 0, api.ErrLimit
	}
	m.serial++
	over := 0
	for k := range m.counts {
		if !m.bad[k] {
			over |= 1 << k
		}
	}
	if !m.active {
		for {
			m.turn++
			if m.turn == len(m.counts) {
				m.turn = 0
			}
			if !m.bad[m.turn] {
				break
			}
		}
		over = 1 << m.turn
	}
	return written(frame(m.node, m.life, m.serial, b...)), over, api.OK
}

// unwrap is handed the frame itself, and the error that its bytes have.
func (m *model) unwrap(lane int, f api.Frame, wrong api.Errno) ([]byte, bool, api.Errno) {
	switch {
	case lane < 0 || lane >= len(m.counts):
		return nil, false, api.ErrArg
	case wrong != api.OK:
		return nil, false, wrong
	}
	m.counts[lane]++
	m.look()
	if f.Life < m.lives[f.Sender] {
		return f.Bytes, false, api.OK
	}
	if f.Life > m.lives[f.Sender] {
		m.lives[f.Sender], m.tops[f.Sender] = f.Life, 0
		for key := range m.seen {
			if key.Rep == f.Sender {
				delete(m.seen, key)
			}
		}
	}
	key := api.RingId{Rep: f.Sender, Seq: f.Serial}
	isNew := f.Serial > m.tops[f.Sender]-memory && !m.seen[key]
	m.seen[key] = true
	m.tops[f.Sender] = max(m.tops[f.Sender], f.Serial)
	return f.Bytes, isNew, api.OK
}

func (m *model) look() {
	for k := range m.counts {
		others, top := 0, 0
		for i := range m.counts {
			if !m.bad[i] {
				top = max(top, m.counts[i])
			}
			if i != k && !m.bad[i] {
				others++
			}
		}
		if !m.bad[k] && others > 0 && top > m.counts[k]+lag {
			m.bad[k] = true
		}
	}
}

func (m *model) faulty() int {
	bits := 0
	for k, bad := range m.bad {
		if bad {
			bits += 1 << k
		}
	}
	return bits
}

func (m *model) reinstate(lane int) api.Errno {
	switch {
	case lane < 0 || lane >= len(m.counts):
		return api.ErrArg
	case !m.bad[lane]:
		return api.ErrState
	}
	m.bad[lane] = false
	top := slices.Max(m.counts)
	for k := range m.counts {
		m.counts[k] = top
	}
	return api.OK
}

// both is a twin and its model.
type both struct {
	x *twin.Twin
	m *model
}

func newBoth(t testing.TB, node, life, lanes int, active bool) both {
	return both{makeTwin(t, node, life, lanes, active), newModel(node, life, lanes, active)}
}

// wrap, unwrap and reinstate ask both, and tell what was wrong.
func (b both) wrap(in []byte) string {
	out, over, e := b.x.Wrap(in)
	wantOut, wantOver, wantE := b.m.wrap(in)
	if !bytes.Equal(out, wantOut) || over != wantOver || e != wantE {
		return fmt.Sprintf("Wrap(%x): %x, %d, %d, want %x, %d, %d", in, out, over, e, wantOut, wantOver, wantE)
	}
	return b.faulty()
}

func (b both) unwrap(lane int, f api.Frame, bytesOfIt []byte, wrong api.Errno) string {
	out, is, e := b.x.Unwrap(lane, bytesOfIt)
	wantOut, wantIs, wantE := b.m.unwrap(lane, f, wrong)
	if !bytes.Equal(out, wantOut) || is != wantIs || e != wantE {
		return fmt.Sprintf("Unwrap(%d, %+v): %x, %v, %d, want %x, %v, %d", lane, f, out, is, e, wantOut, wantIs, wantE)
	}
	return b.faulty()
}

func (b both) reinstate(lane int) string {
	if e, want := b.x.Reinstate(lane), b.m.reinstate(lane); e != want {
		return fmt.Sprintf("Reinstate(%d): %d, want %d", lane, e, want)
	}
	return b.faulty()
}

func (b both) faulty() string {
	if got, want := b.x.Faulty(), b.m.faulty(); got != want {
		return fmt.Sprintf("Faulty: %d, want %d, counts %v", got, want, b.m.counts)
	}
	return ""
}

// step does what four numbers say.
func (b both) step(op, lane, life, serial int) string {
	f := frame(1+op>>4%8, 1+life%4, 1+serial, filled(serial%7)...)
	switch op % 16 {
	case 0, 1:
		return b.wrap(filled(serial % 30))
	case 2:
		return b.wrap(filled(whole + serial%2))
	case 3, 4:
		return b.reinstate(lane%5 - 1)
	case 5:
		return b.unwrap(lane%5-1, f, written(f), api.OK)
	case 6:
		spoilt := written(f)
		spoilt[serial%len(spoilt)] ^= 1 << (life % 8)
		return b.unwrap(lane%5-1, f, spoilt, api.ErrSum)
	case 7:
		f.Sender = 9 * (serial % 2)
		return b.unwrap(lane%5-1, f, written(f), api.ErrSyntax)
	}
	return b.unwrap(lane%len(b.m.counts), f, written(f), api.OK)
}

func TestEveryRowOfLanes(t *testing.T) { // four runs over lanes, of lengths about Lag, or a lane taken back
	type run struct{ lane, count int } // count 0: Reinstate
	var runs []run
	for lane := range 3 {
		for _, count := range []int{0, 1, 10, 11} {
			runs = append(runs, run{lane, count})
		}
	}
	const length = 4
	rows := 1
	for range length {
		rows *= len(runs)
	}
	f := frame(8, 1, 1)
	in := written(f)
	for row := range rows {
		b := newBoth(t, 4, 1, 3, row%2 == 0)
		for left, i := row, 0; i < length; left, i = left/len(runs), i+1 {
			now := runs[left%len(runs)]
			bad := ""
			if now.count == 0 {
				bad = b.reinstate(now.lane)
			}
			for range now.count {
				bad += b.unwrap(now.lane, f, in, api.OK)
			}
			if bad += b.wrap(nil); bad != "" {
				t.Fatalf("row %d, run %d: %s", row, i, bad)
			}
		}
	}
}

func TestLongRows(t *testing.T) {
	r := rand.New(rand.NewSource(11))
	for row := range 200 {
		b := newBoth(t, 1+row%8, 1+row, 1+row%3, row%2 == 0)
		spread, liked := 1+r.Intn(150), r.Intn(3)
		for i := range 1000 {
			lane := r.Intn(5)
			if r.Intn(3) == 0 {
				lane = liked
			}
			if bad := b.step(r.Intn(128), lane, r.Intn(1+i/300), i/4+r.Intn(spread)); bad != "" {
				t.Fatalf("row %d, call %d: %s", row, i, bad)
			}
		}
	}
}

func TestWhatIsRefusedChangesNothing(t *testing.T) { // two twins go the same way, one of them is handed what it refuses at each step
	r := rand.New(rand.NewSource(1111))
	for row := range 60 {
		lanes := 1 + row%3
		x, y := makeTwin(t, 4, 9, lanes, row%2 == 0), makeTwin(t, 4, 9, lanes, row%2 == 0)
		for i := range 300 {
			refuse(t, y, lanes, i)
			f := written(frame(1+r.Intn(3), 1+i/150, 1+i/2+r.Intn(80), byte(i)))
			lane := r.Intn(lanes) * r.Intn(2)
			a, newA, _ := x.Unwrap(lane, f)
			b, newB, _ := y.Unwrap(lane, f)
			if !bytes.Equal(a, b) || newA != newB || x.Faulty() != y.Faulty() {
				t.Fatalf("row %d, step %d: %v, Faulty %d, want %v, %d", row, i, newB, y.Faulty(), newA, x.Faulty())
			}
			c, overC, _ := x.Wrap(nil)
			d, overD, _ := y.Wrap(nil)
			if !bytes.Equal(c, d) || overC != overD {
				t.Fatalf("row %d, step %d: %x over %d, want %x over %d", row, i, d, overD, c, overC)
			}
			if back := r.Intn(3); r.Intn(20) == 0 && x.Reinstate(back) != y.Reinstate(back) {
				t.Fatalf("row %d, step %d: Reinstate(%d)", row, i, back)
			}
		}
	}
}

// refuse hands x what it refuses.
func refuse(t *testing.T, x *twin.Twin, lanes, i int) {
	t.Helper()
	spoilt := written(frame(1, 2, 1+i, 9))
	spoilt[i%len(spoilt)] ^= 8
	_, _, e1 := x.Wrap(filled(whole + 1 + i))
	_, _, e2 := x.Unwrap(lanes, written(frame(1, 2, 1+i, 9)))
	_, _, e3 := x.Unwrap(-1, written(frame(2, most, most)))
	_, _, e4 := x.Unwrap(i%lanes, spoilt)
	_, _, e5 := x.Unwrap(i%lanes, written(frame(1, 0, 1+i)))
	_, _, e6 := x.Unwrap(i%lanes, written(frame(1, most, 0)))
	_, _, e7 := x.Unwrap(i%lanes, sealed(append(bare(frame(1, most, 1)), 0)))
	e8, e9 := x.Reinstate(lanes), x.Reinstate(-1)
	got := []api.Errno{e1, e2, e3, e4, e5, e6, e7, e8, e9}
	want := []api.Errno{api.ErrLimit, api.ErrArg, api.ErrArg, api.ErrSum, api.ErrSyntax, api.ErrSyntax, api.ErrSyntax, api.ErrArg, api.ErrArg}
	for lane := range lanes {
		if x.Faulty()>>lane&1 == 0 {
			got, want = append(got, x.Reinstate(lane)), append(want, api.ErrState)
		}
	}
	if !slices.Equal(got, want) {
		t.Fatalf("refused: %d, want %d", got, want)
	}
}

func FuzzCalls(f *testing.F) {
	f.Add(byte(2), []byte{8, 0, 0, 1, 8, 1, 0, 1, 0, 0, 0, 0, 3, 2, 0, 0})
	f.Add(byte(5), bytes.Repeat([]byte{8, 0, 0, 1}, 12))
	f.Add(byte(0), bytes.Repeat([]byte{9, 1, 1, 70, 24, 2, 2, 6, 7, 1, 1, 7}, 5))
	f.Fuzz(func(t *testing.T, kind byte, script []byte) {
		b := newBoth(t, 1+int(kind)/6%8, 1+int(kind), 1+int(kind)%3, kind/3%2 == 0)
		for ; len(script) >= 4; script = script[4:] {
			if bad := b.step(int(script[0]), int(script[1]), int(script[2]), int(script[3])); bad != "" {
				t.Fatal(bad)
			}
		}
	})
}
