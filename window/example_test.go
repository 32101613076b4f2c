package window_test

import (
	"fmt"

	"hauberk/api"
	"hauberk/window"
)

func Example() {
	ring := api.RingId{Seq: 3, Rep: 1}
	w := window.New()
	for _, seq := range []int{2, 5, 2} {
		fresh, e := w.Put(api.Data{Ring: ring, Seq: seq, Sender: 1, Stamp: 10 + seq})
		fmt.Println(fresh, e == api.OK)
	}
	fmt.Println(w.See(7) == api.OK, w.Aru(), w.High(), w.Gaps(3))

	w.Put(api.Data{Ring: ring, Seq: 1, Sender: 2, Stamp: 11})
	fmt.Println(w.Aru(), w.Gaps(9))
	for _, d := range w.Above(1) {
		fmt.Println(d.Seq, d.Stamp)
	}
	_, ok := w.Get(3)
	fmt.Println(ok)
	// Output:
	// true true
	// true true
	// false true
	// true 0 7 [1 3 4]
	// 2 [3 4 6 7]
	// 2 12
	// 5 15
	// false
}
