package mark_test

import (
	"fmt"

	"hauberk/api"
	"hauberk/mark"
)

func Example() {
	a := api.Key{Stamp: 5, Ring: api.RingId{Seq: 1, Rep: 1}, Seq: 9}
	b := api.Key{Stamp: 5, Ring: api.RingId{Seq: 1, Rep: 2}}
	fmt.Println(mark.Keys(a, b), mark.Rings(b.Ring, a.Ring))

	x, e := mark.Pack(api.Key{Stamp: 1, Ring: api.RingId{Seq: 2, Rep: 3}, Seq: 4})
	fmt.Printf("%016X %016X %v\n", x[0], x[1], e)
	fmt.Println(mark.Unpack(x))
	fmt.Println(mark.CheckRing(api.RingId{Seq: 1, Rep: 9}))
	// Output:
	// -1 1
	// 0000000000010000 0000023000000004 hauberk: well
	// {1 {2 3} 4} hauberk: well
	// hauberk: refused
}
