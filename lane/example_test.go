package lane_test

import (
	"fmt"

	"hauberk/api"
	"hauberk/lane"
)

func Example() {
	l := lane.New()
	l.Put(api.Datagram{From: 1, To: 2, Bytes: []byte{0xAB}})
	l.Put(api.Datagram{From: 2, To: 1})
	l.Double(0)
	l.Flip(2, 0)

	d, _ := l.Take(2)
	fmt.Printf("%d %d %X, %d left\n", d.From, d.To, d.Bytes, l.Len())
	d, _ = l.Take(0)
	fmt.Printf("%d %d %X, %d left\n", d.From, d.To, d.Bytes, l.Len())

	l.Cut(6)
	fmt.Println(l.Reaches(1, 2), l.Reaches(1, 3))
	// Output:
	// 1 2 AA, 2 left
	// 1 2 AB, 1 left
	// true false
}
