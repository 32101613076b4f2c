package regain_test

import (
	"fmt"

	"hauberk/api"
	"hauberk/regain"
	"hauberk/window"
)

func Example() {
	ring := api.RingId{Seq: 2, Rep: 1}
	one, other := window.New(), window.New()
	for _, seq := range []int{1, 2, 4} {
		one.Put(api.Data{Ring: ring, Seq: seq, Sender: 3, Stamp: 10 * seq, Message: api.Message{Kind: api.MsgMark, Origin: 3}})
	}

	r, e := regain.New(one, 1)
	fmt.Println(r.Left(), e == api.OK)
	for r.Left() > 0 {
		m, e := r.Next()
		fmt.Println(m.Kind == api.MsgOld, m.From, e == api.OK)
		fresh, e := regain.Take(other, ring, m)
		again, _ := regain.Take(other, ring, m)
		fmt.Println(fresh, again, e == api.OK)
	}
	_, e = r.Next()
	fmt.Println(e == api.ErrEmpty)
	for _, d := range other.Above(0) {
		fmt.Println(d.Seq, d.Sender, d.Stamp)
	}
	// Output:
	// 2 true
	// true {20 {2 1} 2} true
	// true false true
	// true {40 {2 1} 4} true
	// true false true
	// true
	// 2 3 20
	// 4 3 40
}
