package order_test

import (
	"fmt"

	"hauberk/api"
	"hauberk/order"
	"hauberk/window"
)

func Example() {
	ring := api.RingId{Seq: 3, Rep: 1}
	w := window.New()
	w.Put(api.Data{Ring: ring, Seq: 1, Sender: 1, Message: api.Message{Kind: api.MsgText}})
	w.Put(api.Data{Ring: ring, Seq: 2, Sender: 2, Message: api.Message{Kind: api.MsgText, Safe: true}})
	w.Put(api.Data{Ring: ring, Seq: 3, Sender: 1, Message: api.Message{Kind: api.MsgOld}})
	w.Put(api.Data{Ring: ring, Seq: 5, Sender: 2, Message: api.Message{Kind: api.MsgText}})

	o := order.New()
	tell := func(safe int) {
		list, e := o.Next(w, safe)
		for _, d := range list {
			fmt.Print(d.Seq, " ")
		}
		fmt.Println(e == api.OK, "done", o.Done())
	}
	tell(1)
	tell(2)
	w.Put(api.Data{Ring: ring, Seq: 4, Sender: 1, Message: api.Message{Kind: api.MsgText}})
	tell(2)
	// Output:
	// 1 true done 1
	// 2 true done 3
	// 4 5 true done 5
}
