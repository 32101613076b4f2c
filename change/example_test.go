package change_test

import (
	"fmt"

	"hauberk/api"
	"hauberk/change"
	"hauberk/crew"
	"hauberk/window"
)

func Example() {
	w := window.New()
	put := func(seq, sender int, safe bool) {
		w.Put(api.Data{Ring: api.RingId{Seq: 2, Rep: 1}, Seq: seq, Sender: sender, Message: api.Message{Kind: api.MsgText, Safe: safe}})
	}
	put(1, 1, false)
	put(2, 2, true)
	put(3, 3, false)
	put(4, 1, true)
	put(6, 1, false)
	put(7, 3, false)

	old := change.Old{Config: api.Config{Ring: api.RingId{Seq: 2, Rep: 1}, Members: 14}, Done: 1, Safe: 2}
	next := api.Config{Ring: api.RingId{Seq: 5, Rep: 1}, Members: 22, Stamp: 40}
	list, e := change.At(old, w, 6, next)
	fmt.Println(e == api.OK)
	for _, x := range list {
		if x.Kind == api.EventMessage {
			fmt.Println("message", x.Data.Seq)
			continue
		}
		fmt.Println("configuration", x.Config.Ring, "of", crew.List(x.Config.Members), "transitional", x.Config.Trans)
	}
	// Output:
	// true
	// message 2
	// message 3
	// configuration {5 1} of [1 2] transitional true
	// message 4
	// message 6
	// configuration {5 1} of [1 2 4] transitional false
}
