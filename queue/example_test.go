package queue_test

import (
	"fmt"

	"hauberk/api"
	"hauberk/queue"
)

func Example() {
	m := api.Message{Kind: api.MsgText, Origin: 1, Life: 9, Id: 1, Parts: 1, Groups: 3, Body: []byte("to")}
	other := api.Message{Kind: api.MsgText, Origin: 1, Life: 9, Id: 2, Parts: 1, Groups: 3, Body: []byte("fro")}

	q := queue.New()
	fmt.Println(q.Put(m, other) == api.OK, q.Len(), q.Room())
	fmt.Println(q.Put(m, api.Message{}) == api.ErrArg, q.Len()) // all, or none of them
	for {
		m, e := q.Take()
		if e != api.OK {
			fmt.Println(e == api.ErrEmpty)
			break
		}
		fmt.Println(m.Id, string(m.Body))
	}
	// Output:
	// true 2 30
	// true 2
	// 1 to
	// 2 fro
	// true
}
