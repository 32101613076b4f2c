package token_test

import (
	"fmt"

	"hauberk/api"
	"hauberk/token"
)

func Example() {
	t, e := token.New(api.RingId{Seq: 4, Rep: 1}, 20)
	fmt.Println(t, e)

	// The node 1 has sent nine messages, of which the node 2 lacks two.
	t.Seq = 9
	t = token.Visit(t, 1, 9, nil)
	left := t.Aru
	t = token.Visit(t, 2, 4, []int{5, 7})
	fmt.Println(left, t.Aru, t.Low, t.Ask)

	// The node 1 sends one of the two again; all have 4.
	fmt.Println(token.Safe(0, left, t.Aru))
	t = token.Answer(t, []int{5})
	t = token.Visit(t, 1, 9, nil)
	fmt.Println(t.Aru, t.Low, t.Ask)

	// The node 2 has it now.
	t = token.Visit(t, 2, 6, []int{7})
	fmt.Println(t.Hop, t.Aru, t.Low, t.Ask)

	fmt.Println(token.Idle(t, true).Idle, token.Idle(t, false).Idle)
	fmt.Println(token.Check(t), token.Check(api.Token{}))
	// Output:
	// {{4 1} 1 0 0 0 20 0 []} hauberk: well
	// 9 4 2 [5 7]
	// 4
	// 4 2 [7]
	// 5 6 2 [7]
	// 1 0
	// hauberk: well hauberk: refused
}
