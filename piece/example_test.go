package piece_test

import (
	"fmt"
	"strings"

	"hauberk/api"
	"hauberk/piece"
)

func Example() {
	m := api.Message{Kind: api.MsgText, Origin: 1, Life: 9, Id: 2, Groups: 3}
	parts, _ := piece.Split(m, []byte(strings.Repeat("to and fro ", 10)))

	j := piece.New()
	for _, p := range parts {
		payload, whole, _ := j.Put(p)
		fmt.Println(p.Part, "of", p.Parts, "bytes", len(p.Body), "told", len(payload), whole, "waiting", j.Waiting())
	}

	j.Put(parts[0])
	j.Put(parts[2]) // the one between is lost, and so is what was under way
	fmt.Println("waiting", j.Waiting())

	_, e := piece.Split(m, make([]byte, api.MaxPayload+1))
	fmt.Println(e == api.ErrLimit)
	// Output:
	// 0 of 3 bytes 48 told 0 false waiting 1
	// 1 of 3 bytes 48 told 0 false waiting 1
	// 2 of 3 bytes 14 told 110 true waiting 0
	// waiting 0
	// true
}
