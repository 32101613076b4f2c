package flow_test

import (
	"fmt"

	"hauberk/flow"
)

func Example() {
	fmt.Println(flow.Allow(2, 10, 10), flow.Allow(9, 10, 10))

	// What all have stays at 10: visit by visit less is sent, and then nothing.
	seq := 36
	for range 3 {
		n := flow.Allow(9, seq, 10)
		seq += n
		fmt.Println(n, seq)
	}
	// Output:
	// 2 4
	// 4 40
	// 2 42
	// 0 42
}
