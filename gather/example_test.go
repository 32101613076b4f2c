package gather_test

import (
	"fmt"

	"hauberk/api"
	"hauberk/gather"
)

func Example() {
	g, _ := gather.New(2, 5)
	fmt.Println(g.Own(), g.Agreed())

	hear := func(sender, proc, counter int) {
		changed, grown, e := g.Hear(api.Join{Sender: sender, Proc: proc, Counter: counter})
		fmt.Println(changed, grown, e == api.OK, g.Own(), g.Agreed(), g.Counter())
	}
	hear(3, 12, 9)
	hear(3, 12, 9)
	hear(1, 14, 0)
	hear(3, 14, 1)
	hear(4, 12, 0)
	// Output:
	// {2 4 5} true
	// true true true {2 12 5} true 9
	// false false true {2 12 5} true 9
	// true true true {2 14 5} false 9
	// true false true {2 14 5} true 9
	// false false false {2 14 5} true 9
}
