package crew_test

import (
	"fmt"

	"hauberk/crew"
)

func Example() {
	c, e := crew.Of(3, 1, 3)
	fmt.Println(c, e)
	fmt.Println(crew.List(c), crew.Count(c), crew.Least(c))
	fmt.Println(crew.Has(c, 3), crew.Has(c, 2))
	fmt.Println(crew.Next(c, 1), crew.Next(c, 3))
	fmt.Println(crew.Of(9))
	// Output:
	// 10 hauberk: well
	// [1 3] 2 1
	// true false
	// 3 1
	// 0 hauberk: refused
}
