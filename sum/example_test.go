package sum_test

import (
	"fmt"

	"hauberk/sum"
)

func Example() {
	fmt.Printf("%X\n", sum.Of([]byte("123456789")))

	sealed := sum.Seal([]byte("a"))
	fmt.Printf("% X\n", sealed)
	fmt.Println(sum.Open(sealed))

	sealed[4]--
	fmt.Println(sum.Open(sealed))
	// Output:
	// CBF43926
	// 61 E8 B7 BE 43
	// [97] hauberk: well
	// [] hauberk: refused
}
