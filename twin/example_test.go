package twin_test

import (
	"fmt"

	"hauberk/api"
	"hauberk/twin"
)

func Example() {
	one, _ := twin.New(5, 7, 2, true)
	other, _ := twin.New(4, 1, 2, true)

	b, over, _ := one.Wrap([]byte("hello"))
	fmt.Println("over", over)
	for lane := range 2 {
		text, isNew, _ := other.Unwrap(lane, b)
		fmt.Println(lane, string(text), isNew)
	}

	for range 11 { // over the lane 1 nothing comes any more
		b, _, _ = one.Wrap(nil)
		other.Unwrap(0, b)
	}
	fmt.Println("faulty", other.Faulty())
	_, over, _ = other.Wrap(nil)
	fmt.Println("over", over)
	fmt.Println(other.Reinstate(0) == api.ErrState, other.Reinstate(1) == api.OK, other.Faulty())
	// Output:
	// over 3
	// 0 hello true
	// 1 hello false
	// faulty 2
	// over 1
	// true true 0
}
