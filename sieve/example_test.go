package sieve_test

import (
	"fmt"

	"hauberk/sieve"
)

func Example() {
	s := sieve.New()
	for _, n := range []int{70, 6, 7, 7, 200, 136, 137} {
		fresh, _ := s.Fresh(n)
		fmt.Println(n, fresh)
	}
	_, e := s.Fresh(0)
	fmt.Println(e)
	// Output:
	// 70 true
	// 6 false
	// 7 true
	// 7 false
	// 200 true
	// 136 false
	// 137 true
	// hauberk: refused
}
