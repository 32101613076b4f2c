package word_test

import (
	"fmt"

	"hauberk/word"
)

func Example() {
	w := word.Write()
	w.Put(300)
	w.Fixed(258, 3)
	w.Octets([]byte{1, 2})
	fmt.Printf("% X\n", w.Bytes())

	r := word.New(w.Bytes())
	fmt.Println(r.Get())
	fmt.Println(r.Fixed(3))
	fmt.Println(r.Octets(5))
	fmt.Println(r.Left())
	// Output:
	// AC 02 00 01 02 02 01 02
	// 300 hauberk: well
	// 258 hauberk: well
	// [1 2] hauberk: well
	// 0
}
