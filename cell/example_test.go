package cell_test

import (
	"fmt"

	"hauberk/api"
	"hauberk/cell"
)

func Example() {
	c := cell.New()
	fmt.Println(c.Write(5), c.Read())

	c.Crash(true) // behind the next write: it is kept
	fmt.Println(c.Write(8) == api.ErrDown, c.Read(), c.Down())
	fmt.Println(c.Start(), c.Down())

	c.Crash(false) // ahead of the next write: nothing changes
	fmt.Println(c.Write(9) == api.ErrDown, c.Read(), c.Down())
	// Output:
	// hauberk: well 5
	// true 8 true
	// hauberk: well false
	// true 8 true
}
