package alarm_test

import (
	"fmt"

	"hauberk/alarm"
	"hauberk/api"
)

func Example() {
	a, _ := alarm.New(4)
	a.Set(2, 2)
	a.Set(0, 2)
	a.Set(3, 1)

	due, _ := a.Tick()
	fmt.Println(due, a.Left(2))
	due, _ = a.Tick()
	fmt.Println(due, a.Left(2))

	a.Set(1, 5)
	fmt.Println(a.Fire(1), a.Fire(1) == api.ErrState)
	// Output:
	// [3] 1
	// [0 2] 0
	// hauberk: well true
}
