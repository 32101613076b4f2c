package commit_test

import (
	"fmt"

	"hauberk/api"
	"hauberk/commit"
)

func Example() {
	old := api.RingId{Seq: 2, Rep: 1}
	one := api.Entry{Node: 1, Old: old, Aru: 3, High: 4, Clock: 5}
	three := api.Entry{Node: 3, Old: old, Aru: 2, High: 6, Clock: 8}

	c, e := commit.New(api.RingId{Seq: 9, Rep: 1}, 10, one) // the nodes 1 and 3
	fmt.Println(c.Hop, len(c.Entries), e)
	fmt.Println(commit.Visit(c, 3) == commit.First, commit.Visit(c, 1) == commit.Strange)

	// The node 3 tells what it knows.
	c, e = commit.Add(c, three)
	fmt.Println(c.Hop, len(c.Entries), e)
	fmt.Println(commit.Stamp(c))
	fmt.Println(commit.Kin(c, old))
	fmt.Println(commit.Kin(c, api.RingId{Seq: 3, Rep: 1}))

	// It goes around once more.
	fmt.Println(commit.Visit(c, 1) == commit.Second)
	c, e = commit.Pass(c)
	fmt.Println(c.Hop, len(c.Entries), e)
	fmt.Println(commit.Visit(c, 3) == commit.Second)
	c, e = commit.Pass(c)
	fmt.Println(c.Hop, len(c.Entries), e)
	fmt.Println(commit.Visit(c, 1) == commit.Last)

	_, e = commit.Pass(c)
	fmt.Println(e, commit.Check(c), commit.Check(api.Commit{}))
	// Output:
	// 1 1 hauberk: well
	// true true
	// 2 2 hauberk: well
	// 9
	// 10 2 6
	// 0 0 0
	// true
	// 3 2 hauberk: well
	// true
	// 4 2 hauberk: well
	// true
	// hauberk: refused hauberk: well hauberk: refused
}
