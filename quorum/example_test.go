package quorum_test

import (
	"fmt"

	"teasel/quorum"
)

func ExampleOf() {
	m, e := quorum.Of([]int{5, 0, 2}, []int{8})
	fmt.Println(m, e, quorum.Most(m))
	for k := range quorum.All(m, quorum.Voter) {
		fmt.Print(k, " ")
	}
	fmt.Println(quorum.Count(m, quorum.Learner))
	// Output:
	// [1 0 1 0 0 1 0 0 2] ok 2
	// 0 2 5 1
}

func ExampleVotes() {
	m, _ := quorum.Of([]int{0, 2, 5}, nil)
	fmt.Println(quorum.Votes(m, []bool{true, false}))        // 2 and 5 may say yes yet
	fmt.Println(quorum.Votes(m, []bool{true, false, true}))  // 0 and 2 are most of them
	fmt.Println(quorum.Votes(m, []bool{false, true, false})) // 5 alone is not
	// Output:
	// false false
	// true false
	// false true
}

func ExampleIndex() {
	m, _ := quorum.Of([]int{0, 1, 2}, []int{3})
	fmt.Println(quorum.Index(m, []int{7, 4, 5, 9})) // 0 and 2 have come to 5
	fmt.Println(quorum.Index(m, []int{7}))
	// Output:
	// 5
	// 0
}

func ExampleChange() {
	m, _ := quorum.Of([]int{0, 1}, nil)
	_, e := quorum.Change(m, 2, quorum.Voter)
	fmt.Println(e) // it learns first
	m, _ = quorum.Change(m, 2, quorum.Learner)
	m, e = quorum.Change(m, 2, quorum.Voter)
	fmt.Println(quorum.Encode(m), e)
	// Output:
	// not
	// [1 1 1 0 0 0 0 0 0] ok
}
