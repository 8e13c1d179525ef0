package testkit_test

import (
	"slices"
	"testing"

	"beadle/testkit"
)

func TestWalkIsSpreadAndAlwaysTheSame(t *testing.T) {
	one, two, seen := testkit.Walk(), testkit.Walk(), [10]int{}
	for range 1000 {
		x := one(10)
		if x != two(10) {
			t.Fatal("two walks differ")
		}
		seen[x]++
	}
	for x, times := range seen {
		if times < 50 {
			t.Errorf("%d came %d times of 1000", x, times)
		}
	}
}

func TestSpoilReachesTheSpareRoom(t *testing.T) {
	all := []int{1, 2, 3, 4}
	testkit.Spoil(all[1:2:3], 7)
	if !slices.Equal(all, []int{1, 7, 7, 4}) {
		t.Error(all)
	}
	testkit.Spoil(nil, 7)
}
