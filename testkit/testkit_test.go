package testkit_test

import (
	"slices"
	"testing"

	"beadle/testkit"
)

func TestWalkIsSpreadAndAlwaysTheSame(t *testing.T) {
	one, two, seen := testkit.Walk(), testkit.Walk(), [10]int{}
	for range 1000 {
		x := one(10)
		if x != two(10) {
			t.Fatal("two walks differ")
		}
		seen[x]++
	}
	for x, times := range seen {
		if times < 50 {
			t.Errorf("%d came %d times of 1000", x, times)
		}
	}
}

func TestSpoilReachesTheSpareRoom(t *testing.T) {
	all := []int{1, 2, 3, 4}
	testkit.Spoil(all[1:2:3], 7)
	if !slices.Equal(all, []int{1, 7, 7, 4}) {
		t.Error(all)
	}
	testkit.Spoil(nil, 7)
}

func TestWithRoomIsNewAndHasRoom(t *testing.T) {
	l := []int{1, 2, 3}
	got := testkit.WithRoom(l, 7)
	if !slices.Equal(got, l) || cap(got) < 6 || !slices.Equal(got[:6], []int{1, 2, 3, 7, 7, 7}) {
		t.Error(got[:cap(got)])
	}
	testkit.Spoil(got, 9)
	if !slices.Equal(l, []int{1, 2, 3}) {
		t.Error(l)
	}
	if empty := testkit.WithRoom(nil, 7); len(empty) != 0 || cap(empty) == 0 {
		t.Error(empty)
	}
}
