package testkit_test

import (
	"bytes"
	"fmt"
	"testing"

	"beadle/api"
	"beadle/deed"
	"beadle/testkit"
)

func TestDeedsAreRightAndRise(t *testing.T) {
	for _, row := range [][]api.Deed{testkit.EachDeed(), testkit.LongestDeeds()} {
		last := api.Zxid(0)
		for _, d := range row {
			if !deed.Right(d) || d.Zxid <= last {
				t.Errorf("zxid %d, kind %d", d.Zxid, d.Kind)
			}
			last = d.Zxid
		}
	}
	if d := (api.Deed{Zxid: testkit.LastZxid + 1, Kind: api.DeedSync}); deed.Right(d) {
		t.Error("there is a zxid above the last")
	}
}

func TestEachKindOfDeedIsThere(t *testing.T) {
	seen := [10]int{}
	for _, d := range testkit.EachDeed() {
		seen[d.Kind]++
	}
	for kind, times := range seen {
		if (times > 0) != (kind > 0) {
			t.Errorf("kind %d comes %d times", kind, times)
		}
	}
}

func TestAnyDeedIsRight(t *testing.T) {
	next := testkit.Walk()
	for i := range 1000 {
		z := api.Zxid(1 + i*next(1<<20))
		if d := testkit.AnyDeed(next, z); !deed.Right(d) || d.Zxid != z {
			t.Errorf("zxid %d, kind %d", d.Zxid, d.Kind)
		}
	}
}

func TestWrongDeedsAreNotRight(t *testing.T) {
	for i, d := range testkit.WrongDeeds() {
		if deed.Right(d) {
			t.Errorf("%d: %+v", i, d)
		}
	}
}

func TestRoomyDeedIsTheSameAndNew(t *testing.T) {
	for _, d := range testkit.EachDeed() {
		want, _ := deed.Put(d)
		roomy := testkit.RoomyDeed(d)
		if got, _ := deed.Put(roomy); !bytes.Equal(got, want) {
			t.Errorf("kind %d is another one", d.Kind)
		}
		if cap(roomy.Data) == len(roomy.Data) || cap(roomy.Parts) == len(roomy.Parts) || cap(roomy.Config.Members) == len(roomy.Config.Members) {
			t.Errorf("kind %d has no room", d.Kind)
		}
		testkit.SpoilDeed(roomy)
		if got, _ := deed.Put(d); !bytes.Equal(got, want) {
			t.Errorf("kind %d shares memory", d.Kind)
		}
		if len(d.Data)+len(d.Parts)+len(d.Config.Members) > 0 && fmt.Sprint(roomy) == fmt.Sprint(d) {
			t.Errorf("kind %d is not spoilt", d.Kind)
		}
	}
}
