package reform_test

import (
	"fmt"
	"math"
	"reflect"
	"slices"
	"testing"

	"beadle/api"
	"beadle/ensemble"
	"beadle/reform"
	"beadle/testkit"
)

const maxVersion = api.Zxid(1 << 62)

func voters(ids ...int) []api.Member {
	var l []api.Member
	for _, id := range ids {
		l = append(l, api.Member{Id: id, Role: api.Voter, Weight: 1})
	}
	return l
}

func observers(ids ...int) []api.Member {
	var l []api.Member
	for _, id := range ids {
		l = append(l, api.Member{Id: id, Role: api.Observer})
	}
	return l
}

// rows: members; those at 1 to 6 may be a config, no others.
func rows() [][]api.Member {
	return [][]api.Member{
		nil,
		voters(1),
		voters(7),
		voters(1, 2, 3),
		voters(1, 2, 3, 4, 5, 6, 7),
		slices.Concat(voters(2), observers(3, 5)),
		{{Id: 1, Role: api.Voter, Weight: 1000, Group: 6}, {Id: 2, Role: api.Voter}},
		observers(1, 2),
		voters(2, 1),
		voters(1, 1),
		voters(0),
		voters(8),
		voters(-1),
		voters(1, 2, 3, 4, 5, 6, 7, 8),
		slices.Repeat(voters(1), 100),
		{{Id: 1, Role: api.Voter}},
		{{Id: 1, Role: api.Voter, Weight: 1001}},
		{{Id: 1, Role: api.Voter, Weight: 1, Group: 7}},
		{{Id: 1, Role: 3, Weight: 1}},
		{{Id: 1, Weight: 1}},
		{{Id: 1, Role: api.Voter, Weight: 1}, {Id: 2, Role: api.Observer, Weight: 1}},
		{{Id: 1<<32 + 1, Role: api.Voter, Weight: 1}},
	}
}

func checkMake(t *testing.T, now api.Ensemble, a api.Ask, version api.Zxid, want api.Ensemble, errno api.Errno) {
	t.Helper()
	got, e := reform.Make(now, a, version)
	if e != errno || fmt.Sprint(got) != fmt.Sprint(want) {
		t.Errorf("Make(%v, from %d %v, %d): %v %v, want %v %v", now, a.From, a.Members, version, got, e, want, errno)
	}
}

// The chapter's examples.

func TestExamplesOfMake(t *testing.T) {
	now := api.Ensemble{Version: 5, Members: voters(2, 3)}
	one := voters(1)
	checkMake(t, now, api.Ask{Members: one}, 9, api.Ensemble{Version: 9, Members: one}, api.OK)
	checkMake(t, now, api.Ask{From: 5, Members: one}, 9, api.Ensemble{Version: 9, Members: one}, api.OK)
	checkMake(t, now, api.Ask{From: 4, Members: one}, 9, api.Ensemble{}, api.ErrVersion)
	checkMake(t, now, api.Ask{}, 9, api.Ensemble{}, api.ErrConfig)
	checkMake(t, now, api.Ask{From: 4}, 9, api.Ensemble{}, api.ErrVersion)
}

// P22.1

// TestMake: of each version now, each From and each version asked for, over all rows of members.
func TestMake(t *testing.T) {
	versions := []api.Zxid{math.MinInt64, -1, 0, 1, 5, 1 << 32, maxVersion - 1, maxVersion, maxVersion + 1, math.MaxInt64}
	for _, now := range versions {
		for _, from := range versions {
			for _, version := range versions {
				for i, members := range rows() {
					made := api.Ensemble{Version: version, Members: members}
					want, errno := made, api.OK
					if from != 0 && from != now {
						want, errno = api.Ensemble{}, api.ErrVersion
					} else if version < 0 || version > maxVersion || i < 1 || i > 6 {
						want, errno = api.Ensemble{}, api.ErrConfig
					}
					checkMake(t, api.Ensemble{Version: now, Members: voters(4)}, api.Ask{From: from, Members: members}, version, want, errno)
				}
			}
		}
	}
}

// TestNothingElseIsLookedAt: neither the other fields of the call, nor who the members are now.
func TestNothingElseIsLookedAt(t *testing.T) {
	one := voters(1)
	for _, a := range []api.Ask{
		{Kind: api.AskConfig},
		{Kind: api.AskPing, Xid: -1, Session: -1, Turn: -1},
		{Kind: 99, Path: "x", Data: []byte("x"), Flags: 9, Version: 7, Watch: true, Sort: 9, Last: -9, Timeout: -9, Parts: []api.Ask{{}}},
	} {
		for _, members := range rows() {
			for _, from := range []api.Zxid{0, 5, 6} {
				a.From, a.Members = from, one
				want, errno := api.Ensemble{Version: 9, Members: one}, api.OK
				if from == 6 {
					want, errno = api.Ensemble{}, api.ErrVersion
				}
				checkMake(t, api.Ensemble{Version: 5, Members: members}, a, 9, want, errno)
			}
		}
	}
}

// P22.3

func TestWhatIsMadeMayBe(t *testing.T) {
	for _, version := range []api.Zxid{-1, 0, 9, maxVersion, maxVersion + 1} {
		for _, members := range rows() {
			if e, errno := reform.Make(api.Ensemble{}, api.Ask{Members: members}, version); errno == api.OK && ensemble.Check(e) != api.OK {
				t.Errorf("%v may not be", e)
			}
		}
	}
}

// R3

func TestMembersAreNeitherChangedNorKept(t *testing.T) {
	junk := api.Member{Id: 99}
	for _, like := range rows() {
		members, old := testkit.WithRoom(like, junk), testkit.WithRoom(like, junk)
		got, errno := reform.Make(api.Ensemble{Version: 5, Members: old}, api.Ask{From: 5, Members: members}, 9)
		for _, l := range [][]api.Member{members, old} {
			if full := l[:cap(l)]; !slices.Equal(full[:len(like)+9], slices.Concat(like, slices.Repeat([]api.Member{junk}, 9))) {
				t.Errorf("%v became %v", like, full)
			}
		}
		if errno != api.OK {
			continue
		}
		testkit.Spoil(members, api.Member{Id: 77})
		testkit.Spoil(old, api.Member{Id: 77})
		if !reflect.DeepEqual(got.Members, like) {
			t.Errorf("%v is kept: %v", like, got.Members)
		}
		again, _ := reform.Make(api.Ensemble{}, api.Ask{Members: like}, 9)
		testkit.Spoil(got.Members, api.Member{Id: 77})
		if !reflect.DeepEqual(again.Members, like) {
			t.Errorf("answers share %v: %v", like, again.Members)
		}
	}
}
