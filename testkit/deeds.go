package testkit

import (
	"bytes"
	"math"
	"slices"
	"strconv"
	"strings"

	"beadle/api"
)

// LastZxid is the greatest one that may be.
const LastZxid = api.Zxid(1<<62 + 1<<32 - 1)

// EachDeed is right deeds by rising zxids: each kind with all that it may have, and some with as little as they may.
func EachDeed() []api.Deed {
	e := api.Ensemble{Version: 70, Members: []api.Member{{Id: 2, Role: api.Voter, Weight: 1000, Group: 6}, {Id: 5, Role: api.Observer}}}
	parts := []api.Deed{
		{Kind: api.DeedCreate, Path: "/a", Data: []byte("new"), Owner: 9, Cversion: 3},
		{Kind: api.DeedSet, Path: "/", Data: []byte("set"), Version: 4},
		{Kind: api.DeedDelete, Path: "/b/c", Cversion: 5},
	}
	return []api.Deed{
		{Zxid: 1, Kind: api.DeedSync},
		{Zxid: 10, Session: 3, Turn: 4, Xid: 5, Time: 6, Kind: api.DeedCreate, Path: "/a", Data: []byte("data"), Owner: 3, Cversion: 7},
		{Zxid: 11, Kind: api.DeedCreate, Path: "/b"},
		{Zxid: 20, Session: 3, Turn: 4, Xid: 6, Time: 7, Kind: api.DeedDelete, Path: "/a/b", Cversion: 8},
		{Zxid: 30, Session: 3, Turn: 4, Xid: 7, Time: 8, Kind: api.DeedSet, Path: "/", Data: bytes.Repeat([]byte{0, 255}, 500), Version: 9},
		{Zxid: 40, Time: 9, Kind: api.DeedOpen, Timeout: 1000},
		{Zxid: 50, Session: 3, Turn: 4, Xid: 8, Time: 10, Kind: api.DeedClose, Owner: 3, Parts: slices.Clone(parts[2:])},
		{Zxid: 51, Kind: api.DeedClose, Owner: math.MaxInt64},
		{Zxid: 60, Session: math.MaxInt64, Turn: math.MaxInt, Xid: math.MaxInt, Time: math.MaxInt64, Kind: api.DeedSync},
		{Zxid: 70, Session: 1, Kind: api.DeedConfig, Config: e},
		{Zxid: 1<<32 - 1, Session: 3, Turn: 5, Xid: 1, Time: 11, Kind: api.DeedMulti, Parts: parts},
		{Zxid: 1 << 32, Session: 3, Turn: 5, Xid: 2, Time: 12, Kind: api.DeedError, Err: api.ErrThere},
		{Zxid: LastZxid, Kind: api.DeedError, Err: 1},
	}
}

// AnyDeed is a right deed of any kind with that zxid, with some data if its kind has any.
func AnyDeed(next func(most int) int, z api.Zxid) api.Deed {
	kinds := EachDeed()
	d := kinds[next(len(kinds))]
	d.Zxid = z
	if d.Kind == api.DeedConfig {
		d.Config.Version = z
	}
	if len(d.Data) > 0 {
		d.Data = bytes.Repeat([]byte{byte(next(256))}, next(300))
	}
	return d
}

// LongestDeeds is the right deeds that take the most bytes, by rising zxids.
func LongestDeeds() []api.Deed {
	end := api.Deed{Zxid: 1 << 61, Kind: api.DeedClose, Owner: math.MaxInt64}
	for i := range 500 {
		end.Parts = append(end.Parts, api.Deed{Kind: api.DeedDelete, Path: longPath(i), Cversion: math.MaxInt})
	}
	multi := api.Deed{Zxid: 1 << 62, Kind: api.DeedMulti}
	for i := range 16 {
		multi.Parts = append(multi.Parts, api.Deed{Kind: api.DeedCreate, Path: longPath(i), Data: bytes.Repeat([]byte{7}, 1000), Owner: math.MaxInt64, Cversion: math.MaxInt})
	}
	return []api.Deed{end, multi}
}

// longPath is a path of as many bytes as may be, another one for each number below 9000.
func longPath(i int) string {
	return "/" + strconv.Itoa(1000+i) + strings.Repeat("x", 195)
}

// WrongDeeds is deeds that are not right, nearly each by one thing.
func WrongDeeds() []api.Deed {
	return []api.Deed{
		{},
		{Kind: api.DeedSync},
		{Zxid: -1, Kind: api.DeedSync},
		{Zxid: math.MinInt64, Kind: api.DeedSync},
		{Zxid: LastZxid + 1, Kind: api.DeedSync},
		{Zxid: math.MaxInt64, Kind: api.DeedSync},
		{Zxid: 1},
		{Zxid: 1, Kind: 10},
		{Zxid: 1, Kind: 255},
		{Zxid: 1, Kind: api.DeedSync, Session: -1},
		{Zxid: 1, Kind: api.DeedSync, Turn: -1},
		{Zxid: 1, Kind: api.DeedSync, Xid: -1},
		{Zxid: 1, Kind: api.DeedSync, Time: -1},
		{Zxid: 1, Kind: api.DeedSync, Path: "/a"},
		{Zxid: 1, Kind: api.DeedSync, Data: []byte{0}},
		{Zxid: 1, Kind: api.DeedSync, Config: api.Ensemble{Version: 1}},
		{Zxid: 1, Kind: api.DeedCreate, Path: "/"},
		{Zxid: 1, Kind: api.DeedCreate, Path: "a"},
		{Zxid: 1, Kind: api.DeedCreate, Path: "/" + strings.Repeat("x", 200)},
		{Zxid: 1, Kind: api.DeedCreate, Path: "/a", Data: bytes.Repeat([]byte{7}, 1001)},
		{Zxid: 1, Kind: api.DeedDelete, Path: "/"},
		{Zxid: 1, Kind: api.DeedSet, Path: "/a/"},
		{Zxid: 1, Kind: api.DeedSet, Path: "/a", Version: -1},
		{Zxid: 1, Kind: api.DeedOpen},
		{Zxid: 1, Kind: api.DeedOpen, Timeout: 1001},
		{Zxid: 1, Kind: api.DeedClose},
		{Zxid: 1, Kind: api.DeedClose, Owner: 1, Parts: []api.Deed{{Kind: api.DeedSet, Path: "/a"}}},
		{Zxid: 1, Kind: api.DeedClose, Owner: 1, Parts: slices.Repeat([]api.Deed{{Kind: api.DeedDelete, Path: "/a"}}, 501)},
		{Zxid: 1, Kind: api.DeedConfig},
		{Zxid: 1, Kind: api.DeedConfig, Config: api.Ensemble{Version: 2, Members: []api.Member{{Id: 1, Role: api.Voter, Weight: 1}}}},
		{Zxid: 1, Kind: api.DeedMulti},
		{Zxid: 1, Kind: api.DeedMulti, Parts: []api.Deed{{Kind: api.DeedDelete, Path: "/a", Time: 1}}},
		{Zxid: 1, Kind: api.DeedMulti, Parts: slices.Repeat([]api.Deed{{Kind: api.DeedDelete, Path: "/a"}}, 17)},
		{Zxid: 1, Kind: api.DeedError},
		{Zxid: 1, Kind: api.DeedError, Err: -1},
	}
}

// RoomyDeed is the same deed, each list of it new and with spare room that holds junk.
func RoomyDeed(d api.Deed) api.Deed {
	d.Data = WithRoom(d.Data, 0xee)
	d.Config.Members = WithRoom(d.Config.Members, api.Member{Id: 99})
	d.Parts = WithRoom(d.Parts, api.Deed{Zxid: 99})
	for i := range d.Parts {
		d.Parts[i] = RoomyDeed(d.Parts[i])
	}
	return d
}

// SpoilDeed overwrites each list of d and its spare room, those of its parts first.
func SpoilDeed(d api.Deed) {
	for _, part := range d.Parts {
		SpoilDeed(part)
	}
	Spoil(d.Data, 0xdd)
	Spoil(d.Config.Members, api.Member{Id: 77})
	Spoil(d.Parts, api.Deed{Zxid: 77, Path: "spoilt"})
}
