package letter_test

import (
	"bytes"
	"math"
	"reflect"
	"slices"
	"strings"
	"testing"

	"beadle/api"
	"beadle/ask"
	"beadle/deed"
	"beadle/letter"
	"beadle/testkit"
)

// named: by the names of its fields, what the chapter's table says of each kind, and whether it is so.
func named(l api.Letter) map[string]bool {
	epoch := l.Epoch >= 0 && l.Epoch <= 1<<30
	zxid := l.Zxid >= 0 && l.Zxid <= 1<<62
	conn := l.Conn >= 0 && l.Conn <= 1<<40
	switch l.Kind {
	case 1:
		return map[string]bool{"State": l.State >= 1 && l.State <= 3, "Round": l.Round >= 0 && l.Round <= 1<<40, "Leader": l.Leader >= 0 && l.Leader <= 7, "Epoch": epoch, "Zxid": zxid}
	case 2:
		return map[string]bool{"Accepted": l.Accepted >= 0 && l.Accepted <= 1<<30, "Epoch": epoch, "Zxid": zxid}
	case 3, 8, 9:
		return map[string]bool{"Epoch": epoch}
	case 4:
		return map[string]bool{"Fresh": true, "Epoch": epoch, "Zxid": zxid}
	case 5, 10, 12, 13:
		return map[string]bool{"Zxid": zxid}
	case 6:
		return map[string]bool{"Zxid": zxid, "Bytes": len(l.Bytes) >= 1 && len(l.Bytes) <= 1<<20-100}
	case 7, 11:
		return map[string]bool{"Deed": deed.Right(l.Deed)}
	case 14:
		return map[string]bool{}
	case 15:
		return map[string]bool{"Sessions": modelSessions(l.Sessions)}
	case 16:
		return map[string]bool{"Conn": conn, "Ask": ask.Right(l.Ask)}
	case 17:
		return map[string]bool{"Conn": conn, "Ask": ask.Right(l.Ask) && l.Ask.Kind == 1 && l.Ask.Session >= 1}
	case 18:
		return map[string]bool{"Conn": conn, "Zxid": zxid, "Err": l.Err >= 0 && l.Err <= 100000}
	}
	return nil
}

func modelSessions(list []int64) bool {
	for i, n := range list {
		if n < 1 || i > 0 && list[i-1] >= n {
			return false
		}
	}
	return len(list) <= 1000
}

// modelRight: each field by its name is as the table says, or else zero.
func modelRight(l api.Letter) bool {
	table := named(l)
	v := reflect.ValueOf(l)
	for i := range v.NumField() {
		name := v.Type().Field(i).Name
		if fits, there := table[name]; there && !fits || name != "Kind" && !there && !isNothing(v.Field(i)) {
			return false
		}
	}
	return table != nil
}

// bare: l with what its kind names alone.
func bare(l api.Letter) api.Letter {
	table := named(l)
	v := reflect.ValueOf(&l).Elem()
	for i := range v.NumField() {
		name := v.Type().Field(i).Name
		if _, there := table[name]; !there && name != "Kind" {
			v.Field(i).SetZero()
		}
	}
	return l
}

// pieces: what stands in the frame: the kind, and each field; of letters that are not right, too: what it would be.
func pieces(l api.Letter) []line {
	out := []line{line{}.byte(int(l.Kind))}
	numbers := func(numbers ...int64) {
		for _, n := range numbers {
			out = append(out, line{}.int(n))
		}
	}
	epoch, zxid, conn := int64(l.Epoch), int64(l.Zxid), int64(l.Conn)
	switch l.Kind {
	case api.LetVote:
		numbers(int64(l.State), int64(l.Round), int64(l.Leader), epoch, zxid)
	case api.LetInfo:
		numbers(int64(l.Accepted), epoch, zxid)
	case api.LetEpoch, api.LetNew, api.LetAckNew:
		numbers(epoch)
	case api.LetPromise:
		numbers(map[bool]int64{true: 1}[l.Fresh], epoch, zxid)
	case api.LetTrunc, api.LetReady, api.LetAck, api.LetCommit:
		numbers(zxid)
	case api.LetSnap:
		numbers(zxid)
		out = append(out, line{}.row(l.Bytes))
	case api.LetDeed, api.LetPropose:
		b, _ := deed.Put(l.Deed)
		out = append(out, line{}.row(b))
	case api.LetPong:
		out = append(out, line{}.int(int64(len(l.Sessions))).int(l.Sessions...))
	case api.LetAsk, api.LetAttach:
		b, _ := ask.PutAsk(l.Ask)
		numbers(conn)
		out = append(out, line{}.row(b))
	case api.LetAttached:
		numbers(conn, zxid, int64(l.Err))
	}
	return out
}

func modelBytes(l api.Letter) []byte {
	return line(slices.Concat(pieces(l)...)).frame()
}

// check holds Put and, of the bytes that l has or would have, Get against the model; it tells whether l is right.
func check(t *testing.T, l api.Letter) bool {
	t.Helper()
	right := modelRight(l)
	b, errno := letter.Put(l)
	want := modelBytes(l)
	if !right {
		if errno != api.ErrShape || len(b) != 0 {
			t.Errorf("Put(%s): %s, %v", short(l), short(b), errno)
		}
	} else if errno != api.OK || !bytes.Equal(b, want) {
		t.Errorf("Put(%s): %s, %v, want %s", short(l), short(b), errno, short(want))
	}
	if only := bare(l); modelRight(only) {
		checkGet(t, want, only)
	} else {
		checkNone(t, "not right", want)
	}
	return right
}

func checkGet(t *testing.T, b []byte, want api.Letter) {
	t.Helper()
	if got, errno := letter.Get(b); errno != api.OK || !same(got, want) {
		t.Errorf("Get(%s): %s, %v, want %s", short(b), short(got), errno, short(want))
	}
}

// checkNone: an error, and nothing beside it.
func checkNone(t *testing.T, what string, b []byte) {
	t.Helper()
	if got, errno := letter.Get(b); errno != api.ErrShape || !same(got, api.Letter{}) {
		t.Errorf("%s: Get(%s): %s, %v", what, short(b), short(got), errno)
	}
}

// look: whatever b is, only a right letter is told of it, and only that whose bytes it is.
func look(t *testing.T, b []byte) {
	t.Helper()
	got, errno := letter.Get(b)
	if errno != api.OK {
		if errno != api.ErrShape || !same(got, api.Letter{}) {
			t.Errorf("Get(%s): %s, %v", short(b), short(got), errno)
		}
	} else if !modelRight(got) || !bytes.Equal(modelBytes(got), b) {
		t.Errorf("Get(%s): %s", short(b), short(got))
	}
}

// rising: so many sessions.
func rising(count int) []int64 {
	out := make([]int64, count)
	for i := range out {
		out[i] = int64(i)*3 + 1
	}
	return out
}

// rightDeeds: one of each kind.
func rightDeeds() []api.Deed {
	return []api.Deed{
		{Zxid: 1, Kind: api.DeedSync},
		{Zxid: 2, Kind: api.DeedCreate, Session: 3, Turn: 4, Xid: 5, Time: 6, Path: "/a", Data: []byte{7, 8}, Owner: 9, Cversion: 10},
		{Zxid: 1 << 62, Kind: api.DeedDelete, Session: math.MaxInt64, Path: "/a/b", Cversion: 2},
		{Zxid: 3, Kind: api.DeedSet, Path: "/", Data: bytes.Repeat([]byte{0xff}, 1000), Version: 3},
		{Zxid: 4, Kind: api.DeedOpen, Timeout: 1000},
		{Zxid: 5, Kind: api.DeedClose, Owner: 4, Parts: []api.Deed{{Kind: api.DeedDelete, Path: "/a"}, {Kind: api.DeedDelete, Path: "/b", Cversion: 1}}},
		{Zxid: 6, Kind: api.DeedConfig, Config: api.Ensemble{Version: 6, Members: []api.Member{{Id: 1, Role: api.Voter, Weight: 1}, {Id: 2, Role: api.Observer}}}},
		{Zxid: 7, Kind: api.DeedMulti, Parts: []api.Deed{{Kind: api.DeedSet, Path: "/a", Data: []byte{1}}, {Kind: api.DeedCreate, Path: "/b", Data: []byte{2, 3}}}},
		{Zxid: 8, Kind: api.DeedError, Session: 1, Turn: 2, Xid: 3, Err: 210},
	}
}

// rightAsks: one of each kind, and calls that open a session.
func rightAsks() []api.Ask {
	return []api.Ask{
		{Kind: api.AskOpen, Session: 1, Timeout: 1},
		{Kind: api.AskOpen, Session: 0, Timeout: 30, Turn: 1},
		{Kind: api.AskOpen, Xid: 1, Session: math.MaxInt64, Turn: 2, Last: 7, Timeout: 1000},
		{Kind: api.AskClose, Session: 1},
		{Kind: api.AskCreate, Xid: 1, Session: 2, Turn: 3, Path: "/a", Data: []byte{4, 5}, Flags: 3},
		{Kind: api.AskDelete, Session: 1, Path: "/a", Version: -1},
		{Kind: api.AskSet, Session: 1, Path: "/a", Data: bytes.Repeat([]byte{0xff}, 1000), Version: 2},
		{Kind: api.AskGet, Path: "a b", Watch: true},
		{Kind: api.AskExists, Path: "", Watch: true},
		{Kind: api.AskList, Path: strings.Repeat("x", 220)},
		{Kind: api.AskSync, Xid: 1},
		{Kind: api.AskMulti, Xid: 9, Parts: []api.Ask{{Kind: api.AskCheck, Path: "/a"}, {Kind: api.AskSet, Path: "/a", Data: []byte{1}}}},
		{Kind: api.AskConfig, Session: 1, From: 8, Members: []api.Member{{Id: 1, Role: 2, Weight: 3, Group: 4}}},
		{Kind: api.AskPing},
		{Kind: api.AskWatch, Session: 1, Path: "/a", Sort: 3, Last: 2},
	}
}

// withOne: a thing of T's sort for each field and for each field of its Config, if it has one, in which that alone is set, to something small and to something wild.
func withOne[T any]() []T {
	var out []T
	var zero T
	fill := func(field func(*T) reflect.Value) {
		for _, wild := range []bool{false, true} {
			x := zero
			v := field(&x)
			switch {
			case v.Kind() == reflect.Slice:
				v.Set(reflect.MakeSlice(v.Type(), 1, 1))
			case wild:
				junk(v)
			case v.CanInt():
				v.SetInt(1)
			case v.CanUint():
				v.SetUint(1)
			case v.Kind() == reflect.String:
				v.SetString("/a")
			case v.Kind() == reflect.Bool:
				v.SetBool(true)
			}
			out = append(out, x)
		}
	}
	for i := range reflect.TypeFor[T]().NumField() {
		fill(func(x *T) reflect.Value { return reflect.ValueOf(x).Elem().Field(i) })
		if reflect.TypeFor[T]().Field(i).Type == reflect.TypeFor[api.Ensemble]() {
			for j := range 2 {
				fill(func(x *T) reflect.Value { return reflect.ValueOf(x).Elem().Field(i).Field(j) })
			}
		}
	}
	return out
}

func deeds() []any {
	out := []any{
		api.Deed{},
		api.Deed{Data: []byte{}, Parts: []api.Deed{}, Config: api.Ensemble{Members: []api.Member{}}},
		api.Deed{Zxid: 1, Kind: api.DeedCreate, Path: "/"},
		api.Deed{Zxid: 1, Kind: api.DeedSync, Path: "/a"},
		api.Deed{Zxid: 1, Kind: api.DeedMulti},
		api.Deed{Zxid: 1, Kind: api.DeedSet, Path: "/a", Data: make([]byte, 1001)},
		api.Deed{Zxid: 1, Kind: 10},
		api.Deed{Zxid: 1<<62 + 1<<32, Kind: api.DeedSync},
		api.Deed{Zxid: 1, Kind: api.DeedSync, Session: -1},
	}
	for _, d := range append(rightDeeds(), withOne[api.Deed]()...) {
		out = append(out, d)
	}
	return out
}

func asks() []any {
	out := []any{
		api.Ask{},
		api.Ask{Data: []byte{}, Members: []api.Member{}, Parts: []api.Ask{}},
		api.Ask{Kind: api.AskOpen, Session: 1},
		api.Ask{Kind: api.AskOpen, Session: -1, Timeout: 1},
		api.Ask{Kind: api.AskOpen, Session: 1, Timeout: 1001},
		api.Ask{Kind: api.AskCheck, Session: 1, Path: "/a"},
		api.Ask{Kind: api.AskPing, Path: "/a"},
		api.Ask{Kind: api.AskMulti, Session: 1},
		api.Ask{Kind: 15, Session: 1},
	}
	for _, a := range append(rightAsks(), withOne[api.Ask]()...) {
		out = append(out, a)
	}
	return out
}

// values of the letters' fields: their edges, and what lies beyond them.
func values() map[string][]any {
	counts := []any{math.MinInt, -1 << 40, -1, 0, 1, 63, 64, 1 << 32, 1<<40 - 1, 1 << 40, 1<<40 + 1, math.MaxInt}
	epochs := []any{math.MinInt, -1 << 30, -1, 0, 1, 1<<30 - 1, 1 << 30, 1<<30 + 1, 1 << 32, 1<<32 + 1, math.MaxInt}
	return map[string][]any{
		"State":    {api.State(0), api.State(1), api.State(2), api.State(3), api.State(4), api.State(128), api.State(255)},
		"Round":    counts,
		"Leader":   {math.MinInt, -1, 0, 1, 6, 7, 8, 256, 257, 1 << 32, math.MaxInt},
		"Epoch":    epochs,
		"Accepted": epochs,
		"Fresh":    {false, true},
		"Zxid":     {api.Zxid(math.MinInt64), api.Zxid(-1 << 62), api.Zxid(-1), api.Zxid(0), api.Zxid(1), api.Zxid(1<<32 + 5), api.Zxid(1<<62 - 1), api.Zxid(1 << 62), api.Zxid(1<<62 + 1), api.Zxid(math.MaxInt64)},
		"Conn":     counts,
		"Err":      {api.Errno(math.MinInt), api.Errno(-1), api.Errno(0), api.Errno(1), api.ErrSession, api.Errno(99999), api.Errno(100000), api.Errno(100001), api.Errno(1 << 32), api.Errno(math.MaxInt)},
		"Sessions": rowsOfSessions(),
		"Bytes":    {[]byte{}, []byte{0}, []byte{1, 2}, make([]byte, 300), make([]byte, 1<<20-99)},
		"Deed":     deeds(),
		"Ask":      asks(),
	}
}

func rowsOfSessions() []any {
	out := []any{[]int64{}}
	for _, list := range [][]int64{
		{1}, {0}, {-1}, {2}, {math.MaxInt64}, {math.MinInt64},
		{1, 2}, {3, 9}, {1, math.MaxInt64}, {math.MaxInt64 - 1, math.MaxInt64},
		{0, 1}, {-1, 1}, {0, 0}, {1, 1}, {2, 1}, {1, 0}, {1, -1}, {math.MaxInt64, 1}, {math.MaxInt64, math.MaxInt64}, {math.MaxInt64, math.MinInt64}, {math.MinInt64, 5},
		{1, 2, 3}, {1, 3, 2}, {1, 3, 3}, {2, 1, 3}, {2, 2, 3},
		rising(999), rising(1000), rising(1001), rising(1002), rising(3000),
		append(rising(999), 1), append(rising(999), 2995), append(rising(999), math.MaxInt64),
	} {
		out = append(out, list)
	}
	return out
}

// strange: each field by itself set to each of its values.
func strange() []func(*api.Letter) {
	var out []func(*api.Letter)
	table := values()
	for i := range reflect.TypeFor[api.Letter]().NumField() {
		for _, x := range table[reflect.TypeFor[api.Letter]().Field(i).Name] {
			out = append(out, func(l *api.Letter) { reflect.ValueOf(l).Elem().Field(i).Set(reflect.ValueOf(x)) })
		}
	}
	return out
}

func TestAllFieldsHaveStrangeValues(t *testing.T) {
	table := values()
	for i := range reflect.TypeFor[api.Letter]().NumField() {
		name := reflect.TypeFor[api.Letter]().Field(i).Name
		if name != "Kind" && len(table[name]) == 0 {
			t.Errorf("%s has none", name)
		}
	}
}

// eachKind: a right letter of each kind with as little as may be, and some with more, and most.
func eachKind() []api.Letter {
	out := []api.Letter{
		{Kind: api.LetVote, State: api.Looking},
		{Kind: api.LetInfo},
		{Kind: api.LetEpoch},
		{Kind: api.LetPromise},
		{Kind: api.LetTrunc},
		{Kind: api.LetSnap, Bytes: []byte{0}},
		{Kind: api.LetDeed, Deed: api.Deed{Zxid: 4, Kind: api.DeedSync}},
		{Kind: api.LetNew},
		{Kind: api.LetAckNew},
		{Kind: api.LetReady},
		{Kind: api.LetPropose, Deed: api.Deed{Zxid: 4, Kind: api.DeedSync}},
		{Kind: api.LetAck},
		{Kind: api.LetCommit},
		{Kind: api.LetPing},
		{Kind: api.LetPong},
		{Kind: api.LetAsk, Ask: api.Ask{Kind: api.AskSync}},
		{Kind: api.LetAttach, Ask: api.Ask{Kind: api.AskOpen, Session: 1, Timeout: 1}},
		{Kind: api.LetAttached},
		{Kind: api.LetVote, State: api.Leading, Round: 1 << 40, Leader: 7, Epoch: 1 << 30, Zxid: 1 << 62},
		{Kind: api.LetVote, State: api.Following, Round: 4, Leader: 3, Epoch: 2, Zxid: 1},
		{Kind: api.LetInfo, Accepted: 1 << 30, Epoch: 1<<30 - 1, Zxid: 1 << 62},
		{Kind: api.LetEpoch, Epoch: 1 << 30},
		{Kind: api.LetPromise, Fresh: true, Epoch: 1 << 30, Zxid: 1 << 62},
		{Kind: api.LetTrunc, Zxid: 1 << 62},
		{Kind: api.LetSnap, Zxid: 1 << 62, Bytes: []byte{1, 2, 3, 255}},
		{Kind: api.LetNew, Epoch: 3},
		{Kind: api.LetAckNew, Epoch: 1 << 30},
		{Kind: api.LetReady, Zxid: 8},
		{Kind: api.LetAck, Zxid: 64},
		{Kind: api.LetCommit, Zxid: 1 << 62},
		{Kind: api.LetPong, Sessions: []int64{3, 9, math.MaxInt64}},
		{Kind: api.LetPong, Sessions: rising(1000)},
		{Kind: api.LetAttach, Conn: 1 << 40, Ask: api.Ask{Kind: api.AskOpen, Xid: 2, Session: 4, Turn: 2, Last: 7, Timeout: 30}},
		{Kind: api.LetAttached, Conn: 1 << 40, Zxid: 1 << 62, Err: 100000},
		{Kind: api.LetAttached, Conn: 3, Err: api.ErrSession},
	}
	for i, d := range rightDeeds() {
		out = append(out, api.Letter{Kind: []api.LetterKind{api.LetDeed, api.LetPropose}[i%2], Deed: d})
	}
	for i, a := range rightAsks() {
		out = append(out, api.Letter{Kind: api.LetAsk, Conn: i, Ask: a})
	}
	return out
}

// P7.1

func TestExamples(t *testing.T) {
	for _, x := range []struct {
		l    api.Letter
		want []byte
	}{
		{api.Letter{Kind: api.LetAck, Zxid: 5}, line{12, 10}.frame()},
		{api.Letter{Kind: api.LetPing}, line{14}.frame()},
	} {
		if b, errno := letter.Put(x.l); errno != api.OK || !bytes.Equal(b, x.want) {
			t.Errorf("%s: %x, %v", short(x.l), b, errno)
		}
		checkGet(t, x.want, x.l)
	}
	for _, l := range []api.Letter{
		{Kind: api.LetPing, Zxid: 1},
		{Kind: api.LetVote},
		{Kind: api.LetPong, Sessions: []int64{2, 1}},
		{},
		{Kind: 19},
		{Kind: api.LetSnap, Zxid: 1},
		{Kind: api.LetDeed},
		{Kind: api.LetAsk},
		{Kind: api.LetPing, Deed: api.Deed{Zxid: 1}},
		{Kind: api.LetPing, Ask: api.Ask{Watch: true}},
	} {
		if b, errno := letter.Put(l); errno != api.ErrShape || len(b) != 0 || check(t, l) {
			t.Errorf("%s: %x, %v", short(l), b, errno)
		}
	}
}

func TestBytesOfLetters(t *testing.T) {
	for _, x := range []struct {
		l    api.Letter
		want line
	}{
		{api.Letter{Kind: api.LetVote, State: api.Leading, Round: 4, Leader: 3, Epoch: 2, Zxid: 64}, line{1, 6, 8, 6, 4, 0x80, 1}},
		{api.Letter{Kind: api.LetInfo, Accepted: 1, Epoch: 2, Zxid: 3}, line{2, 2, 4, 6}},
		{api.Letter{Kind: api.LetEpoch, Epoch: 7}, line{3, 14}},
		{api.Letter{Kind: api.LetPromise, Fresh: true, Epoch: 3, Zxid: 4}, line{4, 2, 6, 8}},
		{api.Letter{Kind: api.LetPromise, Epoch: 3, Zxid: 4}, line{4, 0, 6, 8}},
		{api.Letter{Kind: api.LetTrunc, Zxid: 9}, line{5, 18}},
		{api.Letter{Kind: api.LetSnap, Zxid: 9, Bytes: []byte{7, 8}}, line{6, 18, 4, 7, 8}},
		{api.Letter{Kind: api.LetDeed, Deed: api.Deed{Zxid: 4, Kind: api.DeedSync}}, line{7, 12, 6, 8, 0, 0, 0, 0}},
		{api.Letter{Kind: api.LetNew, Epoch: 1}, line{8, 2}},
		{api.Letter{Kind: api.LetAckNew, Epoch: 1}, line{9, 2}},
		{api.Letter{Kind: api.LetReady, Zxid: 1}, line{10, 2}},
		{api.Letter{Kind: api.LetPropose, Deed: api.Deed{Zxid: 1, Session: 3, Kind: api.DeedDelete, Path: "/a", Cversion: 2}}, line{11, 20, 2, 2, 6, 0, 0, 0, 4, '/', 'a', 4}},
		{api.Letter{Kind: api.LetCommit, Zxid: 1}, line{13, 2}},
		{api.Letter{Kind: api.LetPong}, line{15, 0}},
		{api.Letter{Kind: api.LetPong, Sessions: []int64{1, 3, 64}}, line{15, 6, 2, 6, 0x80, 1}},
		{api.Letter{Kind: api.LetAsk, Conn: 5, Ask: api.Ask{Kind: api.AskDelete, Xid: 3, Path: "/a", Version: -1}}, line{16, 10, 16, 4, 6, 0, 0, 4, '/', 'a', 1}},
		{api.Letter{Kind: api.LetAttach, Conn: 2, Ask: api.Ask{Kind: api.AskOpen, Xid: 1, Session: 2, Turn: 3, Last: 4, Timeout: 5}}, line{17, 4, 12, 1, 2, 4, 6, 8, 10}},
		{api.Letter{Kind: api.LetAttached, Conn: 1, Zxid: 2, Err: 3}, line{18, 2, 4, 6}},
	} {
		b, errno := letter.Put(x.l)
		if errno != api.OK || !bytes.Equal(b, x.want.frame()) {
			t.Errorf("Put(%s): %x, %v, want %x", short(x.l), b, errno, x.want.frame())
		}
		checkGet(t, x.want.frame(), x.l)
	}
}

func TestEachKind(t *testing.T) {
	for _, l := range eachKind() {
		if !check(t, l) {
			t.Errorf("%s is not right", short(l))
		}
	}
	for kind := range 256 {
		for _, l := range append(eachKind(), api.Letter{}) {
			l.Kind = api.LetterKind(kind)
			check(t, l)
		}
		b, errno := letter.Put(api.Letter{Kind: api.LetterKind(kind)})
		if free := slices.Contains([]int{2, 3, 4, 5, 8, 9, 10, 12, 13, 14, 15, 18}, kind); (errno == api.OK) != free || (len(b) > 0) != free {
			t.Errorf("a letter of kind %d without fields: %x, %v", kind, b, errno)
		}
		if kind < 1 || kind > 18 {
			checkNone(t, "no kind", line{byte(kind)}.frame())
			checkNone(t, "no kind", line{byte(kind), 0}.frame())
		}
	}
}

func TestEachFieldOfEachKind(t *testing.T) {
	sets := strange()
	for _, l := range append(eachKind(), api.Letter{}, api.Letter{Kind: 19}, api.Letter{Kind: 255}) {
		for _, set := range sets {
			other := l
			set(&other)
			check(t, other)
		}
	}
}

func TestTwoFieldsOfEachKind(t *testing.T) {
	sets := strange()
	for _, l := range eachKind()[:18] {
		for i, one := range sets {
			for j, two := range sets {
				if (i*5+j)%17 > 0 {
					continue
				}
				other := l
				one(&other)
				two(&other)
				check(t, other)
			}
		}
	}
}

// What a kind does not name is nothing, also where all of it is there.
func TestOneFieldTooMany(t *testing.T) {
	all := values()
	for _, l := range eachKind() {
		table := named(l)
		v := reflect.ValueOf(l)
		for i := range v.NumField() {
			name := v.Type().Field(i).Name
			if _, there := table[name]; there || name == "Kind" {
				continue
			}
			for _, x := range all[name] {
				if isNothing(reflect.ValueOf(x)) {
					continue
				}
				other := l
				reflect.ValueOf(&other).Elem().Field(i).Set(reflect.ValueOf(x))
				if b, errno := letter.Put(other); errno != api.ErrShape || len(b) != 0 {
					t.Errorf("kind %d with %s %s: %s, %v", l.Kind, name, short(x), short(b), errno)
				}
			}
		}
	}
}

func TestEmptyListsAreNone(t *testing.T) {
	for _, l := range eachKind() {
		full := roomy(l)
		b, errno := letter.Put(full)
		if errno != api.OK || !bytes.Equal(b, modelBytes(l)) {
			t.Errorf("Put(%s), its lists empty, not nil: %s, %v", short(l), short(b), errno)
		}
	}
}

func TestLengthsOfBytes(t *testing.T) {
	for _, x := range []struct {
		length int
		right  bool
	}{{0, false}, {1, true}, {1000, true}, {1<<20 - 101, true}, {1<<20 - 100, true}, {1<<20 - 99, false}, {1 << 20, false}, {1<<20 + 1, false}, {1 << 22, false}} {
		for _, zxid := range []api.Zxid{0, 1 << 62} {
			l := api.Letter{Kind: api.LetSnap, Zxid: zxid, Bytes: bytes.Repeat([]byte{7}, x.length)}
			if check(t, l) != x.right {
				t.Errorf("%d bytes: %v", x.length, !x.right)
			}
		}
	}
}

// None that is right is too long for a frame, so that ErrLong is never told; and none that is not right is told as too long, however long it would be.
func TestLongestLetters(t *testing.T) {
	path := "/" + strings.Repeat("x", 199)
	ends := slices.Repeat([]api.Deed{{Kind: api.DeedDelete, Path: path, Cversion: math.MaxInt}}, 500)
	sets := slices.Repeat([]api.Ask{{Kind: api.AskSet, Path: strings.Repeat("x", 220), Data: make([]byte, 1000), Version: math.MaxInt}}, 16)
	sessions := make([]int64, 1000)
	for i := range sessions {
		sessions[i] = math.MaxInt64 - 1000 + int64(i)
	}
	for _, l := range []api.Letter{
		{Kind: api.LetSnap, Zxid: 1 << 62, Bytes: make([]byte, 1<<20-100)},
		{Kind: api.LetPropose, Deed: api.Deed{Zxid: 1 << 62, Kind: api.DeedClose, Session: math.MaxInt64, Turn: math.MaxInt, Xid: math.MaxInt, Time: math.MaxInt64, Owner: math.MaxInt64, Parts: ends}},
		{Kind: api.LetAsk, Conn: 1 << 40, Ask: api.Ask{Kind: api.AskMulti, Xid: math.MaxInt, Session: math.MaxInt64, Turn: math.MaxInt, Parts: sets}},
		{Kind: api.LetPong, Sessions: sessions},
	} {
		if !check(t, l) {
			t.Errorf("kind %d is not right", l.Kind)
		}
	}
	for _, l := range []api.Letter{
		{Kind: api.LetSnap, Bytes: make([]byte, 1<<21)},
		{Kind: api.LetPong, Sessions: rising(1 << 20)},
		{Kind: api.LetDeed, Deed: api.Deed{Zxid: 1, Kind: api.DeedSet, Path: "/a", Data: make([]byte, 1<<21)}},
		{Kind: api.LetPropose, Deed: api.Deed{Zxid: 1, Kind: api.DeedClose, Owner: 1, Parts: slices.Repeat(ends, 20)}},
		{Kind: api.LetAsk, Ask: api.Ask{Kind: api.AskSet, Path: "/a", Data: make([]byte, 1<<21)}},
		{Kind: api.LetAttach, Ask: api.Ask{Kind: api.AskMulti, Session: 1, Parts: slices.Repeat(sets, 100)}},
		{Kind: api.LetPing, Bytes: make([]byte, 1<<21)},
	} {
		if b, errno := letter.Put(l); errno != api.ErrShape || len(b) != 0 {
			t.Errorf("kind %d: %d bytes, %v", l.Kind, len(b), errno)
		}
	}
}

func TestAttach(t *testing.T) {
	for kind := range 17 {
		for _, session := range []int64{math.MinInt64, -1, 0, 1, 2, math.MaxInt64} {
			for _, timeout := range []int{0, 1} {
				a := api.Ask{Kind: api.AskKind(kind), Session: session, Timeout: timeout}
				want := kind == 1 && session >= 1 && timeout == 1
				if got := check(t, api.Letter{Kind: api.LetAttach, Conn: 1, Ask: a}); got != want {
					t.Errorf("%s: %v", short(a), got)
				}
				// Each is right where any call may stand.
				check(t, api.Letter{Kind: api.LetAsk, Conn: 1, Ask: a})
			}
		}
	}
	for _, a := range rightAsks() {
		b, _ := ask.PutAsk(a)
		bytes := slices.Concat(line{17, 2}, line{}.row(b))
		if a.Kind == api.AskOpen && a.Session > 0 {
			checkGet(t, bytes.frame(), api.Letter{Kind: api.LetAttach, Conn: 1, Ask: a})
		} else {
			checkNone(t, "another call", bytes.frame())
		}
	}
}

// Parts may lie in themselves, or very deep: no call goes into them without end.
func TestPartsWithinParts(t *testing.T) {
	ring := []api.Deed{{Kind: api.DeedMulti}}
	ring[0].Parts = ring
	deep := []api.Deed{{Kind: api.DeedSync}}
	calls := []api.Ask{{Kind: api.AskMulti}}
	calls[0].Parts = calls
	deepCalls := []api.Ask{{Kind: api.AskDelete}}
	for range 1 << 20 {
		deep = []api.Deed{{Kind: api.DeedMulti, Parts: deep}}
		deepCalls = []api.Ask{{Kind: api.AskMulti, Parts: deepCalls}}
	}
	for kind := range 20 {
		for _, l := range []api.Letter{
			{Deed: api.Deed{Parts: ring}},
			{Deed: api.Deed{Zxid: 1, Kind: api.DeedMulti, Parts: ring}},
			{Deed: api.Deed{Zxid: 1, Kind: api.DeedMulti, Parts: deep}},
			{Ask: api.Ask{Parts: calls}},
			{Ask: api.Ask{Kind: api.AskMulti, Parts: calls}},
			{Ask: api.Ask{Kind: api.AskMulti, Parts: deepCalls}},
		} {
			l.Kind = api.LetterKind(kind)
			if b, errno := letter.Put(l); errno != api.ErrShape || len(b) != 0 {
				t.Errorf("kind %d: %s, %v", kind, short(b), errno)
			}
		}
	}
}

// P7.2

func TestBytesThatAreNoLetters(t *testing.T) {
	checkNone(t, "nil", nil)
	checkNone(t, "nothing", []byte{})
	checkNone(t, "a frame of nothing", line{}.frame())
	for _, l := range eachKind() {
		b := modelBytes(l)
		for end := range b {
			if end > 300 && end < len(b)-3 {
				continue
			}
			checkNone(t, "cut", b[:end:end])
			checkNone(t, "cut, the rest in the spare room", b[:end])
		}
		for more := range 256 {
			checkNone(t, "a byte behind the frame", append(slices.Clip(b), byte(more)))
		}
		checkNone(t, "twice", append(slices.Clip(b), b...))
		checkNone(t, "without a frame", b[8:])
		checkNone(t, "a frame in a frame", line(b).frame())
	}
}

func TestBytesWithinTheFrame(t *testing.T) {
	for _, l := range eachKind() {
		inner := line(slices.Concat(pieces(l)...))
		for more := range 256 {
			checkNone(t, "a byte behind the last field", slices.Concat(inner, line{byte(more)}).frame())
		}
		for end := range inner {
			if end > 100 && end < len(inner)-3 {
				continue
			}
			checkNone(t, "the fields end early", inner[:end].frame())
		}
	}
}

// with: the letter's bytes, one of its pieces another one.
func with(l api.Letter, i int, piece []byte) []byte {
	all := pieces(l)
	all[i] = piece
	return line(slices.Concat(all...)).frame()
}

// Each field begins with a number, if only that of how many bytes it has.
func TestNumbersThatAreNone(t *testing.T) {
	for _, l := range eachKind() {
		for i, piece := range pieces(l) {
			if i == 0 {
				continue
			}
			size := firstNumber(piece)
			number, rest := piece[:size], piece[size:]
			nought := slices.Clone(number)
			nought[size-1] |= 128
			checkNone(t, "a nought ahead", with(l, i, slices.Concat(nought, []byte{0}, rest)))
			checkNone(t, "two noughts ahead", with(l, i, slices.Concat(nought, []byte{128, 0}, rest)))
			checkNone(t, "not the last digit", with(l, i, nought))
			for _, digits := range beyond() {
				checkNone(t, "no number", with(l, i, slices.Concat(digits, rest)))
			}
			for _, n := range []int64{math.MinInt64, -1 << 32, -256, -2, -1} {
				checkNone(t, "below 0", with(l, i, slices.Concat(line{}.int(n), rest)))
			}
		}
	}
}

// Numbers that would come to another one, were they narrowed to their field.
func TestNumbersBeyondTheirField(t *testing.T) {
	for _, l := range eachKind() {
		for i, piece := range pieces(l) {
			if i == 0 {
				continue
			}
			size := firstNumber(piece)
			for _, add := range []int64{1 << 8, 1 << 16, 1 << 32, 1 << 62, math.MinInt64, -1 << 32, -1 << 8} {
				for n := range int64(5) {
					look(t, with(l, i, slices.Concat(line{}.int(n+add), piece[size:])))
				}
			}
		}
	}
	for _, add := range []int64{256, 512, 1 << 16, 1 << 32, 1 << 40, math.MinInt64} {
		for n := range int64(4) {
			checkNone(t, "a state", line{1}.int(add+n, 0, 0, 0, 0).frame())
			checkNone(t, "a leader", line{1}.int(1, 0, add+n, 0, 0).frame())
			checkNone(t, "fresh", line{4}.int(add+n, 0, 0).frame())
		}
	}
}

func TestNumbersAtTheirEdges(t *testing.T) {
	for _, n := range []int64{math.MinInt64, -1 << 40, -1, 0, 1, 2, 3, 4, 7, 8, 100000, 100001, 1 << 30, 1<<30 + 1, 1 << 40, 1<<40 + 1, 1 << 62, 1<<62 + 1, math.MaxInt64} {
		up := func(most int64) bool { return n >= 0 && n <= most }
		for _, x := range []struct {
			what  string
			right bool
			inner line
		}{
			{"State", n >= 1 && n <= 3, line{1}.int(n, 0, 0, 0, 0)},
			{"Round", up(1 << 40), line{1}.int(1, n, 0, 0, 0)},
			{"Leader", up(7), line{1}.int(1, 0, n, 0, 0)},
			{"Epoch of a vote", up(1 << 30), line{1}.int(1, 0, 0, n, 0)},
			{"Zxid of a vote", up(1 << 62), line{1}.int(1, 0, 0, 0, n)},
			{"Accepted", up(1 << 30), line{2}.int(n, 0, 0)},
			{"Epoch of an info", up(1 << 30), line{2}.int(0, n, 0)},
			{"Zxid of an info", up(1 << 62), line{2}.int(0, 0, n)},
			{"Epoch", up(1 << 30), line{3}.int(n)},
			{"Fresh", up(1), line{4}.int(n, 0, 0)},
			{"Epoch of a promise", up(1 << 30), line{4}.int(0, n, 0)},
			{"Zxid of a promise", up(1 << 62), line{4}.int(0, 0, n)},
			{"Zxid of a trunc", up(1 << 62), line{5}.int(n)},
			{"Zxid of a snap", up(1 << 62), line{6}.int(n).row([]byte{1})},
			{"Epoch of a new", up(1 << 30), line{8}.int(n)},
			{"Epoch of an acknew", up(1 << 30), line{9}.int(n)},
			{"Zxid of a ready", up(1 << 62), line{10}.int(n)},
			{"Zxid of an ack", up(1 << 62), line{12}.int(n)},
			{"Zxid of a commit", up(1 << 62), line{13}.int(n)},
			{"one session", n >= 1, line{15}.int(1, n)},
			{"a session behind 3", n >= 4, line{15}.int(2, 3, n)},
			{"Conn of an ask", up(1 << 40), line{16}.int(n).row([]byte{13, 0, 0, 0})},
			{"Conn of an attach", up(1 << 40), line{17}.int(n).row([]byte{1, 0, 2, 0, 0, 2})},
			{"Conn of an attached", up(1 << 40), line{18}.int(n, 0, 0)},
			{"Zxid of an attached", up(1 << 62), line{18}.int(0, n, 0)},
			{"Err", up(100000), line{18}.int(0, 0, n)},
		} {
			got, errno := letter.Get(x.inner.frame())
			if (errno == api.OK) != x.right {
				t.Errorf("%s %d: %s, %v", x.what, n, short(got), errno)
			}
			look(t, x.inner.frame())
		}
	}
}

func TestCounts(t *testing.T) {
	for _, count := range []int64{math.MinInt64, -1000, -1, 0, 1, 2, 4, 999, 1001, 1 << 20, 1 << 32, 1<<32 + 3, math.MaxInt64} {
		checkNone(t, "three sessions, another count", line{15}.int(count, 1, 2, 3).frame())
	}
	for _, count := range []int{0, 1, 999, 1000, 1001, 1002} {
		b := line{15}.int(int64(count)).int(rising(count)...).frame()
		if count <= 1000 {
			checkGet(t, b, api.Letter{Kind: api.LetPong, Sessions: rising(count)})
		} else {
			checkNone(t, "too many sessions", b)
		}
	}
	for _, length := range []int64{math.MinInt64, -1, 0, 1, 3, 4, 1<<20 - 100, 1<<20 - 99, 1 << 32, 1<<32 + 2, math.MaxInt64} {
		checkNone(t, "two bytes, another length", append(line{6}.int(0, length), 7, 8).frame())
		checkNone(t, "a deed of another length", append(line{7}.int(length), 6, 2, 0, 0, 0, 0).frame())
		checkNone(t, "a call of another length", append(line{16}.int(0, length), 13, 0).frame())
	}
	for _, length := range []int{0, 1<<20 - 99, 1<<20 - 50, 1<<20 - 10, 1 << 20, 1<<20 + 1} {
		checkNone(t, "so many bytes", line{6}.int(0).row(make([]byte, length)).frame())
	}
}

func TestPartsThatAreNone(t *testing.T) {
	for _, d := range rightDeeds() {
		b, _ := deed.Put(d)
		for _, kind := range []byte{7, 11} {
			checkGet(t, line{kind}.row(b).frame(), api.Letter{Kind: api.LetterKind(kind), Deed: d})
			checkNone(t, "a deed and a byte", line{kind}.row(append(slices.Clip(b), 0)).frame())
			checkNone(t, "a deed without its last byte", line{kind}.row(b[:len(b)-1]).frame())
			checkNone(t, "a deed without its length", append(line{kind}, b...).frame())
			checkNone(t, "a deed in a frame", line{kind}.row(line(b).frame()).frame())
			checkNone(t, "a deed, then nothing", line{kind}.row(b).row(nil).frame())
		}
	}
	for _, b := range [][]byte{nil, {0}, {6}, {6, 0, 0, 0, 0, 0}, {6, 1, 0, 0, 0, 0}, {10, 2, 0, 0, 0, 0}, {6, 0x82, 0, 0, 0, 0, 0}, make([]byte, 1000)} {
		checkNone(t, "no deed", line{7}.row(b).frame())
		checkNone(t, "no deed", line{11}.row(b).frame())
	}
	for _, a := range rightAsks() {
		b, _ := ask.PutAsk(a)
		for _, kind := range []byte{16, 17} {
			if kind == 16 {
				checkGet(t, line{kind, 6}.row(b).frame(), api.Letter{Kind: api.LetAsk, Conn: 3, Ask: a})
			}
			checkNone(t, "a call and a byte", line{kind, 6}.row(append(slices.Clip(b), 0)).frame())
			checkNone(t, "a call without its last byte", line{kind, 6}.row(b[:len(b)-1]).frame())
			checkNone(t, "a call without its length", append(line{kind, 6}, b...).frame())
			checkNone(t, "a call ahead of its connection", append(line{kind}.row(b), 6).frame())
		}
	}
	for _, b := range [][]byte{nil, {0}, {13}, {13, 0, 0}, {13, 1, 0, 0}, {15, 0, 0, 0}, {1, 0, 2, 0, 0, 0}, {6, 0, 2, 0, 0, 0}, {1, 0, 0x82, 0, 0, 0, 2}, make([]byte, 1000)} {
		checkNone(t, "no call", line{16, 0}.row(b).frame())
		checkNone(t, "no call", line{17, 0}.row(b).frame())
	}
}

func TestRowsOfBytes(t *testing.T) {
	next := testkit.Walk()
	for range 60000 {
		inner := make(line, next(9))
		for i := range inner {
			inner[i] = []byte{0, 1, 2, 4, 6, 8, 12, 128, byte(next(256))}[next(9)]
		}
		if len(inner) > 0 {
			inner[0] = byte(next(20))
		}
		look(t, inner.frame())
		look(t, inner)
	}
}

// P7.4

// anyLetter: a right one.
func anyLetter(next func(int) int) api.Letter {
	count := func() int { return int(anyNumber(next) % (1<<40 + 1)) }
	epoch := func() int { return int(anyNumber(next) % (1<<30 + 1)) }
	zxid := api.Zxid(anyNumber(next) % (1<<62 + 1))
	l := api.Letter{Kind: api.LetterKind(1 + next(18))}
	switch l.Kind {
	case api.LetVote:
		l.State, l.Round, l.Leader, l.Epoch, l.Zxid = api.State(1+next(3)), count(), next(8), epoch(), zxid
	case api.LetInfo:
		l.Accepted, l.Epoch, l.Zxid = epoch(), epoch(), zxid
	case api.LetEpoch, api.LetNew, api.LetAckNew:
		l.Epoch = epoch()
	case api.LetPromise:
		l.Fresh, l.Epoch, l.Zxid = next(2) == 1, epoch(), zxid
	case api.LetTrunc, api.LetReady, api.LetAck, api.LetCommit:
		l.Zxid = zxid
	case api.LetSnap:
		l.Zxid, l.Bytes = zxid, slices.Repeat([]byte{byte(next(256))}, 1+next(300))
	case api.LetDeed, api.LetPropose:
		l.Deed = rightDeeds()[next(9)]
		if l.Deed.Kind != api.DeedConfig {
			l.Deed.Zxid = 1 + zxid%(1<<62)
		}
		l.Deed.Session, l.Deed.Xid = anyNumber(next), int(anyNumber(next))
	case api.LetPong:
		last := int64(0)
		for range []int{next(10), next(1001)}[next(2)] {
			last += 1 + int64(next(1000))
			l.Sessions = append(l.Sessions, last)
		}
	case api.LetAsk:
		l.Conn, l.Ask = count(), rightAsks()[next(15)]
		l.Ask.Session, l.Ask.Xid = anyNumber(next), int(anyNumber(next))
	case api.LetAttach:
		l.Conn, l.Ask = count(), api.Ask{Kind: api.AskOpen, Session: 1 + anyNumber(next), Last: zxid, Timeout: 1 + next(1000)}
	case api.LetAttached:
		l.Conn, l.Zxid, l.Err = count(), zxid, api.Errno(next(100001))
	}
	return l
}

func TestLettersThatArePutAreGot(t *testing.T) {
	next := testkit.Walk()
	for range 10000 {
		l := anyLetter(next)
		if !check(t, l) {
			t.Errorf("%s is not right", short(l))
		}
		b, _ := letter.Put(l)
		if got, errno := letter.Get(b); errno != api.OK || !same(got, l) {
			t.Errorf("%s: %s: %s, %v", short(l), short(b), short(got), errno)
		}
	}
}

func TestBytesThatAreNearlyLetters(t *testing.T) {
	next := testkit.Walk()
	for range 300 {
		inner := slices.Concat(pieces(anyLetter(next))...)
		turnBytes(next, inner[:min(len(inner), 60)], func(b []byte) {
			if len(inner) > 60 {
				b = slices.Concat(b, inner[60:])
			}
			look(t, line(b).frame())
		})
	}
}

func TestTurnedBytes(t *testing.T) {
	for _, l := range eachKind() {
		eachTurn(modelBytes(l), func(b []byte) { checkNone(t, "a byte is turned", b) })
	}
	long := modelBytes(api.Letter{Kind: api.LetSnap, Bytes: make([]byte, 1<<20-100)})
	for _, i := range []int{0, 2, 3, 4, 7, 8, 9, 1 << 19, len(long) - 1} {
		other := slices.Clone(long)
		other[i] ^= 16
		checkNone(t, "a byte of a long one is turned", other)
	}
}

// R3

func TestLettersHandedInStayAsTheyAre(t *testing.T) {
	wrong := eachKind()
	for i := range wrong {
		wrong[i].Leader += 8
	}
	for _, l := range append(eachKind(), wrong...) {
		given := roomy(l)
		b, _ := letter.Put(given)
		spoil(b)
		checkRoom(t, given, l)
	}
	for _, l := range eachKind() {
		b := roomy(modelBytes(l))
		got, _ := letter.Get(b)
		spoil(got)
		checkRoom(t, b, modelBytes(l))
		letter.Get(b[:len(b)-1])
		checkRoom(t, b, modelBytes(l))
	}
}

func TestLettersAreNotKept(t *testing.T) {
	for _, l := range eachKind() {
		given := roomy(l)
		b, _ := letter.Put(given)
		spoil(given)
		if !bytes.Equal(b, modelBytes(l)) {
			t.Errorf("Put's bytes of kind %d hang on what was put", l.Kind)
		}
		got, _ := letter.Get(b)
		spoil(b)
		if !same(got, l) {
			t.Errorf("Get's letter of kind %d hangs on its bytes", l.Kind)
		}
	}
}

func TestAnswersOfLettersShareNothing(t *testing.T) {
	for _, l := range eachKind() {
		one, _ := letter.Put(l)
		other, _ := letter.Put(l)
		spoil(one)
		if !bytes.Equal(other, modelBytes(l)) {
			t.Errorf("Put's answers of kind %d share memory", l.Kind)
		}
		first, _ := letter.Get(other)
		second, _ := letter.Get(other)
		spoil(first)
		if !same(second, l) {
			t.Errorf("Get's answers of kind %d share memory", l.Kind)
		}
		check(t, l)
		checkApart(t, second)
	}
}
