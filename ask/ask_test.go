package ask_test

import (
	"bytes"
	"fmt"
	"math"
	"reflect"
	"slices"
	"strings"
	"testing"

	"beadle/api"
	"beadle/ask"
	"beadle/testkit"
)

// named: by the names of its fields, what the chapter's table says of each kind, and whether it is so.
func named(a api.Ask) map[string]bool {
	path := len(a.Path) <= 220
	data := len(a.Data) <= 1000
	switch a.Kind {
	case 1:
		return map[string]bool{"Last": a.Last >= 0, "Timeout": a.Timeout >= 1 && a.Timeout <= 1000}
	case 2, 10, 13:
		return map[string]bool{}
	case 3:
		return map[string]bool{"Path": path, "Data": data, "Flags": a.Flags >= 0 && a.Flags <= 3}
	case 4, 6:
		return map[string]bool{"Path": path, "Version": a.Version >= -1}
	case 5:
		return map[string]bool{"Path": path, "Data": data, "Version": a.Version >= -1}
	case 7, 8, 9:
		return map[string]bool{"Path": path, "Watch": true}
	case 11:
		return map[string]bool{"Parts": len(a.Parts) >= 1 && len(a.Parts) <= 16 && !slices.ContainsFunc(a.Parts, notPart)}
	case 12:
		return map[string]bool{"From": a.From >= 0, "Members": len(a.Members) <= 7}
	case 14:
		return map[string]bool{"Path": path, "Sort": a.Sort >= 1 && a.Sort <= 3, "Last": a.Last >= 0}
	}
	return nil
}

func notPart(a api.Ask) bool {
	return a.Kind < 3 || a.Kind > 6 || a.Xid != 0 || a.Session != 0 || a.Turn != 0 || !modelFields(a)
}

// modelFields: each field by its name is as the table says, or else zero.
func modelFields(a api.Ask) bool {
	table := named(a)
	v := reflect.ValueOf(a)
	for i := range v.NumField() {
		name := v.Type().Field(i).Name
		if slices.Contains([]string{"Kind", "Xid", "Session", "Turn"}, name) {
			continue
		}
		if fits, there := table[name]; there && !fits || !there && !isNothing(v.Field(i)) {
			return false
		}
	}
	return table != nil
}

func modelRight(a api.Ask) bool {
	return a.Kind != 6 && a.Xid >= 0 && a.Session >= 0 && a.Turn >= 0 && modelFields(a)
}

func (l line) body(a api.Ask) line {
	switch a.Kind {
	case api.AskOpen:
		return l.int(int64(a.Last), int64(a.Timeout))
	case api.AskCreate:
		return l.text(a.Path).text(string(a.Data)).int(int64(a.Flags))
	case api.AskDelete, api.AskCheck:
		return l.text(a.Path).int(int64(a.Version))
	case api.AskSet:
		return l.text(a.Path).text(string(a.Data)).int(int64(a.Version))
	case api.AskGet, api.AskExists, api.AskList:
		if a.Watch {
			return l.text(a.Path).byte(1)
		}
		return l.text(a.Path).byte(0)
	case api.AskMulti:
		l = l.int(int64(len(a.Parts)))
		for _, part := range a.Parts {
			l = l.byte(int(part.Kind)).body(part)
		}
		return l
	case api.AskConfig:
		return l.int(int64(a.From)).members(a.Members)
	case api.AskWatch:
		return l.text(a.Path).byte(int(a.Sort)).int(int64(a.Last))
	}
	return l
}

// modelBytes: of calls that are not right, too: what their bytes would be.
func modelBytes(a api.Ask) []byte {
	return line{}.byte(int(a.Kind)).int(int64(a.Xid), a.Session, int64(a.Turn)).body(a)
}

// check holds Right, PutAsk and, of the bytes that a has or would have, GetAsk against the model; it tells whether a is right.
func check(t *testing.T, a api.Ask) bool {
	t.Helper()
	right := modelRight(a)
	if got := ask.Right(a); got != right {
		t.Errorf("Right(%s): %v, want %v", short(a), got, right)
	}
	b, errno := ask.PutAsk(a)
	if !right {
		if errno != api.ErrShape || len(b) != 0 {
			t.Errorf("PutAsk(%s): %x, %v", short(a), b, errno)
		}
		return false
	}
	want := modelBytes(a)
	if errno != api.OK || !bytes.Equal(b, want) {
		t.Errorf("PutAsk(%s): %x, %v, want %x", short(a), b, errno, want)
	}
	checkGet(t, want, a)
	return true
}

func checkGet(t *testing.T, b []byte, want api.Ask) {
	t.Helper()
	if got, errno := ask.GetAsk(b); errno != api.OK || !same(got, want) {
		t.Errorf("GetAsk(%s): %s, %v, want %s", short(b), short(got), errno, short(want))
	}
}

// checkNone: an error, and nothing beside it.
func checkNone(t *testing.T, what string, b []byte) {
	t.Helper()
	if got, errno := ask.GetAsk(b); errno != api.ErrShape || !same(got, api.Ask{}) {
		t.Errorf("%s: GetAsk(%s): %s, %v", what, short(b), short(got), errno)
	}
}

// look: whatever b is, only a right call is told of it, and only that whose bytes it is.
func look(t *testing.T, b []byte) {
	t.Helper()
	got, errno := ask.GetAsk(b)
	if errno != api.OK {
		checkNone(t, "no call", b)
	} else if !modelRight(got) || !bytes.Equal(modelBytes(got), b) {
		t.Errorf("GetAsk(%s): %s", short(b), short(got))
	}
}

// eachKind: a right call of each kind, with as little as may be, and one with all that it may have.
func eachKind() []api.Ask {
	full := bytes.Repeat([]byte{0xff}, 1000)
	return []api.Ask{
		{Kind: api.AskOpen, Timeout: 1},
		{Kind: api.AskClose},
		{Kind: api.AskCreate},
		{Kind: api.AskDelete},
		{Kind: api.AskSet},
		{Kind: api.AskGet},
		{Kind: api.AskExists},
		{Kind: api.AskList},
		{Kind: api.AskSync},
		{Kind: api.AskMulti, Parts: []api.Ask{{Kind: api.AskCheck}}},
		{Kind: api.AskConfig},
		{Kind: api.AskPing},
		{Kind: api.AskWatch, Sort: 1},
		{Kind: api.AskOpen, Xid: math.MaxInt, Session: math.MaxInt64, Turn: math.MaxInt, Last: math.MaxInt64, Timeout: 1000},
		{Kind: api.AskClose, Xid: 3, Session: 4, Turn: 5},
		{Kind: api.AskCreate, Xid: 3, Session: 4, Turn: 5, Path: longest, Data: full, Flags: 3},
		{Kind: api.AskDelete, Xid: 3, Session: 4, Turn: 5, Path: longest, Version: math.MaxInt},
		{Kind: api.AskSet, Xid: 3, Session: 4, Turn: 5, Path: "/a/b", Data: []byte{0, 1, 255}, Version: -1},
		{Kind: api.AskGet, Xid: 64, Session: 65, Turn: 66, Path: "/a", Watch: true},
		{Kind: api.AskExists, Xid: 1, Session: 2, Turn: 3, Path: longest, Watch: true},
		{Kind: api.AskList, Xid: 1, Session: 2, Turn: 3, Path: "\x00\xff", Watch: true},
		{Kind: api.AskSync, Xid: 1, Session: 2, Turn: 3},
		{Kind: api.AskMulti, Xid: 1, Session: 2, Turn: 3, Parts: []api.Ask{
			{Kind: api.AskCreate, Path: "/a", Data: []byte("xyz"), Flags: 2},
			{Kind: api.AskDelete, Path: "/b", Version: -1},
			{Kind: api.AskSet, Path: "/a", Data: full, Version: 7},
			{Kind: api.AskCheck, Path: longest, Version: math.MaxInt},
			{Kind: api.AskSet, Path: "a b", Data: []byte("q"), Version: 8},
		}},
		{Kind: api.AskConfig, Xid: 1, Session: 2, Turn: 3, From: math.MaxInt64, Members: strangers()[:7]},
		{Kind: api.AskPing, Xid: 1, Session: 2, Turn: 3},
		{Kind: api.AskWatch, Xid: 1, Session: 2, Turn: 3, Path: longest, Sort: 3, Last: math.MaxInt64},
	}
}

// strangers: eight members, most of which no config may have.
func strangers() []api.Member {
	return []api.Member{
		{Id: 1, Role: api.Voter, Weight: 1, Group: 2},
		{},
		{Id: -1, Role: 3, Weight: -5, Group: -6},
		{Id: math.MaxInt, Role: 255, Weight: math.MaxInt, Group: math.MaxInt},
		{Id: math.MinInt, Role: 128, Weight: math.MinInt, Group: math.MinInt},
		{Id: 1, Role: api.Observer, Weight: 1001, Group: 7},
		{Id: 8},
		{Id: 7, Role: api.Voter},
	}
}

// values of the calls' fields: their edges, and what lies beyond them.
func values() map[string][]any {
	return map[string][]any{
		"Path":    {"", "/", "/a", "a b", "//", "\x00\xff", strings.Repeat("/", 200), strings.Repeat("x", 219), longest, longest + "x", strings.Repeat("x", 1000)},
		"Data":    {[]byte{}, []byte{0}, make([]byte, 999), make([]byte, 1000), make([]byte, 1001)},
		"Flags":   {math.MinInt, -1, 0, 1, 2, 3, 4, 256, 1 << 32, math.MaxInt},
		"Version": {math.MinInt, -2, -1, 0, 1, math.MaxInt},
		"Watch":   {false, true},
		"Sort":    {api.WatchSort(0), api.WatchSort(1), api.WatchSort(2), api.WatchSort(3), api.WatchSort(4), api.WatchSort(255)},
		"Last":    {api.Zxid(math.MinInt64), api.Zxid(-1), api.Zxid(0), api.Zxid(1), api.Zxid(math.MaxInt64)},
		"Timeout": {math.MinInt, -1, 0, 1, 2, 999, 1000, 1001, 1<<32 + 1, math.MaxInt},
		"From":    {api.Zxid(math.MinInt64), api.Zxid(-1), api.Zxid(0), api.Zxid(1), api.Zxid(math.MaxInt64)},
		"Members": {[]api.Member{}, strangers()[:1], strangers()[1:2], strangers()[:7], strangers(), slices.Repeat(strangers(), 3)},
		"Parts":   rowsOfParts(),
	}
}

func rowsOfParts() []any {
	create := api.Ask{Kind: api.AskCreate, Path: "/a"}
	out := []any{[]api.Ask{}}
	for _, n := range []int{1, 2, 15, 16, 17, 18, 500} {
		out = append(out, slices.Repeat([]api.Ask{create}, n))
	}
	for kind := range 17 {
		out = append(out, []api.Ask{{Kind: api.AskKind(kind)}}, []api.Ask{create, {Kind: api.AskKind(kind)}})
	}
	for _, a := range eachKind() {
		a.Xid, a.Session, a.Turn = 0, 0, 0
		out = append(out, []api.Ask{a}, []api.Ask{create, a})
	}
	return append(out,
		[]api.Ask{{Kind: 255}},
		[]api.Ask{{Kind: api.AskDelete, Xid: 1}},
		[]api.Ask{{Kind: api.AskDelete, Session: 1}},
		[]api.Ask{{Kind: api.AskDelete, Turn: 1}},
		[]api.Ask{{Kind: api.AskDelete, Xid: -1}},
		[]api.Ask{create, {Kind: api.AskDelete, Session: -1}},
		[]api.Ask{{Kind: api.AskDelete, Turn: -1}, create},
		[]api.Ask{{Kind: api.AskDelete, Parts: []api.Ask{create}}},
		[]api.Ask{create, {Kind: api.AskMulti, Parts: []api.Ask{{Kind: api.AskMulti, Parts: []api.Ask{create}}}}},
	)
}

// strange: each field by itself set to each of its values.
func strange() []func(*api.Ask) {
	var out []func(*api.Ask)
	table := values()
	for i := range reflect.TypeFor[api.Ask]().NumField() {
		for _, x := range table[reflect.TypeFor[api.Ask]().Field(i).Name] {
			out = append(out, func(a *api.Ask) { reflect.ValueOf(a).Elem().Field(i).Set(reflect.ValueOf(x)) })
		}
	}
	return out
}

func TestAllFieldsHaveStrangeValues(t *testing.T) {
	table := values()
	for i := range reflect.TypeFor[api.Ask]().NumField() {
		name := reflect.TypeFor[api.Ask]().Field(i).Name
		if i > 3 && len(table[name]) == 0 {
			t.Errorf("%s has none", name)
		}
	}
}

// P6.1

func TestExamplesOfRight(t *testing.T) {
	for _, a := range []api.Ask{
		{Kind: api.AskPing},
		{Kind: api.AskGet, Path: "a b", Watch: true},
		{Kind: api.AskOpen, Timeout: 1},
		{Kind: api.AskConfig},
	} {
		if !ask.Right(a) || !check(t, a) {
			t.Errorf("%s is not right", short(a))
		}
	}
	for _, a := range []api.Ask{
		{},
		{Kind: api.AskCheck, Path: "/a"},
		{Kind: api.AskOpen},
		{Kind: api.AskDelete, Path: "/a", Version: -2},
		{Kind: api.AskMulti},
		{Kind: api.AskPing, Path: "/a"},
		{Kind: api.AskPing, Watch: true},
		{Kind: api.AskCreate, Path: "/a", Watch: true},
		{Kind: api.AskGet, Path: "/a", Sort: 1},
		{Kind: api.AskWatch, Path: "/a", Sort: 4},
		{Kind: api.AskWatch, Path: "/a", Sort: 1, Last: -1},
		{Kind: api.AskConfig, Members: make([]api.Member, 8)},
		{Kind: 15},
	} {
		if ask.Right(a) || check(t, a) {
			t.Errorf("%s is right", short(a))
		}
	}
}

func TestEachKind(t *testing.T) {
	for _, a := range eachKind() {
		if !check(t, a) {
			t.Errorf("%s is not right", short(a))
		}
	}
	for kind := range 256 {
		for _, a := range append(eachKind(), api.Ask{}) {
			a.Kind = api.AskKind(kind)
			check(t, a)
		}
		bare := slices.Contains([]int{2, 3, 4, 5, 7, 8, 9, 10, 12, 13}, kind)
		if got := ask.Right(api.Ask{Kind: api.AskKind(kind)}); got != bare {
			t.Errorf("a call of kind %d without fields: %v", kind, got)
		}
	}
}

func TestWhoseCallItIs(t *testing.T) {
	for _, a := range eachKind() {
		for _, n := range []int64{math.MinInt64, -1 << 32, -2, -1, 0, 1, 1 << 31, 1 << 32, math.MaxInt64} {
			for _, set := range []func(*api.Ask){
				func(a *api.Ask) { a.Xid = int(n) },
				func(a *api.Ask) { a.Session = n },
				func(a *api.Ask) { a.Turn = int(n) },
			} {
				other := a
				set(&other)
				if check(t, other) != (n >= 0) {
					t.Errorf("%s", short(other))
				}
			}
		}
	}
}

func TestEachFieldOfEachKind(t *testing.T) {
	sets := strange()
	for kind := range 16 {
		base := []api.Ask{{Kind: api.AskKind(kind)}}
		for _, a := range eachKind() {
			if a.Kind == base[0].Kind {
				base = append(base, a)
			}
		}
		for _, a := range base {
			for _, set := range sets {
				other := a
				set(&other)
				check(t, other)
			}
		}
	}
}

func TestTwoFieldsOfEachKind(t *testing.T) {
	for _, a := range eachKind()[:13] {
		for i, one := range strange() {
			for j, two := range strange() {
				if (i+j)%3 > 0 {
					continue
				}
				other := a
				one(&other)
				two(&other)
				check(t, other)
			}
		}
	}
}

func TestEachFieldOfParts(t *testing.T) {
	for kind := range 16 {
		for _, set := range strange() {
			part := api.Ask{Kind: api.AskKind(kind), Path: "/a"}
			set(&part)
			good := api.Ask{Kind: api.AskSet, Path: "/b"}
			check(t, api.Ask{Kind: api.AskMulti, Parts: []api.Ask{part}})
			check(t, api.Ask{Kind: api.AskMulti, Parts: []api.Ask{part, good}})
			check(t, api.Ask{Kind: api.AskMulti, Parts: append(slices.Repeat([]api.Ask{good}, 15), part)})
			check(t, api.Ask{Kind: api.AskConfig, Parts: []api.Ask{part}})
		}
	}
}

// Parts may lie in themselves, or very deep: no call goes into them without end.
func TestPartsWithinParts(t *testing.T) {
	ring := []api.Ask{{Kind: api.AskMulti}}
	ring[0].Parts = ring
	deep := []api.Ask{{Kind: api.AskDelete}}
	for range 1 << 20 {
		deep = []api.Ask{{Kind: api.AskMulti, Parts: deep}}
	}
	for _, parts := range [][]api.Ask{ring, deep} {
		for kind := range 16 {
			for _, a := range []api.Ask{{Kind: api.AskKind(kind), Parts: parts}, {Kind: api.AskMulti, Parts: []api.Ask{{Kind: api.AskKind(kind), Parts: parts}}}} {
				if ask.Right(a) {
					t.Errorf("kind %d: right", kind)
				}
				if b, errno := ask.PutAsk(a); errno != api.ErrShape || len(b) != 0 {
					t.Errorf("kind %d: %x, %v", kind, b, errno)
				}
			}
		}
	}
}

// P6.2

func TestBytesOfCalls(t *testing.T) {
	for _, x := range []struct {
		a    api.Ask
		want []byte
	}{
		{api.Ask{Kind: api.AskDelete, Xid: 3, Path: "/a", Version: -1}, []byte{4, 6, 0, 0, 4, '/', 'a', 1}},
		{api.Ask{Kind: api.AskOpen, Xid: 1, Session: 2, Turn: 3, Last: 4, Timeout: 5}, []byte{1, 2, 4, 6, 8, 10}},
		{api.Ask{Kind: api.AskClose, Xid: 64}, []byte{2, 0x80, 1, 0, 0}},
		{api.Ask{Kind: api.AskCreate, Path: "/", Data: []byte{7, 8}, Flags: 3}, []byte{3, 0, 0, 0, 2, '/', 4, 7, 8, 6}},
		{api.Ask{Kind: api.AskSet, Path: "", Data: []byte{9}, Version: 2}, []byte{5, 0, 0, 0, 0, 2, 9, 4}},
		{api.Ask{Kind: api.AskGet, Path: "/a", Watch: true}, []byte{7, 0, 0, 0, 4, '/', 'a', 1}},
		{api.Ask{Kind: api.AskExists, Path: "/a"}, []byte{8, 0, 0, 0, 4, '/', 'a', 0}},
		{api.Ask{Kind: api.AskList, Path: "/a", Watch: true}, []byte{9, 0, 0, 0, 4, '/', 'a', 1}},
		{api.Ask{Kind: api.AskSync, Turn: 1}, []byte{10, 0, 0, 2}},
		{api.Ask{Kind: api.AskMulti, Parts: []api.Ask{{Kind: api.AskCheck, Path: "q", Version: 1}, {Kind: api.AskCreate}}}, []byte{11, 0, 0, 0, 4, 6, 2, 'q', 2, 3, 0, 0, 0}},
		{api.Ask{Kind: api.AskConfig, From: 1, Members: []api.Member{{Id: 2, Role: 3, Weight: -4, Group: 5}, {Role: 255}}}, []byte{12, 0, 0, 0, 2, 4, 4, 6, 7, 10, 0, 0xfe, 3, 0, 0}},
		{api.Ask{Kind: api.AskPing}, []byte{13, 0, 0, 0}},
		{api.Ask{Kind: api.AskWatch, Path: "/a", Sort: 3, Last: 5}, []byte{14, 0, 0, 0, 4, '/', 'a', 3, 10}},
	} {
		if b, errno := ask.PutAsk(x.a); errno != api.OK || !bytes.Equal(b, x.want) {
			t.Errorf("PutAsk(%s): %x, %v, want %x", short(x.a), b, errno, x.want)
		}
		checkGet(t, x.want, x.a)
		checkNone(t, "and a nought", append(slices.Clip(x.want), 0))
	}
}

// P6.5, of calls

// barely: a with what its kind has, and its parts so too.
func barely(a api.Ask) api.Ask {
	out := api.Ask{Kind: a.Kind, Xid: a.Xid, Session: a.Session, Turn: a.Turn}
	for name := range named(a) {
		reflect.ValueOf(&out).Elem().FieldByName(name).Set(reflect.ValueOf(a).FieldByName(name))
	}
	out.Parts = slices.Clone(out.Parts)
	for i, part := range out.Parts {
		part.Xid, part.Session, part.Turn = 0, 0, 0
		out.Parts[i] = barely(part)
	}
	return out
}

// The bytes that a call would have that is not right: of its shape, and yet none.
func TestBytesOfCallsThatAreNotRight(t *testing.T) {
	see := func(a api.Ask) {
		t.Helper()
		// The bytes hold what the kind has alone; what else stands in a is left out of them.
		b := modelBytes(a)
		if bare := barely(a); modelRight(bare) {
			checkGet(t, b, bare)
		} else {
			checkNone(t, short(a), b)
		}
	}
	for kind := range 17 {
		for _, a := range append(eachKind(), api.Ask{}) {
			a.Kind = api.AskKind(kind)
			see(a)
		}
		for _, set := range strange() {
			a := api.Ask{Kind: api.AskKind(kind)}
			set(&a)
			see(a)
			see(api.Ask{Kind: api.AskMulti, Parts: []api.Ask{a}})
			see(api.Ask{Kind: api.AskMulti, Parts: []api.Ask{{Kind: api.AskDelete}, a, {Kind: api.AskCheck}}})
		}
	}
	for _, a := range eachKind() {
		for _, n := range []int64{math.MinInt64, -1, 0, math.MaxInt64} {
			for _, set := range []func(*api.Ask){func(a *api.Ask) { a.Xid = int(n) }, func(a *api.Ask) { a.Session = n }, func(a *api.Ask) { a.Turn = int(n) }} {
				other := a
				set(&other)
				see(other)
			}
		}
		for _, set := range strange() {
			other := a
			set(&other)
			see(other)
		}
	}
}

func TestCallsThatEndTooSoonOrGoOn(t *testing.T) {
	checkNone(t, "nil", nil)
	checkNone(t, "nothing", []byte{})
	for _, a := range eachKind() {
		b := modelBytes(a)
		for end := range b {
			checkNone(t, "cut", b[:end:end])
			// What lies in the spare room is not of the row.
			checkNone(t, "cut, the rest in the spare room", b[:end])
		}
		for more := range 256 {
			checkNone(t, "one more", append(slices.Clip(b), byte(more)))
			if len(b) < 300 {
				look(t, append([]byte{byte(more)}, b...))
			}
		}
		checkNone(t, "twice", slices.Concat(b, b))
	}
}

func TestBytesForWatch(t *testing.T) {
	for kind := 7; kind <= 9; kind++ {
		for x := range 256 {
			b := line{}.byte(kind).int(0, 0, 0).text("/a").byte(x)
			if x > 1 {
				checkNone(t, "neither 0 nor 1", b)
			} else {
				checkGet(t, b, api.Ask{Kind: api.AskKind(kind), Path: "/a", Watch: x == 1})
			}
		}
	}
	for x := range 256 {
		b := line{}.byte(14).int(0, 0, 0).text("/a").byte(x).int(0)
		if x < 1 || x > 3 {
			checkNone(t, "no sort", b)
		} else {
			checkGet(t, b, api.Ask{Kind: 14, Path: "/a", Sort: api.WatchSort(x)})
		}
	}
}

func TestNumbersOfCallsWithNoughtsAhead(t *testing.T) {
	calls := eachKind()
	for _, a := range append(calls[:13:13], calls[21], calls[23], calls[24]) {
		b := modelBytes(a)
		for i := 1; i < len(b); i++ {
			if b[i] < 128 && b[i-1] < 128 && (b[i] < 0x20 || b[i] >= 0x7f) {
				what := fmt.Sprintf("kind %d, number at %d", a.Kind, i)
				checkNone(t, what, slices.Concat(b[:i], []byte{b[i] | 128, 0}, b[i+1:]))
				checkNone(t, what, slices.Concat(b[:i], []byte{b[i] | 128, 128, 128, 128, 128, 128, 128, 128, 128, 0}, b[i+1:]))
			}
		}
	}
}

func TestNumbersOfCallsBeyondTheirField(t *testing.T) {
	for _, a := range eachKind()[:13] {
		b := modelBytes(a)
		for i := 1; i < len(b); i++ {
			for _, n := range beyond() {
				checkNone(t, "beyond all numbers", slices.Concat(b[:i], n, b[i+1:]))
			}
		}
	}
	// Of which only the lowest bits would be right.
	for _, more := range []int64{1 << 8, 1 << 16, 1 << 31, 1 << 32, 1 << 62, -1 << 8, -1 << 32, math.MinInt64} {
		if more > 0 {
			checkNone(t, "timeout", line{1}.int(0, 0, 0, 0, 1000+more))
		} else {
			checkNone(t, "timeout", line{1}.int(0, 0, 0, 0, 1+more))
		}
		checkNone(t, "flags", line{3}.int(0, 0, 0).text("/a").text("").int(3+more))
		checkNone(t, "a path's length", append(line{4}.int(0, 0, 0, 2+more), '/', 'a', 0))
		checkNone(t, "data's length", append(line{3}.int(0, 0, 0).text("/a").int(2+more), 0, 0, 0))
		checkNone(t, "a role", line{12}.int(0, 0, 0, 0, 1, 1, 1+more, 1, 1))
		checkNone(t, "a role", line{12}.int(0, 0, 0, 0, 2, 1, 1, 1, 1, 2, 255+more, 0, 0))
		checkNone(t, "how many members", line{12}.int(0, 0, 0, 0, 1+more, 1, 1, 1, 1))
		checkNone(t, "how many parts", line{11}.int(0, 0, 0, 1+more).byte(4).text("/a").int(0))
		one := api.Member{Id: int(1 + more), Role: 1, Weight: int(2 + more), Group: int(3 + more)}
		checkGet(t, line{12}.int(0, 0, 0, 0, 1, 1+more, 1, 2+more, 3+more), api.Ask{Kind: api.AskConfig, Members: []api.Member{one}})
	}
	for role := int64(-3); role < 260; role++ {
		b := line{12}.int(0, 0, 0, 0, 1, 1, role, 1, 1)
		if role < 0 || role > 255 {
			checkNone(t, "no role", b)
		} else {
			checkGet(t, b, api.Ask{Kind: api.AskConfig, Members: []api.Member{{Id: 1, Role: api.Role(role), Weight: 1, Group: 1}}})
		}
	}
}

func TestHowManyMembersAndParts(t *testing.T) {
	for _, have := range []int{0, 1, 2, 6, 7, 8, 15, 16, 17, 18} {
		for _, said := range []int64{math.MinInt64, -17, -1, 0, 1, 2, 3, 6, 7, 8, 9, 15, 16, 17, 18, 19, 500, 1 << 20, 1 << 32, 1<<32 + 1, math.MaxInt64} {
			what := fmt.Sprintf("%d, said to be %d", have, said)
			parts := slices.Concat(line{11}.int(0, 0, 0, said), bytes.Repeat(line{}.byte(4).text("/a").int(3), have))
			if said == int64(have) && have >= 1 && have <= 16 {
				checkGet(t, parts, api.Ask{Kind: api.AskMulti, Parts: slices.Repeat([]api.Ask{{Kind: api.AskDelete, Path: "/a", Version: 3}}, have)})
			} else {
				checkNone(t, "parts: "+what, parts)
			}
			members := slices.Concat(line{12}.int(0, 0, 0, 5, said), bytes.Repeat(line{}.int(1, 2, 3, 4), have))
			if said == int64(have) && have <= 7 {
				checkGet(t, members, api.Ask{Kind: api.AskConfig, From: 5, Members: slices.Repeat([]api.Member{{Id: 1, Role: 2, Weight: 3, Group: 4}}, have)})
			} else {
				checkNone(t, "members: "+what, members)
			}
		}
	}
}

func TestBytesOfPartsWithinParts(t *testing.T) {
	head := line{11}.int(0, 0, 0, 1)
	inner := line{}.byte(6).text("/a").int(0)
	checkGet(t, slices.Concat(head, inner), api.Ask{Kind: api.AskMulti, Parts: []api.Ask{{Kind: api.AskCheck, Path: "/a"}}})
	checkNone(t, "a multi in a multi", slices.Concat(head, line{}.byte(11).int(1), inner))
	checkNone(t, "a multi without parts in a multi", slices.Concat(head, line{}.byte(11).int(0)))
	for _, other := range []line{line{}.byte(0), line{}.byte(1).int(0, 1), line{}.byte(2), line{}.byte(7).text("/a").byte(0), line{}.byte(8).text("/a").byte(1), line{}.byte(9).text("/a").byte(0), line{}.byte(10), line{}.byte(11), line{}.byte(12).int(0, 0), line{}.byte(13), line{}.byte(14).text("/a").byte(1).int(0), line{}.byte(15)} {
		checkNone(t, "a part of another kind", slices.Concat(head, other))
		checkNone(t, "a part of another kind", slices.Concat(line{11}.int(0, 0, 0, 2), inner, other))
		checkNone(t, "a part of another kind", slices.Concat(line{11}.int(0, 0, 0, 2), other, inner))
	}
	// Parts have no Xid, Session and Turn as bytes either.
	checkNone(t, "a part with a head", slices.Concat(head, line{}.byte(6).int(0, 0, 0).text("/a").int(0)))
	checkNone(t, "many deep", slices.Concat(line{11}.int(0, 0, 0, 1), bytes.Repeat([]byte{11, 2}, 1<<24), inner))
}

func TestOtherBytesAreOtherCalls(t *testing.T) {
	next := testkit.Walk()
	for range 120 {
		a := anyAsk(next)
		a.Parts = a.Parts[:min(len(a.Parts), 3)]
		turnBytes(next, modelBytes(a), func(b []byte) { look(t, b) })
	}
	for range 200000 {
		b := make([]byte, next(16))
		for i := range b {
			b[i] = []byte{0, 1, 2, 3, 4, 5, 6, 7, 8, 9, 10, 11, 12, 13, 14, '/', 'a', 128, byte(next(256))}[next(19)]
		}
		look(t, b)
	}
}

// P6.6, of calls

// anyAsk: a right one, of any kind.
func anyAsk(next func(int) int) api.Ask {
	a := anyFields(next, []api.AskKind{1, 2, 3, 4, 5, 7, 8, 9, 10, 11, 12, 13, 14}[next(13)])
	a.Xid, a.Session, a.Turn = int(anyNumber(next)), anyNumber(next), int(anyNumber(next))
	return a
}

func anyFields(next func(int) int, kind api.AskKind) api.Ask {
	a := api.Ask{Kind: kind}
	switch kind {
	case api.AskOpen:
		a.Last, a.Timeout = api.Zxid(anyNumber(next)), 1+next(1000)
	case api.AskCreate:
		a.Path, a.Data, a.Flags = anyText(next), anyData(next), next(4)
	case api.AskDelete, api.AskCheck:
		a.Path, a.Version = anyText(next), int(anyNumber(next))-1
	case api.AskSet:
		a.Path, a.Data, a.Version = anyText(next), anyData(next), int(anyNumber(next))-1
	case api.AskGet, api.AskExists, api.AskList:
		a.Path, a.Watch = anyText(next), next(2) == 1
	case api.AskMulti:
		for range 1 + next(16) {
			a.Parts = append(a.Parts, anyFields(next, api.AskKind(3+next(4))))
		}
	case api.AskConfig:
		a.From = api.Zxid(anyNumber(next))
		for range next(8) {
			a.Members = append(a.Members, api.Member{Id: int(anyNumber(next)) - 9, Role: api.Role(next(256)), Weight: -int(anyNumber(next)), Group: int(anyNumber(next))})
		}
	case api.AskWatch:
		a.Path, a.Sort, a.Last = anyText(next), api.WatchSort(1+next(3)), api.Zxid(anyNumber(next))
	}
	return a
}

func TestCallsThatArePutAreGot(t *testing.T) {
	next := testkit.Walk()
	for range 20000 {
		a := anyAsk(next)
		if !check(t, a) {
			t.Errorf("%s is not right", short(a))
		}
		b, _ := ask.PutAsk(a)
		if got, errno := ask.GetAsk(b); errno != api.OK || !same(got, a) {
			t.Errorf("%s: %x: %s, %v", short(a), b, short(got), errno)
		}
	}
}

func TestLongestCall(t *testing.T) {
	part := api.Ask{Kind: api.AskSet, Path: longest, Data: make([]byte, 1000), Version: math.MaxInt}
	a := api.Ask{Kind: api.AskMulti, Xid: math.MaxInt, Session: math.MaxInt64, Turn: math.MaxInt, Parts: slices.Repeat([]api.Ask{part}, 16)}
	b, errno := ask.PutAsk(a)
	if errno != api.OK || len(b) > 1<<20 || len(b) < 16*1220 {
		t.Errorf("%d bytes, %v", len(b), errno)
	}
	check(t, a)
}

// R3, of calls

func TestCallsHandedInStayAsTheyAre(t *testing.T) {
	wrong := eachKind()
	for i := range wrong {
		wrong[i].Flags += 4
	}
	for _, a := range append(eachKind(), wrong...) {
		given := roomy(a)
		ask.Right(given)
		b, _ := ask.PutAsk(given)
		spoil(b)
		checkRoom(t, given, a)
		spoil(given)
	}
	for _, a := range eachKind() {
		b := roomy(modelBytes(a))
		got, _ := ask.GetAsk(b)
		spoil(got)
		checkRoom(t, b, modelBytes(a))
		ask.GetAsk(b[:len(b)-1])
		checkRoom(t, b, modelBytes(a))
	}
}

func TestCallsAreNotKept(t *testing.T) {
	for _, a := range eachKind() {
		given := roomy(a)
		b, _ := ask.PutAsk(given)
		spoil(given)
		if !bytes.Equal(b, modelBytes(a)) {
			t.Errorf("PutAsk's bytes of kind %d hang on what was put", a.Kind)
		}
		got, _ := ask.GetAsk(b)
		spoil(b)
		if !same(got, a) {
			t.Errorf("GetAsk's call of kind %d hangs on its bytes", a.Kind)
		}
	}
}

func TestAnswersOfCallsShareNothing(t *testing.T) {
	for _, a := range eachKind() {
		one, _ := ask.PutAsk(a)
		other, _ := ask.PutAsk(a)
		spoil(one)
		if !bytes.Equal(other, modelBytes(a)) {
			t.Errorf("PutAsk's answers of kind %d share memory", a.Kind)
		}
		first, _ := ask.GetAsk(other)
		second, _ := ask.GetAsk(other)
		spoil(first)
		if !same(second, a) {
			t.Errorf("GetAsk's answers of kind %d share memory", a.Kind)
		}
		check(t, a)
		checkApart(t, second)
	}
}
