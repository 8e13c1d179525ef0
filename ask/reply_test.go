package ask_test

import (
	"bytes"
	"fmt"
	"math"
	"reflect"
	"slices"
	"strings"
	"testing"

	"beadle/api"
	"beadle/ask"
	"beadle/testkit"
)

func modelConfig(e api.Ensemble) bool {
	heavy := false
	for i, m := range e.Members {
		if m.Id < 1 || m.Id > 7 || i > 0 && m.Id <= e.Members[i-1].Id || m.Role < 1 || m.Role > 2 {
			return false
		}
		if m.Weight < 0 || m.Weight > 1000 || m.Group < 0 || m.Group > 6 || m.Role == 2 && (m.Weight != 0 || m.Group != 0) {
			return false
		}
		heavy = heavy || m.Weight > 0
	}
	return heavy && len(e.Members) <= 7 && e.Version >= 0 && e.Version <= 4611686018427387904
}

// rightReply: the chapter's words, the numbers found by going through all fields.
func rightReply(r api.Reply) bool {
	for _, v := range []reflect.Value{reflect.ValueOf(r), reflect.ValueOf(r.Stat)} {
		for i := range v.NumField() {
			if f := v.Field(i); f.CanInt() && f.Int() < 0 {
				return false
			}
		}
	}
	long := func(s string) bool { return len(s) > 220 }
	switch {
	case r.Kind < 1 || r.Kind > 14:
	case r.Timeout > 1000:
	case long(r.Path) || len(r.Data) > 1000 || len(r.List) > 500 || slices.ContainsFunc(r.List, long):
	case !(r.Config.Version == 0 && len(r.Config.Members) == 0 || modelConfig(r.Config)):
	case len(r.Parts) > 16:
	case slices.ContainsFunc(r.Parts, func(p api.Reply) bool { return len(p.Parts) > 0 || len(p.List) > 0 || !rightReply(p) }):
	default:
		return true
	}
	return false
}

func replyBytes(r api.Reply) line {
	l := line{}.byte(int(r.Kind)).int(int64(r.Xid), int64(r.Zxid), int64(r.Err), r.Session, int64(r.Timeout)).text(r.Path).text(string(r.Data))
	s := r.Stat
	l = l.int(int64(s.Czxid), int64(s.Mzxid), int64(s.Pzxid), s.Ctime, s.Mtime, int64(s.Version), int64(s.Cversion), s.Owner, int64(s.Length), int64(s.Children))
	l = l.int(int64(len(r.List)))
	for _, text := range r.List {
		l = l.text(text)
	}
	if r.Config.Version == 0 && len(r.Config.Members) == 0 {
		l = l.text("")
	} else {
		l = l.text(string(configBytes(r.Config)))
	}
	l = l.int(int64(len(r.Parts)))
	for _, part := range r.Parts {
		l = append(l, replyBytes(part)...)
	}
	return l
}

func configBytes(e api.Ensemble) line { return line{}.int(int64(e.Version)).members(e.Members) }

func checkReply(t *testing.T, r api.Reply) bool {
	t.Helper()
	right := rightReply(r)
	b, errno := ask.PutReply(r)
	want := replyBytes(r)
	if !right {
		if errno != api.ErrShape || len(b) != 0 {
			t.Errorf("PutReply(%s): %s, %v", short(r), short(b), errno)
		}
		noReply(t, "not right", want)
		return false
	}
	if errno != api.OK || !bytes.Equal(b, want) {
		t.Errorf("PutReply(%s): %s, %v, want %s", short(r), short(b), errno, short([]byte(want)))
	}
	getReply(t, want, r)
	return true
}

func getReply(t *testing.T, b []byte, want api.Reply) {
	t.Helper()
	if got, errno := ask.GetReply(b); errno != api.OK || !same(got, want) {
		t.Errorf("GetReply(%s): %s, %v, want %s", short(b), short(got), errno, short(want))
	}
}

func noReply(t *testing.T, what string, b []byte) {
	t.Helper()
	if got, errno := ask.GetReply(b); errno != api.ErrShape || !same(got, api.Reply{}) {
		t.Errorf("%s: GetReply(%s): %s, %v", what, short(b), short(got), errno)
	}
}

// lookReply: whatever b is, only a right reply is told of it, and only that whose bytes it is.
func lookReply(t *testing.T, b []byte) {
	t.Helper()
	got, errno := ask.GetReply(b)
	if errno != api.OK {
		noReply(t, "no reply", b)
	} else if !rightReply(got) || !bytes.Equal(replyBytes(got), b) {
		t.Errorf("GetReply(%s): %s", short(b), short(got))
	}
}

func config(version api.Zxid) api.Ensemble {
	return api.Ensemble{Version: version, Members: []api.Member{{Id: 1, Role: api.Voter, Weight: 1}, {Id: 4, Role: api.Observer}, {Id: 7, Role: api.Voter, Weight: 1000, Group: 6}}}
}

func fullStat() api.Stat {
	return api.Stat{Czxid: 1, Mzxid: 2, Pzxid: 3, Ctime: 4, Mtime: 5, Version: 6, Cversion: 7, Owner: 8, Length: 9, Children: 10}
}

// replies: right ones.
func replies() []api.Reply {
	full := api.Reply{Kind: 9, Xid: 11, Zxid: 12, Err: 13, Session: 14, Timeout: 15, Path: "/a", Data: []byte("xyz"), Stat: fullStat(), Config: config(16)}
	out := []api.Reply{full}
	full.List = []string{"a", "", "b c", "\x00\xff"}
	full.Parts = []api.Reply{{Kind: 3, Path: "/a"}, {Kind: 4, Xid: 1, Data: []byte("q"), Stat: fullStat(), Config: config(0)}, {Kind: 6, Err: 212}}
	out = append(out, full, api.Reply{Kind: 14, Data: make([]byte, 1000), Path: longest, Config: config(1 << 62), Timeout: 1000, Stat: api.Stat{Czxid: math.MaxInt64, Mzxid: math.MaxInt64, Pzxid: math.MaxInt64, Ctime: math.MaxInt64, Mtime: math.MaxInt64, Version: math.MaxInt, Cversion: math.MaxInt, Owner: math.MaxInt64, Length: math.MaxInt, Children: math.MaxInt}})
	for kind := range 14 {
		out = append(out, api.Reply{Kind: api.AskKind(kind + 1)})
	}
	return out
}

// strangeReplies: each field by itself set to its edges and beyond them.
func strangeReplies() []func(*api.Reply) {
	var out []func(*api.Reply)
	set := func(do func(*api.Reply)) { out = append(out, do) }
	for _, n := range []int64{math.MinInt64, -1 << 32, -1, 0, 1, 1000, 1001, 1 << 32, math.MaxInt64} {
		for i := range reflect.TypeFor[api.Reply]().NumField() {
			if reflect.Zero(reflect.TypeFor[api.Reply]().Field(i).Type).CanInt() {
				set(func(r *api.Reply) { reflect.ValueOf(r).Elem().Field(i).SetInt(n) })
			}
		}
		for i := range reflect.TypeFor[api.Stat]().NumField() {
			set(func(r *api.Reply) { reflect.ValueOf(&r.Stat).Elem().Field(i).SetInt(n) })
		}
		set(func(r *api.Reply) { r.Config.Version = api.Zxid(n) })
		set(func(r *api.Reply) { r.Config = config(api.Zxid(n)) })
	}
	for _, n := range []int{0, 1, 2, 14, 15, 16, 128, 255} {
		set(func(r *api.Reply) { r.Kind = api.AskKind(n) })
	}
	for _, text := range []string{"", "/", "a b", "\x00\xff", longest, longest + "x", strings.Repeat("x", 1000)} {
		set(func(r *api.Reply) { r.Path = text })
		set(func(r *api.Reply) { r.List = []string{text} })
		set(func(r *api.Reply) { r.List = []string{"a", text, "b"} })
	}
	for _, n := range []int{0, 1, 999, 1000, 1001} {
		set(func(r *api.Reply) { r.Data = make([]byte, n) })
	}
	for _, n := range []int{0, 1, 499, 500, 501, 600} {
		set(func(r *api.Reply) { r.List = slices.Repeat([]string{"ab"}, n) })
	}
	for i := range strangers() {
		set(func(r *api.Reply) { r.Config = api.Ensemble{Members: strangers()[i : i+1]} })
		set(func(r *api.Reply) { r.Config = api.Ensemble{Members: strangers()[:i+1]} })
	}
	for _, e := range []api.Ensemble{{}, {Members: []api.Member{}}, {Version: 1, Members: []api.Member{}}, {Version: 1<<62 + 1, Members: config(1).Members}} {
		set(func(r *api.Reply) { r.Config = e })
	}
	return out
}

// strangeParts: rows of parts that may be, and that may not.
func strangeParts() [][]api.Reply {
	var out [][]api.Reply
	for _, n := range []int{0, 1, 15, 16, 17, 100} {
		out = append(out, slices.Repeat([]api.Reply{{Kind: 3}}, n))
	}
	for _, part := range replies() {
		out = append(out, []api.Reply{part}, []api.Reply{{Kind: 3}, part})
	}
	for _, set := range strangeReplies() {
		part := api.Reply{Kind: 5, Path: "/a"}
		set(&part)
		out = append(out, []api.Reply{part}, []api.Reply{{Kind: 3}, part, {Kind: 4}}, append(slices.Repeat([]api.Reply{{Kind: 3}}, 15), part))
	}
	return append(out, []api.Reply{{}}, []api.Reply{{Kind: 3, List: []string{""}}}, []api.Reply{{Kind: 11, Parts: []api.Reply{{Kind: 3}}}}, []api.Reply{{Kind: 3}, {Kind: 11, Parts: []api.Reply{{Kind: 11, Parts: []api.Reply{{Kind: 3}}}}}})
}

// P6.3

func TestReplies(t *testing.T) {
	for _, r := range replies() {
		if !checkReply(t, r) {
			t.Errorf("%s is not right", short(r))
		}
	}
	for kind := range 256 {
		if got := checkReply(t, api.Reply{Kind: api.AskKind(kind)}); got != (kind >= 1 && kind <= 14) {
			t.Errorf("a reply of kind %d: %v", kind, got)
		}
	}
}

func TestEachFieldOfReplies(t *testing.T) {
	for _, r := range replies() {
		for _, set := range strangeReplies() {
			other := r
			set(&other)
			checkReply(t, other)
		}
	}
}

func TestTwoFieldsOfReplies(t *testing.T) {
	for i, one := range strangeReplies() {
		for j, two := range strangeReplies() {
			if (i+j)%3 > 0 {
				continue
			}
			r := api.Reply{Kind: 7}
			one(&r)
			two(&r)
			checkReply(t, r)
		}
	}
}

func TestPartsOfReplies(t *testing.T) {
	for _, parts := range strangeParts() {
		for _, r := range []api.Reply{{Kind: 11}, {Kind: 1}, replies()[1]} {
			r.Parts = parts
			checkReply(t, r)
		}
	}
	ring := []api.Reply{{Kind: 11}}
	ring[0].Parts = ring
	for _, r := range []api.Reply{{Kind: 11, Parts: ring}, {Kind: 3, Parts: []api.Reply{{Kind: 3}, {Kind: 4, Parts: ring}}}} {
		if b, errno := ask.PutReply(r); errno != api.ErrShape || len(b) != 0 {
			t.Errorf("parts in themselves: %x, %v", b, errno)
		}
	}
}

func TestBytesOfReplies(t *testing.T) {
	for _, x := range []struct {
		r    api.Reply
		want []byte
	}{
		{api.Reply{Kind: 1}, []byte{1, 0, 0, 0, 0, 0, 0, 0, 0, 0, 0, 0, 0, 0, 0, 0, 0, 0, 0, 0, 0}},
		{
			api.Reply{Kind: 9, Xid: 1, Zxid: 2, Err: 3, Session: 4, Timeout: 5, Path: "p", Data: []byte{7}, Stat: api.Stat{Czxid: 11, Mzxid: 12, Pzxid: 13, Ctime: 14, Mtime: 15, Version: 16, Cversion: 17, Owner: 18, Length: 19, Children: 20}, List: []string{"q", "rs"}, Config: api.Ensemble{Version: 6, Members: []api.Member{{Id: 2, Role: 1, Weight: 8, Group: 3}}}, Parts: []api.Reply{{Kind: 6, Xid: 9}}},
			[]byte{9, 2, 4, 6, 8, 10, 2, 'p', 2, 7, 22, 24, 26, 28, 30, 32, 34, 36, 38, 40, 4, 2, 'q', 4, 'r', 's', 12, 12, 2, 4, 2, 16, 6, 2, 6, 18, 0, 0, 0, 0, 0, 0, 0, 0, 0, 0, 0, 0, 0, 0, 0, 0, 0, 0, 0},
		},
	} {
		if b, errno := ask.PutReply(x.r); errno != api.OK || !bytes.Equal(b, x.want) {
			t.Errorf("PutReply(%s): %x, %v, want %x", short(x.r), b, errno, x.want)
		}
		getReply(t, x.want, x.r)
		noReply(t, "and a nought", append(slices.Clip(x.want), 0))
	}
}

// P6.5, of replies

func TestRepliesThatEndTooSoonOrGoOn(t *testing.T) {
	noReply(t, "nil", nil)
	noReply(t, "nothing", []byte{})
	for _, r := range replies() {
		b := replyBytes(r)
		for end := range b {
			noReply(t, "cut", b[:end:end])
			noReply(t, "cut, the rest in the spare room", b[:end])
		}
		for more := range 256 {
			noReply(t, "one more", append(slices.Clip(b), byte(more)))
			lookReply(t, append([]byte{byte(more)}, b...))
		}
		noReply(t, "twice", slices.Concat(b, b))
	}
}

func TestNumbersOfRepliesThatAreNone(t *testing.T) {
	for _, r := range []api.Reply{{Kind: 1}, {Kind: 2, Xid: 64, Stat: fullStat(), Parts: []api.Reply{{Kind: 3}}}} {
		b := replyBytes(r)
		for i := 1; i < len(b); i++ {
			if b[i] >= 128 || b[i-1] >= 128 || i == len(b)-21 && len(r.Parts) > 0 {
				continue // of a number of two bytes, or the part's kind
			}
			what := fmt.Sprintf("number at %d", i)
			noReply(t, what, slices.Concat(b[:i], []byte{b[i] | 128, 0}, b[i+1:]))
			noReply(t, what, slices.Concat(b[:i], []byte{b[i] | 128, 128, 128, 128, 128, 128, 128, 128, 128, 0}, b[i+1:]))
			for _, n := range beyond() {
				noReply(t, what, slices.Concat(b[:i], n, b[i+1:]))
			}
		}
	}
}

// noughts: a reply with a timeout, and then nothing up to its list.
func noughts(timeout int64) line {
	return line{1}.int(0, 0, 0, 0, timeout).text("").text("").int(0, 0, 0, 0, 0, 0, 0, 0, 0, 0)
}

func TestRepliesBeyondTheirLimits(t *testing.T) {
	getReply(t, noughts(3).int(0, 0, 0), api.Reply{Kind: 1, Timeout: 3})
	for _, more := range []int64{1 << 8, 1 << 10, 1 << 16, 1 << 31, 1 << 32, 1 << 62, math.MinInt64, -1 << 10, -1 << 32} {
		if more < 0 || more > 1000 {
			noReply(t, "a timeout", noughts(3+more).int(0, 0, 0))
		}
		noReply(t, "a path's length", append(line{1}.int(0, 0, 0, 0, 0, 1+more), make([]byte, 40)...))
		noReply(t, "how many texts", noughts(0).int(1+more).text("a").int(0, 0))
		noReply(t, "how many parts", append(noughts(0).int(0, 0, 1+more), noughts(0).int(0, 0, 0)...))
		noReply(t, "a config's length", append(noughts(0).int(0, int64(len(configBytes(config(1))))+more), configBytes(config(1)).int(0)...))
		noReply(t, "a config's role", noughts(0).int(0).text(string(line{}.int(1, 1, 1, 1+more, 1, 0))).int(0))
	}
}

func TestBytesOfConfigs(t *testing.T) {
	inner := configBytes(config(1))
	good := noughts(0).int(0).text(string(inner)).int(0)
	getReply(t, good, api.Reply{Kind: 1, Config: config(1)})
	for _, e := range []api.Ensemble{{}, {Version: 1}, {Version: -1, Members: config(1).Members}, {Version: 1<<62 + 1, Members: config(1).Members}, {Version: 1, Members: []api.Member{{Id: 1, Role: 2}}}, {Version: 1, Members: strangers()[:2]}, {Version: 1, Members: slices.Repeat([]api.Member{{Id: 1, Role: 1, Weight: 1}}, 8)}} {
		noReply(t, "a config that may not be", noughts(0).int(0).text(string(configBytes(e))).int(0))
	}
	for i := range inner {
		if inner[i] < 128 && (i == 0 || inner[i-1] < 128) {
			longer := slices.Concat(inner[:i], []byte{inner[i] | 128, 0}, inner[i+1:])
			noReply(t, "a number with noughts ahead", noughts(0).int(0).text(string(longer)).int(0))
		}
		if i > 0 {
			noReply(t, "cut", noughts(0).int(0).text(string(inner[:i])).int(0))
		}
	}
	for _, more := range []string{"\x00", "\x01", "\x02\x02\x00\x00"} {
		noReply(t, "bytes behind it", noughts(0).int(0).text(string(inner)+more).int(0))
	}
}

func TestHowManyTextsAndParts(t *testing.T) {
	part := api.Reply{Kind: 3, Xid: 5}
	for _, said := range []int64{math.MinInt64, -501, -1, 0, 1, 2, 15, 16, 17, 499, 500, 501, 502, 1 << 20, 1 << 32, 1<<32 + 1, math.MaxInt64} {
		for _, have := range []int{0, 1, 15, 16, 17} {
			b := slices.Concat(noughts(0).int(0, 0, said), bytes.Repeat(replyBytes(part), have))
			if said == int64(have) && have <= 16 {
				getReply(t, b, api.Reply{Kind: 1, Parts: slices.Repeat([]api.Reply{part}, have)})
			} else {
				noReply(t, fmt.Sprintf("%d parts, said to be %d", have, said), b)
			}
		}
		for _, have := range []int{0, 1, 499, 500, 501} {
			// A text of no bytes is a nought, as are no config and no parts: the ends tell them apart.
			b := slices.Concat(noughts(0).int(said), bytes.Repeat(line{}.text("ab"), have), line{}.int(0, 0))
			if said == int64(have) && have <= 500 {
				getReply(t, b, api.Reply{Kind: 1, List: slices.Repeat([]string{"ab"}, have)})
			} else {
				noReply(t, fmt.Sprintf("%d texts, said to be %d", have, said), b)
			}
		}
	}
}

func TestBytesOfRepliesWithinReplies(t *testing.T) {
	head := noughts(0).int(0, 0, 1)
	leaf := noughts(0).int(0, 0, 0)
	getReply(t, slices.Concat(head, leaf), api.Reply{Kind: 1, Parts: []api.Reply{{Kind: 1}}})
	noReply(t, "a part with a part", slices.Concat(head, head, leaf))
	noReply(t, "a part with a list", slices.Concat(head, noughts(0).int(1).text("a").int(0, 0)))
	noReply(t, "many deep", slices.Concat(bytes.Repeat(head, 1<<20), leaf))
}

func TestOtherBytesAreOtherReplies(t *testing.T) {
	next := testkit.Walk()
	for range 60 {
		r := anyReply(next, true)
		r.Data = r.Data[:min(len(r.Data), 3)]
		r.List = r.List[:min(len(r.List), 3)]
		r.Parts = r.Parts[:min(len(r.Parts), 1)]
		turnBytes(next, replyBytes(r), func(b []byte) { lookReply(t, b) })
	}
	for range 200000 {
		b := append([]byte{byte(1 + next(14))}, make([]byte, 15+next(15))...)
		for i := range b[1:] {
			b[1+i] = []byte{0, 0, 0, 0, 0, 0, 0, 0, 0, 0, 0, 0, 0, 0, 0, 0, 1, 2, 4, byte(next(256))}[next(20)]
		}
		lookReply(t, b)
	}
}

// P6.6, of replies

func anyReply(next func(int) int, whole bool) api.Reply {
	zxid := func() api.Zxid { return api.Zxid(anyNumber(next)) }
	number := func() int { return int(anyNumber(next)) }
	r := api.Reply{Kind: api.AskKind(1 + next(14)), Xid: number(), Zxid: zxid(), Err: api.Errno(number()), Session: anyNumber(next), Timeout: next(1001), Path: anyText(next), Data: anyData(next)}
	if next(2) == 1 {
		r.Stat = api.Stat{Czxid: zxid(), Mzxid: zxid(), Pzxid: zxid(), Ctime: anyNumber(next), Mtime: anyNumber(next), Version: number(), Cversion: number(), Owner: anyNumber(next), Length: number(), Children: number()}
	}
	if next(2) == 1 {
		r.Config = config(zxid() >> 1)
		r.Config.Members = r.Config.Members[:1+next(3)]
	}
	if whole {
		for range []int{0, 0, next(20), next(501)}[next(4)] {
			r.List = append(r.List, anyText(next))
		}
		for range []int{0, next(17)}[next(2)] {
			r.Parts = append(r.Parts, anyReply(next, false))
		}
	}
	return r
}

func TestRepliesThatArePutAreGot(t *testing.T) {
	next := testkit.Walk()
	for range 2000 {
		r := anyReply(next, true)
		if !checkReply(t, r) {
			t.Errorf("%s is not right", short(r))
		}
		b, _ := ask.PutReply(r)
		if got, errno := ask.GetReply(b); errno != api.OK || !same(got, r) {
			t.Errorf("%s: %s, %v", short(r), short(got), errno)
		}
	}
}

func TestLongestReply(t *testing.T) {
	part := replies()[2]
	part.Xid, part.Zxid, part.Err, part.Session = math.MaxInt, math.MaxInt64, math.MaxInt, math.MaxInt64
	part.Config.Members = nil
	for id := 1; id <= 7; id++ {
		part.Config.Members = append(part.Config.Members, api.Member{Id: id, Role: 1, Weight: 1000, Group: 6})
	}
	r := part
	r.List = slices.Repeat([]string{longest}, 500)
	r.Parts = slices.Repeat([]api.Reply{part}, 16)
	b, errno := ask.PutReply(r)
	if errno != api.OK || len(b) > 1<<20 || len(b) < 500*220+17*1300 {
		t.Errorf("%d bytes, %v", len(b), errno)
	}
	checkReply(t, r)
}

// R3, of replies

func TestRepliesHandedInStayAsTheyAre(t *testing.T) {
	wrong := replies()
	for i := range wrong {
		wrong[i].Timeout += 1001
	}
	for _, r := range append(replies(), wrong...) {
		given := roomy(r)
		b, _ := ask.PutReply(given)
		spoil(b)
		checkRoom(t, given, r)
	}
	for _, r := range replies() {
		b := roomy([]byte(replyBytes(r)))
		got, _ := ask.GetReply(b)
		spoil(got)
		checkRoom(t, b, replyBytes(r))
		ask.GetReply(b[:len(b)-1])
		checkRoom(t, b, replyBytes(r))
	}
}

func TestRepliesAreNotKept(t *testing.T) {
	for _, r := range replies() {
		given := roomy(r)
		b, _ := ask.PutReply(given)
		spoil(given)
		if !bytes.Equal(b, replyBytes(r)) {
			t.Errorf("PutReply's bytes hang on %s", short(r))
		}
		got, _ := ask.GetReply(b)
		spoil(b)
		if !same(got, r) {
			t.Errorf("GetReply's %s hangs on its bytes", short(r))
		}
	}
}

func TestAnswersOfRepliesShareNothing(t *testing.T) {
	for _, r := range replies() {
		one, _ := ask.PutReply(r)
		other, _ := ask.PutReply(r)
		spoil(one)
		if !bytes.Equal(other, replyBytes(r)) {
			t.Errorf("PutReply's answers of %s share memory", short(r))
		}
		first, _ := ask.GetReply(other)
		second, _ := ask.GetReply(other)
		spoil(first)
		if !same(second, r) {
			t.Errorf("GetReply's answers of %s share memory", short(r))
		}
		checkApart(t, second)
	}
}
