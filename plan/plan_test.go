package plan_test

import (
	"bytes"
	"fmt"
	"math"
	"reflect"
	"slices"
	"strings"
	"testing"

	"beadle/api"
	"beadle/deed"
	"beadle/fuzzy"
	"beadle/plan"
	"beadle/testkit"
	"beadle/tree"
)

// The chapter's examples.

func TestExampleOfCreates(t *testing.T) {
	w := newTwin(t, "creates", grown(), voters(0, 1))
	for _, c := range []struct {
		a        api.Ask
		path     string
		cversion int
	}{
		{api.Ask{Kind: api.AskCreate, Path: "/a"}, "/a", 1},
		{api.Ask{Kind: api.AskCreate, Path: "/a/q-", Flags: api.Sequence}, "/a/q-0000000000", 1},
		{api.Ask{Kind: api.AskCreate, Path: "/a/q-", Flags: api.Sequence}, "/a/q-0000000001", 2},
	} {
		if d := w.kind(1, c.a, api.DeedCreate); d.Path != c.path || d.Cversion != c.cversion {
			t.Errorf("%s, want %s, %d", tell(d), c.path, c.cversion)
		}
	}
	w.want(1, api.Ask{Kind: api.AskDelete, Path: "/a", Version: -1}, api.ErrChildren)
	set := api.Ask{Kind: api.AskSet, Path: "/a"}
	if d := w.kind(1, set, api.DeedSet); d.Version != 1 {
		t.Error(tell(d))
	}
	w.want(1, set, api.ErrVersion)
	w.same()
}

func TestExampleOfAMulti(t *testing.T) {
	w := newTwin(t, "a multi", grown(), voters(0, 1))
	w.want(1, api.Ask{Kind: api.AskMulti, Parts: []api.Ask{
		{Kind: api.AskCreate, Path: "/b"},
		{Kind: api.AskCheck, Path: "/b"},
		{Kind: api.AskDelete, Path: "/c"},
	}}, api.ErrNode)
	w.want(1, api.Ask{Kind: api.AskSet, Path: "/b", Version: -1}, api.ErrNode)
	if d := w.kind(1, api.Ask{Kind: api.AskCreate, Path: "/b"}, api.DeedCreate); d.Cversion != 1 {
		t.Error(tell(d))
	}
	w.same()
}

// P18.1

func TestNewIsNone(t *testing.T) {
	good := voters(0, 1)
	for what, x := range map[string]*tree.Tree{"nil": nil, "of nobody": {}} {
		if plan.New(x, good) != nil {
			t.Errorf("a tree that is %s: a plan", what)
		}
	}
	for _, e := range []api.Ensemble{
		{},
		{Version: 5},
		voters(-1, 1),
		voters(1<<62+1, 1),
		voters(0, 1, 1),
		voters(0, 2, 1),
		voters(0, 0),
		voters(0, 8),
		voters(0, 1, 2, 3, 4, 5, 6, 7, 8),
		{Members: []api.Member{{Id: 1, Role: api.Observer}}},
		{Members: []api.Member{{Id: 1, Role: api.Voter}}},
	} {
		if plan.New(tree.New(), e) != nil {
			t.Errorf("%v: a plan", e)
		}
		if plan.New(nil, e) != nil {
			t.Errorf("no tree and %v: a plan", e)
		}
	}
}

func TestNewBeginsWithTheTreeAndTheConfig(t *testing.T) {
	for _, config := range []api.Ensemble{
		voters(0, 1),
		voters(1<<62, 7),
		{Version: 1 << 32, Members: []api.Member{{Id: 1, Role: api.Voter, Weight: 1000, Group: 6}, {Id: 2, Role: api.Observer}}},
		voters(9, 1, 2, 3, 4, 5, 6, 7),
	} {
		for what, x := range map[string]*tree.Tree{
			"new":      tree.New(),
			"grown":    grown("/a", "/a/b", "/c"),
			"seated":   seated(api.Sitting{Session: 1, Timeout: 3, Turn: 2}, api.Sitting{Session: 5, Timeout: -3, Turn: -2}, api.Sitting{Session: math.MaxInt64, Turn: math.MaxInt}),
			"many":     wide(500),
			"too many": wide(501),
		} {
			w := newTwin(t, what, x, config)
			if got, waits := w.p.Config(); waits || got.Version != config.Version || !slices.Equal(got.Members, config.Members) || w.p.Pending() != 0 {
				t.Errorf("%s: %v, %v, %d", what, got, waits, w.p.Pending())
			}
		}
	}
}

// TestTheTreeIsItsOwn: neither does the plan see what the tree becomes, nor the tree what the plan makes.
func TestTheTreeIsItsOwn(t *testing.T) {
	x := grown("/a")
	w := newTwin(t, "own", x, voters(0, 1))
	was := x.Copy()
	w.call(1, api.Ask{Kind: api.AskCreate, Path: "/b"})
	w.call(1, api.Ask{Kind: api.AskSet, Path: "/a", Version: -1})
	w.call(0, api.Ask{Kind: api.AskOpen, Timeout: 5})
	if !tree.Same(x, was) {
		t.Error("the tree was changed")
	}
	x.Apply(api.Deed{Zxid: 90, Kind: api.DeedCreate, Path: "/z", Cversion: 9})
	x.Apply(api.Deed{Zxid: 91, Kind: api.DeedDelete, Path: "/a", Cversion: 10})
	x.Apply(api.Deed{Zxid: 92, Kind: api.DeedClose, Owner: 1})
	w.look()
	w.probe(1, "/", "/a", "/b", "/z")
}

// TestPlansAreTheirOwn: two of one tree.
func TestPlansAreTheirOwn(t *testing.T) {
	x := grown("/a")
	one, two := newTwin(t, "one", x, voters(0, 1)), newTwin(t, "two", x, voters(0, 1))
	one.call(1, api.Ask{Kind: api.AskCreate, Path: "/b"})
	one.call(1, api.Ask{Kind: api.AskConfig, Members: voters(0, 2).Members})
	two.look()
	two.call(1, api.Ask{Kind: api.AskDelete, Path: "/a"})
	one.done(api.Deed{Zxid: 99})
	two.look()
	one.probe(1, "/", "/a", "/b")
	two.probe(1, "/", "/a", "/b")
}

// TestNoZxidIsMadeAtFirst: whatever zxids stand in the tree or in the config, the first one may be any.
func TestNoZxidIsMadeAtFirst(t *testing.T) {
	for _, z := range []api.Zxid{1, 2, 50, 1 << 32, testkit.LastZxid} {
		x := tree.New()
		x.Apply(api.Deed{Zxid: 60, Time: 70, Kind: api.DeedCreate, Path: "/a", Cversion: 1})
		w := newTwin(t, fmt.Sprint(z), x, voters(1000, 1))
		if d := w.make(api.Ask{Kind: api.AskOpen, Timeout: 5}, z, 0); d.Kind != api.DeedOpen || d.Zxid != z {
			t.Error(tell(d))
		}
	}
}

// P18.2

// TestWrongArguments: each of them is ErrArg, and changes nothing.
func TestWrongArguments(t *testing.T) {
	w := newTwin(t, "wrong", grown("/a"), voters(0, 1))
	w.make(api.Ask{Kind: api.AskSync, Session: 1, Turn: 1, Xid: 1}, 10, 20)
	wrong := func(a api.Ask, z api.Zxid, time int64) {
		t.Helper()
		for _, session := range []int64{a.Session, 99} { // ErrArg stands ahead of ErrSession
			a.Session = session
			w.make(a, z, time)
			w.refuse(a, z, time, 1)
			if d, errno := w.p.Make(a, z, time); errno != api.ErrArg || tell(d) != tell(api.Deed{}) {
				t.Errorf("Make(%+v, %d, %d): %s, %d", a, z, time, tell(d), int(errno))
			}
			if d, errno := w.p.Refuse(a, z, time, 1); errno != api.ErrArg || tell(d) != tell(api.Deed{}) {
				t.Errorf("Refuse(%+v, %d, %d): %s, %d", a, z, time, tell(d), int(errno))
			}
		}
	}
	for _, a := range eachChange() {
		for _, z := range []api.Zxid{math.MinInt64, -1, 0, 1, 9, 10, testkit.LastZxid + 1, math.MaxInt64} {
			wrong(a, z, 20)
		}
		for _, time := range []int64{math.MinInt64, -1, 0, 19, 1<<62 + 1, math.MaxInt64} {
			wrong(a, 11, time)
		}
		for _, spoil := range []func(a *api.Ask){
			func(a *api.Ask) { a.Xid = -1 },
			func(a *api.Ask) { a.Turn = -1 },
			func(a *api.Ask) { a.Timeout = 1 },
			func(a *api.Ask) { a.Watch = true },
			func(a *api.Ask) { a.Path += strings.Repeat("x", 300) },
			func(a *api.Ask) { a.Data = make([]byte, 1001) },
			func(a *api.Ask) { a.Flags = 4 },
			func(a *api.Ask) { a.Version = -2 },
			func(a *api.Ask) { a.From = -1 },
			func(a *api.Ask) { a.Parts = []api.Ask{{Kind: api.AskSync}} },
			func(a *api.Ask) { a.Parts = slices.Repeat([]api.Ask{{Kind: api.AskCheck, Path: "/"}}, 17) },
			func(a *api.Ask) { a.Members = make([]api.Member, 8) },
			func(a *api.Ask) { a.Kind += 256 - 20 },
		} {
			b := a
			spoil(&b)
			wrong(b, 11, 20)
		}
	}
	for _, kind := range []api.AskKind{0, api.AskCheck, api.AskGet, api.AskExists, api.AskList, api.AskPing, api.AskWatch, 15, 255} {
		wrong(api.Ask{Kind: kind, Session: 1, Turn: 2}, 11, 20)
		wrong(api.Ask{Kind: kind, Session: 1, Turn: 2, Path: "/a"}, 11, 20)
		wrong(api.Ask{Kind: kind, Session: 1, Turn: 2, Path: "/a", Sort: 1}, 11, 20)
	}
	w.look()
	w.probe(1, "/", "/a", "/new")
}

// TestWhoMayOpen: nobody but who has no session yet.
func TestWhoMayOpen(t *testing.T) {
	w := newTwin(t, "open", grown(), voters(0, 1))
	for _, session := range []int64{math.MinInt64, -1, 1, 2, 1 << 32, math.MaxInt64} {
		a := api.Ask{Kind: api.AskOpen, Session: session, Turn: 5, Timeout: 5}
		w.make(a, 10, 5)
		w.refuse(a, 10, 5, api.ErrBusy)
	}
	for _, timeout := range []int{math.MinInt, -1, 0, 1001, 1<<32 + 5} {
		w.make(api.Ask{Kind: api.AskOpen, Timeout: timeout}, 10, 5)
	}
	if w.p.Pending() != 0 {
		t.Error("something was made")
	}
	for i, timeout := range []int{1, 5, 1000} {
		a := api.Ask{Kind: api.AskOpen, Turn: 10 - i, Xid: 7, Timeout: timeout, Last: 99}
		if d := w.make(a, api.Zxid(10+i), 5); d.Kind != api.DeedOpen || d.Timeout != timeout || d.Session != 0 || d.Turn != a.Turn || d.Xid != 7 {
			t.Error(tell(d))
		}
	}
	w.same()
}

// TestZxidsAndTimesThatMayBe: each edge of both.
func TestZxidsAndTimesThatMayBe(t *testing.T) {
	for _, rows := range [][]struct {
		z    api.Zxid
		time int64
	}{
		{{1, 0}, {2, 0}, {3, 1}, {1<<32 - 1, 1}, {1 << 32, 2}, {1<<32 + 5, 1 << 62}, {1 << 62, 1 << 62}, {testkit.LastZxid, 1 << 62}},
		{{testkit.LastZxid - 1, 5}, {testkit.LastZxid, 5}},
		{{7, 1<<62 - 1}, {9, 1<<62 - 1}, {10, 1 << 62}},
	} {
		w := newTwin(t, "may be", grown("/a"), voters(0, 1))
		for i, c := range rows {
			for j, a := range []api.Ask{{Kind: api.AskOpen, Timeout: 9}, {Kind: api.AskSync, Session: 1, Turn: 1, Xid: i}, {Kind: api.AskClose, Session: 99}} {
				if d, errno := w.copied(t).Make(a, c.z, c.time); (errno == api.OK) != (j < 2) || errno == api.OK && (d.Zxid != c.z || d.Time != c.time) {
					t.Errorf("%d at %d: %s, %d", c.z, c.time, tell(d), int(errno))
				}
			}
			w.make(api.Ask{Kind: api.AskSync, Session: 1, Turn: 1, Xid: i}, c.z, c.time)
			w.make(api.Ask{Kind: api.AskSync, Session: 1, Turn: 1, Xid: i + 1}, c.z, c.time)
			w.make(api.Ask{Kind: api.AskSync, Session: 1, Turn: 1, Xid: i + 1}, c.z+1, c.time-1)
		}
	}
}

// TestTurnsAndXids: all of them, behind all pairs of a sitting's turn and a last deed.
func TestTurnsAndXids(t *testing.T) {
	type place struct{ turn, xid int }
	var places []place
	for turn := range 4 {
		for xid := range 4 {
			places = append(places, place{turn, xid})
		}
	}
	for seat := range 4 {
		for _, first := range append(places, place{-1, 0}) { // of turn -1: there is no deed yet
			for _, c := range places {
				for _, kind := range []api.AskKind{api.AskSync, api.AskClose} {
					w := newTwin(t, fmt.Sprintf("turn %d, %v, %v, kind %d", seat, first, c, kind), seated(api.Sitting{Session: 5, Timeout: 9, Turn: seat}), voters(0, 1))
					wait := first.turn >= 0
					if wait {
						w.make(api.Ask{Kind: api.AskSync, Session: 5, Turn: first.turn, Xid: first.xid}, 1, 0)
						wait = first.turn >= seat
					}
					a := api.Ask{Kind: kind, Session: 5, Turn: c.turn, Xid: c.xid}
					d := w.make(a, 9, 0)
					leaders := kind == api.AskClose && c == place{}
					late := c.turn < seat || wait && (c.turn < first.turn || c.turn == first.turn && c.xid <= first.xid)
					if (d.Kind == 0) != (late && !leaders) {
						t.Errorf("%s: %s", w.what, tell(d))
					}
					if d.Kind != 0 && leaders != (d.Session == 0) {
						t.Errorf("%s: %s", w.what, tell(d))
					}
				}
			}
		}
	}
}

// TestGreatTurnsAndXids: they are whole, not cut short.
func TestGreatTurnsAndXids(t *testing.T) {
	great := []int{0, 1, math.MaxInt32, 1 << 32, 1<<32 + 1, math.MaxInt - 1, math.MaxInt}
	for _, turn := range great {
		for _, xid := range great {
			for _, turn2 := range great {
				for _, xid2 := range great {
					w := newTwin(t, fmt.Sprint(turn, xid, turn2, xid2), grown(), voters(0, 1))
					w.make(api.Ask{Kind: api.AskSync, Session: 1, Turn: turn, Xid: xid}, 2, 0)
					w.make(api.Ask{Kind: api.AskSync, Session: 1, Turn: turn2, Xid: xid2}, 3, 0)
				}
			}
		}
	}
}

// TestSessionsThatAreNotThere: none of them is heard, not even by the leader's own close.
func TestSessionsThatAreNotThere(t *testing.T) {
	w := newTwin(t, "no session", seated(api.Sitting{Session: 5, Timeout: 9}, api.Sitting{Session: 1 << 40, Timeout: 9}), voters(0, 1))
	for _, session := range []int64{0, 1, 4, 6, 1<<32 + 5, 1<<40 + 1, math.MaxInt64} {
		for _, a := range append(eachChange(), api.Ask{Kind: api.AskClose}) {
			a.Session = session
			for _, call := range []func() (api.Deed, api.Errno){
				func() (api.Deed, api.Errno) { return w.p.Make(a, 9, 0) },
				func() (api.Deed, api.Errno) { return w.p.Refuse(a, 9, 0, api.ErrBusy) },
			} {
				if d, errno := call(); errno != api.ErrSession || tell(d) != tell(api.Deed{}) {
					t.Errorf("session %d, %+v: %s, %d", session, a, tell(d), int(errno))
				}
			}
		}
	}
	for _, session := range []int64{-1, math.MinInt64} { // no call of a session below 0 is right
		if d, errno := w.p.Make(api.Ask{Kind: api.AskSync, Session: session}, 9, 0); errno != api.ErrArg || tell(d) != tell(api.Deed{}) {
			t.Errorf("session %d: %s, %d", session, tell(d), int(errno))
		}
	}
	w.look()
	w.call(5, api.Ask{Kind: api.AskSync})
	w.call(1<<40, api.Ask{Kind: api.AskSync})
	w.same()
}

// TestTheLeadersOwnClose: whatever turns and xids were there, it is heard, and is nobody's.
func TestTheLeadersOwnClose(t *testing.T) {
	for _, turn := range []int{0, 1, 9} {
		w := newTwin(t, fmt.Sprint("turn ", turn), seated(api.Sitting{Session: 5, Timeout: 9, Turn: turn}, api.Sitting{Session: 6, Timeout: 9}), voters(0, 1))
		w.make(api.Ask{Kind: api.AskSync, Session: 5, Turn: turn + 1, Xid: 3}, 1, 0)
		own := api.Ask{Kind: api.AskClose, Session: 5}
		if d := w.refuse(own, 2, 0, api.ErrBusy); d.Session != 0 || d.Turn != 0 || d.Xid != 0 || d.Err != api.ErrBusy {
			t.Error(tell(d))
		}
		w.make(api.Ask{Kind: api.AskSync, Session: 5, Turn: turn + 1, Xid: 3}, 3, 0)
		for _, a := range []api.Ask{{Kind: api.AskClose, Session: 5, Xid: 1}, {Kind: api.AskClose, Session: 5, Turn: turn}} {
			if a.Turn+a.Xid > 0 {
				w.make(a, 3, 0)
			}
		}
		if d := w.make(own, 4, 0); d.Kind != api.DeedClose || d.Owner != 5 || d.Session != 0 {
			t.Error(tell(d))
		}
		w.make(own, 5, 0)
		w.make(api.Ask{Kind: api.AskSync, Session: 5, Turn: turn + 2, Xid: 3}, 5, 0)
		w.make(api.Ask{Kind: api.AskSync, Session: 6, Turn: 1, Xid: 1}, 5, 0)
		w.same()
	}
}

// TestOneSessionsTurnIsNoOthers: nor is an AskOpen a deed of the session that it makes.
func TestOneSessionsTurnIsNoOthers(t *testing.T) {
	w := newTwin(t, "turns", grown(), voters(0, 1))
	w.make(api.Ask{Kind: api.AskOpen, Turn: 3, Xid: 9, Timeout: 5}, 10, 0)
	w.make(api.Ask{Kind: api.AskOpen, Turn: 3, Xid: 9, Timeout: 5}, 11, 0)
	for i, c := range []struct {
		session   int64
		turn, xid int
		errno     api.Errno
	}{
		{10, 2, 99, api.ErrSession},
		{10, 3, 0, api.OK},
		{10, 3, 0, api.ErrSession},
		{10, 3, 1, api.OK},
		{11, 3, 0, api.OK},
		{11, 4, 0, api.OK},
		{10, 3, 2, api.OK},
		{11, 3, 9, api.ErrSession},
		{1, 0, 0, api.OK},
		{1, 0, 1, api.OK},
	} {
		a := api.Ask{Kind: api.AskSync, Session: c.session, Turn: c.turn, Xid: c.xid}
		if errno := w.errno(a, api.Zxid(20+i), 0); errno != c.errno {
			t.Errorf("%d: %d, want %d", i, int(errno), int(c.errno))
		}
	}
	w.same()
}

// TestSessionsThatComeBack: one that was seated by a number that no zxid has reached may be opened once more, and its old calls are still known.
func TestSessionsThatComeBack(t *testing.T) {
	w := newTwin(t, "back", seated(api.Sitting{Session: 50, Timeout: 9}, api.Sitting{Session: 3, Timeout: 9}), voters(0, 1))
	w.make(api.Ask{Kind: api.AskSync, Session: 50, Turn: 5, Xid: 3}, 10, 0)
	w.make(api.Ask{Kind: api.AskClose, Session: 50, Turn: 5, Xid: 4}, 11, 0)
	w.make(api.Ask{Kind: api.AskSync, Session: 50, Turn: 6, Xid: 1}, 12, 0)
	w.make(api.Ask{Kind: api.AskOpen, Turn: 1, Timeout: 9}, 50, 0)
	for i, a := range []api.Ask{{Turn: 1, Xid: 1}, {Turn: 5, Xid: 4}, {Turn: 5, Xid: 5}, {Turn: 4, Xid: 9}} {
		a.Kind, a.Session = api.AskSync, 50
		if d := w.make(a, api.Zxid(60+i), 0); (d.Kind == 0) != (i != 2) {
			t.Errorf("%d: %s", i, tell(d))
		}
	}
	w.make(api.Ask{Kind: api.AskClose, Session: 50}, 70, 0)
	w.make(api.Ask{Kind: api.AskSync, Session: 50, Turn: 9, Xid: 9}, 71, 0)
	w.same()
}

// TestWhoseDeedItIs: each deed has the zxid, the time and the call's own numbers, those of an error and of a refusal, too.
func TestWhoseDeedItIs(t *testing.T) {
	for _, a := range eachChange() {
		for _, refused := range []bool{false, true} {
			w := newTwin(t, fmt.Sprintf("kind %d", a.Kind), grown("/a"), voters(0, 1))
			a.Turn, a.Xid = 1<<32+7, 1<<33+9
			call := func() api.Deed { return w.make(a, 1<<40+3, 1<<41+5) }
			if refused {
				call = func() api.Deed { return w.refuse(a, 1<<40+3, 1<<41+5, api.ErrQuorum) }
			}
			if d := call(); d.Zxid != 1<<40+3 || d.Time != 1<<41+5 || d.Session != 1 || d.Turn != 1<<32+7 || d.Xid != 1<<33+9 || !deed.Right(d) {
				t.Error(tell(d))
			}
			w.same()
		}
	}
}

// P18.3

func TestOpenAtTheLimit(t *testing.T) {
	for _, there := range []int{198, 199, 200, 201, 250} {
		var l []api.Sitting
		for i := range there {
			l = append(l, api.Sitting{Session: int64(1000 + i), Timeout: 9})
		}
		w := newTwin(t, fmt.Sprintf("%d sittings", there), seated(l...), voters(0, 1))
		open := api.Ask{Kind: api.AskOpen, Timeout: 7}
		for range 200 - there {
			w.kind(0, open, api.DeedOpen)
		}
		w.want(0, open, api.ErrBusy)
		w.call(1000, api.Ask{Kind: api.AskClose})
		if there <= 200 {
			w.kind(0, open, api.DeedOpen)
		}
		w.want(0, open, api.ErrBusy)
	}
}

// TestOpenOfASessionThatSitsAlready: the sitting is a new one then.
func TestOpenOfASessionThatSitsAlready(t *testing.T) {
	w := newTwin(t, "sits", seated(api.Sitting{Session: 9, Timeout: 30, Turn: 8}), voters(0, 1))
	w.make(api.Ask{Kind: api.AskOpen, Turn: 2, Timeout: 5}, 9, 0)
	if s, ok := w.p.Sitting(9); s != (api.Sitting{Session: 9, Timeout: 5, Turn: 2}) || !ok {
		t.Error(s, ok)
	}
	w.same()
}

func TestCloseTakesOwnNodes(t *testing.T) {
	w := newTwin(t, "close", grown("/a", "/b"), voters(0, 1))
	w.make(api.Ask{Kind: api.AskOpen, Timeout: 5}, 100, 0)
	own, plain := api.Ephemeral, 0
	for _, c := range []struct {
		session int64
		path    string
		flags   int
	}{
		{100, "/z", own}, {100, "/b/x", own}, {1, "/b/y", own}, {100, "/a/y", own}, {100, "/a/x", own}, {100, "/a/z", plain}, {100, "/a/q", 3}, {100, "/a-", own},
	} {
		w.kind(c.session, api.Ask{Kind: api.AskCreate, Path: c.path, Flags: c.flags}, api.DeedCreate)
	}
	d := w.kind(100, api.Ask{Kind: api.AskClose}, api.DeedClose)
	var parts []string
	for _, part := range d.Parts {
		parts = append(parts, fmt.Sprintf("%d %s %d", part.Kind, part.Path, part.Cversion))
	}
	if want := []string{"2 /a- 5", "2 /a/q0000000003 5", "2 /a/x 6", "2 /a/y 7", "2 /b/x 3", "2 /z 6"}; !slices.Equal(parts, want) || d.Owner != 100 || d.Session != 100 {
		t.Errorf("%q, want %q: %s", parts, want, tell(d))
	}
	if _, ok := w.p.Sitting(100); ok {
		t.Error("the session is there still")
	}
	if d := w.kind(1, api.Ask{Kind: api.AskClose}, api.DeedClose); len(d.Parts) != 1 || d.Parts[0].Path != "/b/y" || d.Parts[0].Cversion != 4 {
		t.Error(tell(d))
	}
	w.same()
}

func TestCloseOfWhoOwnsNothing(t *testing.T) {
	w := newTwin(t, "owns nothing", grown("/a"), voters(0, 1))
	if d := w.kind(1, api.Ask{Kind: api.AskClose}, api.DeedClose); len(d.Parts) != 0 || d.Owner != 1 || !deed.Right(d) {
		t.Error(tell(d))
	}
	w.same()
}

// TestCloseOfManyNodes: a session that owns all that there may be.
func TestCloseOfManyNodes(t *testing.T) {
	x := grown()
	x.Load(slices.Concat([]api.Node{{Path: "/", Stat: api.Stat{Cversion: 499}}}, ownedNodes(499)))
	w := newTwin(t, "many", x, voters(0, 1))
	d := w.kind(1, api.Ask{Kind: api.AskClose}, api.DeedClose)
	if len(d.Parts) != 499 || d.Parts[498].Cversion != 998 || !deed.Right(d) {
		t.Errorf("%d parts, %.300s", len(d.Parts), tell(d))
	}
	w.same()
	if len(w.x.All()) != 1 {
		t.Error("some are left")
	}
}

// TestCreateOfPaths: as they are and numbered, over right and wrong ones.
func TestCreateOfPaths(t *testing.T) {
	letters := func(count int) string { return strings.Repeat("x", count) }
	for _, c := range []struct {
		path            string
		plain, sequence string // what is made, or the error
	}{
		{"/", "120", "/0000000002"},
		{"", "120", "120"},
		{"/a", "211", "/a0000000002"},
		{"/a/", "120", "/a/0000000001"},
		{"/a/b", "211", "/a/b0000000001"},
		{"/a/b/", "120", "/a/b/0000000000"},
		{"/a/c", "/a/c", "/a/c0000000001"},
		{"/c", "/c", "/c0000000002"},
		{"/c/", "120", "210"},
		{"/c/d", "210", "210"},
		{"/c/d/", "120", "210"},
		{"a", "120", "120"},
		{"a/", "120", "120"},
		{"//", "120", "120"},
		{"/a//", "120", "120"},
		{"/a//b", "120", "120"},
		{"/.", "120", "/.0000000002"},
		{"/..", "120", "/..0000000002"},
		{"/...", "/...", "/...0000000002"},
		{"/a/.", "120", "/a/.0000000001"},
		{"/./a", "120", "120"},
		{"/../", "120", "120"},
		{"/a b", "120", "120"},
		{"/a\x00", "120", "120"},
		{"/ä", "120", "120"},
		{"/a\x7f", "120", "120"},
		{"/!~", "/!~", "/!~0000000002"},
		{"/e/x", "214", "214"},
		{"/e/", "120", "214"},
		{"/e", "211", "/e0000000002"},
		{"/" + letters(189), "/" + letters(189), "/" + letters(189) + "0000000002"},
		{"/" + letters(190), "/" + letters(190), "120"},
		{"/" + letters(199), "/" + letters(199), "120"},
		{"/" + letters(200), "120", "120"},
		{"/" + letters(219), "120", "120"},
		{"/none/" + letters(184), "210", "210"},
		{"/none/" + letters(185), "210", "120"},
		{"/none/" + letters(194), "210", "120"},
		{"/none/" + letters(195), "120", "120"},
	} {
		x := grown("/a", "/a/b")
		x.Apply(api.Deed{Zxid: 90, Kind: api.DeedCreate, Path: "/e", Owner: 1, Cversion: 2})
		for flags := range 4 {
			w := newTwin(t, fmt.Sprintf("%q, flags %d", c.path, flags), x, voters(0, 1))
			d := w.call(1, api.Ask{Kind: api.AskCreate, Path: c.path, Flags: flags})
			want, got := c.plain, d.Path
			if flags >= 2 {
				want = c.sequence
			}
			if d.Kind == api.DeedError {
				got = fmt.Sprint(int(d.Err))
			}
			if got != want || d.Kind == api.DeedCreate && (d.Owner == 1) != (flags&1 == 1) {
				t.Errorf("%s: %q, want %q: %s", w.what, got, want, tell(d))
			}
			w.same()
		}
	}
}

// TestNumbersOfCreates: they are the parent's Cversion, as far as ten digits go.
func TestNumbersOfCreates(t *testing.T) {
	for _, c := range []struct {
		cversion int
		want     string
	}{
		{0, "0000000000"}, {7, "0000000007"}, {999999999, "0999999999"}, {1000000000, "1000000000"}, {math.MaxInt32, "2147483647"}, {math.MaxInt32 + 1, ""}, {1 << 32, ""}, {1<<32 + 5, ""}, {1 << 62, ""},
	} {
		x := grown()
		x.Load([]api.Node{{Path: "/"}, {Path: "/a", Stat: api.Stat{Cversion: c.cversion}}})
		w := newTwin(t, fmt.Sprint(c.cversion), x, voters(0, 1))
		create := api.Ask{Kind: api.AskCreate, Path: "/a/q-", Flags: api.Sequence}
		if c.want == "" {
			w.want(1, create, api.ErrPath)
		} else if d := w.kind(1, create, api.DeedCreate); d.Path != "/a/q-"+c.want || d.Cversion != c.cversion+1 {
			t.Errorf("%s, want %s", tell(d), c.want)
		}
		if d := w.kind(1, api.Ask{Kind: api.AskCreate, Path: "/a/plain"}, api.DeedCreate); d.Cversion < c.cversion+1 {
			t.Error(tell(d))
		}
	}
}

// TestANumberThatIsTaken: somebody has made that name by hand.
func TestANumberThatIsTaken(t *testing.T) {
	w := newTwin(t, "taken", grown("/a", "/a/q-0000000001"), voters(0, 1))
	create := api.Ask{Kind: api.AskCreate, Path: "/a/q-", Flags: api.Sequence}
	w.want(1, create, api.ErrThere)
	w.want(1, create, api.ErrThere)
	w.kind(1, api.Ask{Kind: api.AskCreate, Path: "/a/other"}, api.DeedCreate)
	if d := w.kind(1, create, api.DeedCreate); d.Path != "/a/q-0000000002" {
		t.Error(tell(d))
	}
	w.same()
}

func TestCreateAtTheLimit(t *testing.T) {
	for _, there := range []int{498, 499, 500, 501} {
		w := newTwin(t, fmt.Sprintf("%d nodes", there), wide(there), voters(0, 1))
		for i := there; i < 500; i++ {
			w.kind(1, api.Ask{Kind: api.AskCreate, Path: fmt.Sprintf("/new%d", i)}, api.DeedCreate)
		}
		w.want(1, api.Ask{Kind: api.AskCreate, Path: "/more"}, api.ErrBusy)
		w.want(1, api.Ask{Kind: api.AskCreate, Path: "/more", Flags: 3}, api.ErrBusy)
		w.want(1, api.Ask{Kind: api.AskCreate, Path: "/n0000"}, api.ErrThere)
		w.want(1, api.Ask{Kind: api.AskCreate, Path: "/none/x"}, api.ErrNode)
		gone, more := api.Ask{Kind: api.AskDelete, Path: "/n0007"}, api.Ask{Kind: api.AskCreate, Path: "/more"}
		w.want(1, api.Ask{Kind: api.AskMulti, Parts: []api.Ask{more, gone}}, api.ErrBusy)
		two := api.Ask{Kind: api.AskMulti, Parts: []api.Ask{gone, more, {Kind: api.AskCreate, Path: "/more2"}}}
		w.want(1, two, api.ErrBusy)
		if there > 500 {
			continue
		}
		w.kind(1, api.Ask{Kind: api.AskMulti, Parts: []api.Ask{gone, more}}, api.DeedMulti)
		w.want(1, api.Ask{Kind: api.AskCreate, Path: "/more3"}, api.ErrBusy)
		w.kind(1, api.Ask{Kind: api.AskDelete, Path: "/n0008"}, api.DeedDelete)
		w.kind(1, api.Ask{Kind: api.AskCreate, Path: "/more3"}, api.DeedCreate)
		w.want(1, api.Ask{Kind: api.AskCreate, Path: "/more4"}, api.ErrBusy)
		w.same()
	}
}

// TestDataOfDeeds: it is the call's, whatever its length.
func TestDataOfDeeds(t *testing.T) {
	for _, length := range []int{0, 1, 999, 1000} {
		data := bytes.Repeat([]byte{0, 255}, length)[:length]
		w := newTwin(t, fmt.Sprint(length), grown("/a"), voters(0, 1))
		create, set := api.Ask{Kind: api.AskCreate, Path: "/b", Data: data}, api.Ask{Kind: api.AskSet, Path: "/a", Data: data}
		for _, d := range []api.Deed{w.call(1, create), w.call(1, set)} {
			if !bytes.Equal(d.Data, data) {
				t.Error(tell(d))
			}
		}
		create.Path, set.Version = "/c", 1
		d := w.kind(1, api.Ask{Kind: api.AskMulti, Parts: []api.Ask{create, set}}, api.DeedMulti)
		if !bytes.Equal(d.Parts[0].Data, data) || !bytes.Equal(d.Parts[1].Data, data) {
			t.Error(tell(d))
		}
	}
}

// TestVersions: of a set, a delete and a check, which tell the same of a node's version.
func TestVersions(t *testing.T) {
	for _, now := range []int{0, 1, 5, 1 << 32, math.MaxInt - 1} {
		for _, asked := range []int{-1, 0, 1, 4, 5, 6, 1 << 32, 1<<32 + 5, math.MaxInt} {
			x := grown()
			x.Load([]api.Node{{Path: "/", Stat: api.Stat{Version: now}}, {Path: "/a", Stat: api.Stat{Version: now}}})
			fits := asked == -1 || asked == now
			for kind, want := range map[api.AskKind]api.DeedKind{api.AskSet: api.DeedSet, api.AskDelete: api.DeedDelete, api.AskCheck: api.DeedSync} {
				w := newTwin(t, fmt.Sprintf("%d, kind %d of %d", now, kind, asked), x, voters(0, 1))
				for _, p := range []string{"/a", "/"} {
					a := api.Ask{Kind: kind, Path: p, Version: asked}
					if kind == api.AskCheck {
						a = api.Ask{Kind: api.AskMulti, Parts: []api.Ask{a}}
					}
					switch {
					case p == "/" && kind == api.AskDelete:
						w.want(1, a, api.ErrPath)
					case !fits:
						w.want(1, a, api.ErrVersion)
					default:
						if d := w.kind(1, a, want); kind == api.AskSet && d.Version != now+1 {
							t.Errorf("%s: %s", w.what, tell(d))
						}
					}
				}
				w.same()
			}
		}
	}
}

// TestOrderOfErrors: of each kind, where several are so the first one counts.
func TestOrderOfErrors(t *testing.T) {
	x := wide(500)
	all := x.All()
	for i := range all {
		switch all[i].Path {
		case "/n0001":
			all[i].Stat.Owner = 1
		case "/n0002":
			all[i].Stat.Version = 3
		}
	}
	all = append(all, api.Node{Path: "/n0001/x"}, api.Node{Path: "/n0002/x"}) // one has a child though it is owned: Load takes that
	slices.SortFunc(all, func(a, b api.Node) int { return strings.Compare(a.Path, b.Path) })
	if errno := x.Load(all); errno != api.OK {
		t.Fatal(errno)
	}
	for _, c := range []struct {
		a    api.Ask
		want api.Errno
	}{
		{api.Ask{Kind: api.AskCreate, Path: "/n0001//x"}, api.ErrPath},
		{api.Ask{Kind: api.AskCreate, Path: "/none/x/"}, api.ErrPath},
		{api.Ask{Kind: api.AskCreate, Path: "/none/x"}, api.ErrNode},
		{api.Ask{Kind: api.AskCreate, Path: "/n0001/x"}, api.ErrEphemeral},
		{api.Ask{Kind: api.AskCreate, Path: "/n0001/y"}, api.ErrEphemeral},
		{api.Ask{Kind: api.AskCreate, Path: "/n0002/x"}, api.ErrThere},
		{api.Ask{Kind: api.AskCreate, Path: "/n0002/y"}, api.ErrBusy},
		{api.Ask{Kind: api.AskDelete, Path: "/", Version: 9}, api.ErrPath},
		{api.Ask{Kind: api.AskDelete, Path: "/none/", Version: 9}, api.ErrPath},
		{api.Ask{Kind: api.AskDelete, Path: "/none", Version: 9}, api.ErrNode},
		{api.Ask{Kind: api.AskDelete, Path: "/n0002", Version: 9}, api.ErrVersion},
		{api.Ask{Kind: api.AskDelete, Path: "/n0002", Version: 3}, api.ErrChildren},
		{api.Ask{Kind: api.AskDelete, Path: "/n0002", Version: -1}, api.ErrChildren},
		{api.Ask{Kind: api.AskSet, Path: "none", Version: 9}, api.ErrPath},
		{api.Ask{Kind: api.AskSet, Path: "/none", Version: 9}, api.ErrNode},
		{api.Ask{Kind: api.AskSet, Path: "/n0002", Version: 9}, api.ErrVersion},
		{api.Ask{Kind: api.AskCheck, Path: "", Version: 9}, api.ErrPath},
		{api.Ask{Kind: api.AskCheck, Path: "/none", Version: 9}, api.ErrNode},
		{api.Ask{Kind: api.AskCheck, Path: "/n0002", Version: 9}, api.ErrVersion},
		{api.Ask{Kind: api.AskConfig, From: 9}, api.ErrVersion},
		{api.Ask{Kind: api.AskConfig}, api.ErrConfig},
	} {
		w := newTwin(t, "order", x, voters(0, 1))
		if c.a.Kind != api.AskCheck {
			w.want(1, c.a, c.want)
		}
		if c.a.Kind != api.AskConfig {
			w.want(1, api.Ask{Kind: api.AskMulti, Parts: []api.Ask{{Kind: api.AskSet, Path: "/n0003"}, c.a, {Kind: api.AskSet, Path: "none"}}}, c.want)
		}
		w.sameNodes()
	}
}

// TestMultiSeesThosePartsAhead: of each kind.
func TestMultiSeesThosePartsAhead(t *testing.T) {
	create := func(p string, flags int) api.Ask { return api.Ask{Kind: api.AskCreate, Path: p, Flags: flags} }
	gone := func(p string, version int) api.Ask { return api.Ask{Kind: api.AskDelete, Path: p, Version: version} }
	set := func(p string, version int) api.Ask { return api.Ask{Kind: api.AskSet, Path: p, Version: version} }
	check := func(p string, version int) api.Ask { return api.Ask{Kind: api.AskCheck, Path: p, Version: version} }
	for what, c := range map[string]struct {
		parts []api.Ask
		want  string
	}{
		"a child of what is new":        {[]api.Ask{create("/m", 0), create("/m/x", 0)}, "1 /m 2, 1 /m/x 1"},
		"a child of what is gone":       {[]api.Ask{gone("/a/b", 0), gone("/a", 0), create("/a/c", 0)}, "210"},
		"a child of what is owned":      {[]api.Ask{create("/m", 1), create("/m/x", 0)}, "214"},
		"what is new once more":         {[]api.Ask{create("/m", 0), create("/m", 0)}, "211"},
		"what is gone once more":        {[]api.Ask{gone("/a/b", 0), gone("/a/b", -1)}, "210"},
		"what was there, gone and new":  {[]api.Ask{set("/a/b", 0), gone("/a/b", 1), create("/a/b", 0), check("/a/b", 0)}, "3 /a/b 0, 2 /a/b 2, 1 /a/b 3"},
		"a parent whose child is gone":  {[]api.Ask{gone("/a/b", 0), gone("/a", 0)}, "2 /a/b 2, 2 /a 2"},
		"a parent with a new child":     {[]api.Ask{gone("/a/b", 0), create("/a/c", 0), gone("/a", 0)}, "213"},
		"numbers in a row":              {[]api.Ask{create("/a/", 2), create("/a/", 3), gone("/a/0000000002", 0), create("/a/", 2)}, "1 /a/0000000001 2, 1 /a/0000000002 3, 2 /a/0000000002 4, 1 /a/0000000004 5"},
		"versions in a row":             {[]api.Ask{set("/a", 0), set("/a", 1), check("/a", 2), set("/a", -1), check("/a", 3)}, "3 /a 0, 3 /a 0, 3 /a 0"},
		"an old version":                {[]api.Ask{set("/a", 0), set("/a", 0)}, "212"},
		"a check of an old version":     {[]api.Ask{set("/a", 0), check("/a", 0)}, "212"},
		"a check of what is new":        {[]api.Ask{check("/m", -1), create("/m", 0)}, "210"},
		"checks alone":                  {[]api.Ask{check("/a", 0), check("/", -1), check("/a/b", 0)}, "sync"},
		"one check":                     {[]api.Ask{check("/", 0)}, "sync"},
		"the first error of two":        {[]api.Ask{set("/none", 0), create("/a", 0)}, "210"},
		"the first error of two others": {[]api.Ask{check("/a", 0), create("/a", 0), set("/none", 0)}, "211"},
		"sixteen parts":                 {slices.Repeat([]api.Ask{set("/a", -1)}, 16), strings.Repeat("3 /a 0, ", 15) + "3 /a 0"},
		"an error in the last of all":   {append(slices.Repeat([]api.Ask{set("/a", -1)}, 15), set("/a", 14)), "212"},
	} {
		w := newTwin(t, what, grown("/a", "/a/b"), voters(0, 1))
		d := w.call(1, api.Ask{Kind: api.AskMulti, Parts: c.parts})
		var parts []string
		for _, part := range d.Parts {
			parts = append(parts, fmt.Sprintf("%d %s %d", part.Kind, part.Path, part.Cversion))
		}
		got := strings.Join(parts, ", ")
		switch d.Kind {
		case api.DeedError:
			got += fmt.Sprint(int(d.Err))
		case api.DeedSync:
			got += "sync"
		}
		if got != c.want {
			t.Errorf("%s: %s, want %s", what, got, c.want)
		}
		w.probe(1, "/", "/a", "/a/b", "/m", "/m/x")
	}
}

// TestMultisOwner: what it creates for its session is that one's, though parts name none.
func TestMultisOwner(t *testing.T) {
	w := newTwin(t, "owner", seated(api.Sitting{Session: 70, Timeout: 9}, api.Sitting{Session: 71, Timeout: 9}), voters(0, 1))
	d := w.kind(71, api.Ask{Kind: api.AskMulti, Parts: []api.Ask{{Kind: api.AskCreate, Path: "/x", Flags: 1}, {Kind: api.AskCreate, Path: "/y"}, {Kind: api.AskCreate, Path: "/z", Flags: 3}}}, api.DeedMulti)
	if d.Parts[0].Owner != 71 || d.Parts[1].Owner != 0 || d.Parts[2].Owner != 71 {
		t.Error(tell(d))
	}
	for _, part := range d.Parts {
		if part.Session != 0 || part.Turn != 0 || part.Xid != 0 || part.Zxid != 0 || part.Time != 0 {
			t.Error(tell(part))
		}
	}
	if d := w.kind(70, api.Ask{Kind: api.AskClose}, api.DeedClose); len(d.Parts) != 0 {
		t.Error(tell(d))
	}
	if d := w.kind(71, api.Ask{Kind: api.AskClose}, api.DeedClose); len(d.Parts) != 2 {
		t.Error(tell(d))
	}
	w.same()
}

func TestConfigs(t *testing.T) {
	w := newTwin(t, "configs", grown(), voters(3, 1))
	asks := func(from api.Zxid, ids ...int) api.Ask {
		return api.Ask{Kind: api.AskConfig, From: from, Members: voters(0, ids...).Members}
	}
	w.want(1, asks(4, 2), api.ErrVersion)
	w.want(1, asks(0, 2, 1), api.ErrConfig)
	w.want(1, asks(3), api.ErrConfig)
	if e, waits := w.p.Config(); waits || e.Version != 3 {
		t.Error(e, waits)
	}
	for i, from := range []api.Zxid{3, 0} {
		d := w.kind(1, asks(from, 1+i, 4), api.DeedConfig)
		if d.Config.Version != d.Zxid || len(d.Config.Members) != 2 || d.Config.Members[0].Id != 1+i || !deed.Right(d) {
			t.Error(tell(d))
		}
		for _, a := range []api.Ask{asks(0, 3), asks(99, 3), asks(d.Zxid, 3), asks(0)} {
			w.want(1, a, api.ErrPending)
		}
		w.done(api.Deed{Zxid: d.Zxid + 100, Kind: api.DeedSync})
		w.want(1, asks(0, 3), api.ErrPending)
		w.done(d)
		w.want(1, asks(d.Zxid-1, 3), api.ErrVersion)
	}
	last, _ := w.p.Config()
	w.kind(1, asks(last.Version, 5), api.DeedConfig)
	w.same()
}

// TestConfigOfTheLastZxids: a config's version ends sooner than zxids do.
func TestConfigOfTheLastZxids(t *testing.T) {
	for _, z := range []api.Zxid{1<<62 - 1, 1 << 62, 1<<62 + 1, testkit.LastZxid} {
		if deed.Make(deed.Epoch(z), deed.Counter(z)) != z {
			t.Fatal(z)
		}
		w := newTwin(t, fmt.Sprint(z), grown(), voters(0, 1))
		d := w.make(api.Ask{Kind: api.AskConfig, Session: 1, Turn: 1, Xid: 1, Members: voters(0, 2).Members}, z, 0)
		if want := z <= 1<<62; (d.Kind == api.DeedConfig) != want || !want && d.Err != api.ErrConfig || !deed.Right(d) {
			t.Error(tell(d))
		}
	}
}

// P18.4

func TestRefuse(t *testing.T) {
	for _, why := range []api.Errno{1, api.ErrQuorum, api.ErrBusy, 1 << 40, math.MaxInt} {
		w := newTwin(t, fmt.Sprint("why ", int(why)), grown("/a"), voters(0, 1))
		for i, a := range append(eachChange(), api.Ask{Kind: api.AskOpen, Turn: 9, Xid: 9, Timeout: 5}, api.Ask{Kind: api.AskClose, Session: 1}) {
			if a.Turn == 1 {
				a.Xid += i
			}
			d := w.refuse(a, api.Zxid(10+i), int64(20+i), why)
			if d.Kind != api.DeedError || d.Err != why || d.Turn != a.Turn || d.Xid != a.Xid || !deed.Right(d) {
				t.Error(tell(d))
			}
			if w.p.Pending() != i+1 {
				t.Errorf("%d of %d", w.p.Pending(), i+1)
			}
		}
		if len(w.x.All()) != 2 || len(w.x.Sittings()) != 1 {
			t.Error("something was done")
		}
		w.same()
	}
}

// TestARefusalIsMade: its zxid, its time, its turn and its xid count, and the sitting knows of the turn.
func TestARefusalIsMade(t *testing.T) {
	w := newTwin(t, "refused", grown("/a"), voters(0, 1))
	a := api.Ask{Kind: api.AskSync, Session: 1, Turn: 4, Xid: 5}
	w.refuse(a, 10, 20, api.ErrBusy)
	if s, _ := w.p.Sitting(1); s.Turn != 4 {
		t.Error(s)
	}
	for _, errno := range []api.Errno{w.errno(a, 11, 20), w.errno(api.Ask{Kind: api.AskSync, Session: 1, Turn: 3, Xid: 9}, 11, 20)} {
		if errno != api.ErrSession {
			t.Error(errno)
		}
	}
	a.Xid = 6
	for _, errno := range []api.Errno{w.errno(a, 10, 20), w.errno(a, 11, 19)} {
		if errno != api.ErrArg {
			t.Error(errno)
		}
	}
	if errno := w.errno(a, 11, 20); errno != api.OK {
		t.Error(errno)
	}
}

func TestRefuseOfNoError(t *testing.T) {
	w := newTwin(t, "no error", grown("/a"), voters(0, 1))
	for _, why := range []api.Errno{0, -1, math.MinInt} {
		for _, session := range []int64{1, 99} { // ErrArg stands ahead of ErrSession
			for _, a := range eachChange() {
				a.Session = session
				if d, errno := w.p.Refuse(a, 10, 20, why); errno != api.ErrArg || tell(d) != tell(api.Deed{}) {
					t.Errorf("why %d: %s, %d", int(why), tell(d), int(errno))
				}
			}
		}
	}
	w.look()
	w.make(api.Ask{Kind: api.AskSync, Session: 1}, 1, 0)
}

func TestSittings(t *testing.T) {
	l := []api.Sitting{{Session: 5, Timeout: 6, Turn: 7}, {Session: 1<<32 + 5, Timeout: 8, Turn: 9}, {Session: math.MaxInt64, Timeout: -1, Turn: -1}}
	w := newTwin(t, "sittings", seated(l...), voters(0, 1))
	for _, s := range l {
		w.sitting(s.Session)
		w.sitting(s.Session - 1)
	}
	w.make(api.Ask{Kind: api.AskOpen, Turn: 3, Timeout: 4}, 6, 0)
	if s, ok := w.p.Sitting(6); s != (api.Sitting{Session: 6, Timeout: 4, Turn: 3}) || !ok {
		t.Error(s, ok)
	}
	w.make(api.Ask{Kind: api.AskSync, Session: 6, Turn: 8, Xid: 1}, 7, 0)
	w.make(api.Ask{Kind: api.AskSet, Session: 5, Turn: 9, Xid: 1, Path: "/none"}, 8, 0)
	for session, turn := range map[int64]int{5: 9, 6: 8, 1<<32 + 5: 9, math.MaxInt64: -1} {
		if s, ok := w.p.Sitting(session); s.Turn != turn || !ok {
			t.Error(s, ok)
		}
	}
	w.make(api.Ask{Kind: api.AskClose, Session: 5}, 9, 0)
	if s, ok := w.p.Sitting(5); s != (api.Sitting{}) || ok {
		t.Error(s, ok)
	}
}

func TestDone(t *testing.T) {
	made := []api.Zxid{5, 6, 9, 1 << 32, 1<<32 + 1, testkit.LastZxid}
	for _, upTo := range []api.Zxid{math.MinInt64, -1, 0, 4, 5, 6, 7, 8, 9, 10, 1<<32 - 1, 1 << 32, 1<<32 + 1, 1<<32 + 2, testkit.LastZxid - 1, testkit.LastZxid, math.MaxInt64} {
		for count := range len(made) + 1 {
			w := newTwin(t, fmt.Sprintf("%d of %d", upTo, count), grown(), voters(0, 1))
			for i, z := range made[:count] {
				w.make(api.Ask{Kind: api.AskSync, Session: 1, Turn: 1, Xid: i}, z, 0)
			}
			left := 0
			for _, z := range made[:count] {
				if z > upTo {
					left++
				}
			}
			for range 2 {
				w.done(api.Deed{Zxid: upTo, Kind: api.DeedSync})
				if w.p.Pending() != left {
					t.Errorf("%s: %d, want %d", w.what, w.p.Pending(), left)
				}
			}
			w.done(api.Deed{Zxid: min(upTo, 4)})
			for i, z := range made[count:] { // what is done says nothing of what is made later
				w.make(api.Ask{Kind: api.AskSync, Session: 1, Turn: 2, Xid: i}, z, 0)
			}
			if got := w.p.Pending(); got != left+len(made)-count {
				t.Errorf("%s, then the others: %d", w.what, got)
			}
		}
	}
}

// TestDoneOfAConfig: of which deeds a config is no longer pending.
func TestDoneOfAConfig(t *testing.T) {
	for what, c := range map[string]struct {
		d    api.Deed
		left bool
	}{
		"that one":                       {api.Deed{Zxid: 20, Kind: api.DeedConfig, Config: voters(20, 2)}, false},
		"its version alone":              {api.Deed{Kind: api.DeedConfig, Config: api.Ensemble{Version: 20}}, false},
		"its version, of a later deed":   {api.Deed{Zxid: 30, Kind: api.DeedConfig, Config: api.Ensemble{Version: 20}}, false},
		"the one ahead":                  {api.Deed{Zxid: 5, Kind: api.DeedConfig, Config: voters(5, 1)}, true},
		"a later one":                    {api.Deed{Zxid: 30, Kind: api.DeedConfig, Config: voters(30, 2)}, true},
		"one of an older version":        {api.Deed{Zxid: 20, Kind: api.DeedConfig, Config: voters(19, 2)}, true},
		"one of no version":              {api.Deed{Zxid: 20, Kind: api.DeedConfig, Config: api.Ensemble{}}, true},
		"one whose version is far above": {api.Deed{Zxid: 20, Kind: api.DeedConfig, Config: api.Ensemble{Version: 1<<32 + 20}}, true},
		"another kind":                   {api.Deed{Zxid: 20, Kind: api.DeedSync, Config: voters(20, 2)}, true},
		"an error":                       {api.Deed{Zxid: 20, Kind: api.DeedError, Err: 3}, true},
		"nothing":                        {api.Deed{}, true},
	} {
		w := newTwin(t, what, grown(), voters(5, 1))
		w.done(api.Deed{Zxid: 5, Kind: api.DeedConfig, Config: voters(5, 1)})
		w.make(api.Ask{Kind: api.AskConfig, Session: 1, Turn: 1, Xid: 1, Members: voters(0, 2).Members}, 20, 0)
		w.done(c.d)
		if e, waits := w.p.Config(); waits != c.left || e.Version != 20 {
			t.Errorf("%s: %v, %v", what, e, waits)
		}
		next := api.Ask{Kind: api.AskConfig, Members: voters(0, 3).Members}
		if c.left {
			w.want(1, next, api.ErrPending)
		} else {
			w.kind(1, next, api.DeedConfig)
		}
	}
}

// TestARefusedConfigIsNotMade: it neither stands nor waits.
func TestARefusedConfigIsNotMade(t *testing.T) {
	w := newTwin(t, "refused", grown(), voters(0, 1))
	a := api.Ask{Kind: api.AskConfig, Session: 1, Turn: 1, Xid: 1, Members: voters(0, 2).Members}
	w.refuse(a, 10, 0, api.ErrQuorum)
	if e, waits := w.p.Config(); waits || e.Version != 0 || w.p.Pending() != 1 {
		t.Error(e, waits)
	}
	w.kind(1, a, api.DeedConfig)
}

// R1

// TestTreesThatNoPlanMakes: whatever a tree has been loaded with, each call of its sessions has an answer, and the deeds are done where they are right.
func TestTreesThatNoPlanMakes(t *testing.T) {
	most := api.Stat{Version: math.MaxInt, Cversion: math.MaxInt}
	for what, l := range map[string][]api.Node{
		"the root is owned":      {{Path: "/", Stat: api.Stat{Owner: 1}}, {Path: "/a"}},
		"parents are owned":      {{Path: "/"}, {Path: "/a", Stat: api.Stat{Owner: 1}}, {Path: "/a/b", Stat: api.Stat{Owner: 1}}, {Path: "/a/b/c"}},
		"parents are missing":    {{Path: "/"}, {Path: "/x/a", Stat: api.Stat{Owner: 1}}, {Path: "/x/b/c", Stat: api.Stat{Owner: 1}}},
		"the greatest versions":  {{Path: "/", Stat: most}, {Path: "/a", Stat: most}},
		"more nodes than may be": slices.Concat([]api.Node{{Path: "/"}}, ownedNodes(501)),
	} {
		x := grown()
		if errno := x.Load(l); errno != api.OK {
			t.Fatal(errno)
		}
		for i, n := range l[:min(len(l), 4)] {
			p := plan.New(x, voters(0, 1))
			for j, a := range []api.Ask{
				{Kind: api.AskSet, Path: n.Path, Version: -1},
				{Kind: api.AskSet, Path: n.Path, Version: n.Stat.Version},
				{Kind: api.AskCreate, Path: n.Path + "/new"},
				{Kind: api.AskCreate, Path: n.Path + "/", Flags: 3},
				{Kind: api.AskDelete, Path: n.Path, Version: -1},
				{Kind: api.AskMulti, Parts: []api.Ask{{Kind: api.AskDelete, Path: n.Path, Version: -1}, {Kind: api.AskSet, Path: n.Path, Version: -1}}},
				{Kind: api.AskClose},
			} {
				a.Session, a.Turn, a.Xid = 1, 1, j
				if d, errno := p.Make(a, api.Zxid(10+j), 0); errno != api.OK || d.Kind == 0 || p.Pending() != j+1 {
					t.Errorf("%s, node %d: %+v: %s, %d", what, i, a, tell(d), int(errno))
				}
			}
		}
	}
}

// TestACloseThatIsNotRight: who owns more nodes than a deed may name stays, and its calls that were made deeds of are still known.
func TestACloseThatIsNotRight(t *testing.T) {
	x := grown()
	x.Load(slices.Concat([]api.Node{{Path: "/"}}, ownedNodes(501)))
	w := newTwin(t, "too many", x, voters(0, 1))
	a := api.Ask{Kind: api.AskClose, Session: 1, Turn: 2, Xid: 5}
	if d := w.make(a, 5, 0); d.Kind != api.DeedClose || len(d.Parts) != 501 || deed.Right(d) {
		t.Errorf("%.300s", tell(d))
	}
	if errno := w.errno(a, 6, 0); errno != api.ErrSession {
		t.Error(errno)
	}
	a.Xid++
	if errno := w.errno(a, 6, 0); errno != api.OK {
		t.Error(errno)
	}
}

func ownedNodes(count int) []api.Node {
	var l []api.Node
	for i := range count {
		l = append(l, api.Node{Path: fmt.Sprintf("/n%04d", i), Stat: api.Stat{Owner: 1}})
	}
	return l
}

// R5

func TestNoPlan(t *testing.T) {
	for _, p := range []*plan.Plan{nil, {}, new(plan.Plan), plan.New(nil, voters(0, 1)), plan.New(tree.New(), api.Ensemble{})} {
		for range 2 {
			for _, a := range append(eachChange(), api.Ask{}, api.Ask{Kind: api.AskOpen, Timeout: 5}, api.Ask{Kind: api.AskGet, Xid: -1}) {
				for _, z := range []api.Zxid{-1, 0, 1} {
					if d, errno := p.Make(a, z, -1); errno != api.ErrNil || tell(d) != tell(api.Deed{}) {
						t.Errorf("Make: %s, %d", tell(d), int(errno))
					}
					for _, why := range []api.Errno{-1, 0, 1} {
						if d, errno := p.Refuse(a, z, 0, why); errno != api.ErrNil || tell(d) != tell(api.Deed{}) {
							t.Errorf("Refuse: %s, %d", tell(d), int(errno))
						}
					}
				}
			}
			p.Done(api.Deed{Zxid: 5, Kind: api.DeedConfig})
			e, waits := p.Config()
			s, ok := p.Sitting(1)
			if p.Pending() != 0 || waits || e.Version != 0 || len(e.Members) != 0 || ok || s != (api.Sitting{}) {
				t.Errorf("%d, %v, %v, %v, %v", p.Pending(), e, waits, s, ok)
			}
		}
	}
}

// R3

// TestCallsAreNeitherChangedNorKept: what happens to a call, or to its deed, later on, neither the plan nor another answer sees.
func TestCallsAreNeitherChangedNorKept(t *testing.T) {
	for _, a := range eachChange() {
		for _, refused := range []bool{false, true} {
			w := newTwin(t, fmt.Sprintf("kind %d", a.Kind), grown("/a"), voters(0, 1))
			call := func(a api.Ask) (api.Deed, api.Errno) { return w.p.Make(a, 10, 0) }
			model := func(a api.Ask) (api.Deed, api.Errno) { return w.m.make(a, 10, 0) }
			if refused {
				call = func(a api.Ask) (api.Deed, api.Errno) { return w.p.Refuse(a, 10, 0, 3) }
				model = func(a api.Ask) (api.Deed, api.Errno) { return w.m.refuse(a, 10, 0, 3) }
			}
			want, _ := model(a)
			given := roomyAsk(a)
			was := fmt.Sprintf("%+v", whole(given))
			got, errno := call(given)
			if errno != api.OK || tell(got) != tell(want) {
				t.Fatalf("%s: %s, %d", w.what, tell(got), int(errno))
			}
			if now := fmt.Sprintf("%+v", whole(given)); now != was {
				t.Errorf("%s: the call became %s", w.what, now)
			}
			spoilAsk(given)
			if tell(got) != tell(want) {
				t.Errorf("%s: the deed shares the call's memory: %s", w.what, tell(got))
			}
			w.look()
			testkit.SpoilDeed(got)
			w.look()
			w.x.Apply(want)
			if _, ok := w.m.sitting(1); ok {
				w.probe(1, "/", "/a", "/new", "/a/b")
			}
		}
	}
}

func TestDeedsThatAreDoneAreNeitherChangedNorKept(t *testing.T) {
	w := newTwin(t, "done", grown("/a"), voters(0, 1))
	w.make(api.Ask{Kind: api.AskConfig, Session: 1, Turn: 1, Xid: 1, Members: voters(0, 2).Members}, 20, 0)
	for _, like := range append(testkit.EachDeed(), api.Deed{Zxid: 20, Kind: api.DeedConfig, Config: voters(20, 2)}) {
		d, twin := testkit.RoomyDeed(like), testkit.RoomyDeed(like)
		w.m.done(like)
		w.p.Done(d)
		if !reflect.DeepEqual(d, twin) || !slices.Equal(d.Data[:cap(d.Data)], twin.Data[:cap(twin.Data)]) {
			t.Errorf("%s became %s", tell(twin), tell(d))
		}
		testkit.SpoilDeed(d)
		w.look()
	}
}

func TestConfigsAreNew(t *testing.T) {
	given := voters(0, 1, 2, 3)
	given.Members = testkit.WithRoom(given.Members, api.Member{Id: 99})
	was := slices.Clone(given.Members[:cap(given.Members)])
	p := plan.New(grown(), given)
	if !slices.Equal(given.Members[:cap(given.Members)], was) {
		t.Error("the config was changed")
	}
	testkit.Spoil(given.Members, api.Member{Id: 77})
	for range 3 {
		e, _ := p.Config()
		if fmt.Sprint(e) != fmt.Sprint(voters(0, 1, 2, 3)) {
			t.Fatal(e)
		}
		testkit.Spoil(e.Members, api.Member{Id: 66})
	}
	d, _ := p.Make(api.Ask{Kind: api.AskConfig, Session: 1, Turn: 1, Members: voters(0, 4, 5).Members}, 9, 0)
	testkit.Spoil(d.Config.Members, api.Member{Id: 55})
	for range 3 {
		e, _ := p.Config()
		if fmt.Sprint(e) != fmt.Sprint(voters(9, 4, 5)) {
			t.Fatal(e)
		}
		testkit.Spoil(e.Members, api.Member{Id: 66})
	}
}

// TestPartsShareNothing: neither with one another nor with the call's parts.
func TestPartsShareNothing(t *testing.T) {
	data := []byte("data")
	part := func(p string) api.Ask { return api.Ask{Kind: api.AskCreate, Path: p, Data: data} }
	p := plan.New(grown(), voters(0, 1))
	d, _ := p.Make(api.Ask{Kind: api.AskMulti, Session: 1, Turn: 1, Parts: []api.Ask{part("/x"), part("/y"), part("/z")}}, 9, 0)
	for i := range d.Parts {
		testkit.Spoil(d.Parts[i].Data, byte('0'+i))
	}
	for i := range d.Parts {
		if want := strings.Repeat(string(rune('0'+i)), 4); string(d.Parts[i].Data) != want || string(data) != "data" {
			t.Errorf("%s, %s, want %s", d.Parts[i].Data, data, want)
		}
	}
}

// All promises at once.

// acts: what a short row may be of; each is done to a twin.
func acts() []func(w twin) {
	call := func(session int64, a api.Ask) func(twin) { return func(w twin) { w.call(session, a) } }
	create := func(p string, flags int) api.Ask { return api.Ask{Kind: api.AskCreate, Path: p, Flags: flags} }
	gone := func(p string, version int) api.Ask { return api.Ask{Kind: api.AskDelete, Path: p, Version: version} }
	set := func(p string, version int) api.Ask { return api.Ask{Kind: api.AskSet, Path: p, Version: version} }
	check := func(p string, version int) api.Ask { return api.Ask{Kind: api.AskCheck, Path: p, Version: version} }
	multi := func(parts ...api.Ask) api.Ask { return api.Ask{Kind: api.AskMulti, Parts: parts} }
	config := api.Ask{Kind: api.AskConfig, Members: voters(0, 2).Members}
	return []func(w twin){
		call(0, api.Ask{Kind: api.AskOpen, Timeout: 5}),
		call(1, api.Ask{Kind: api.AskClose}),
		func(w twin) { z, time := w.m.last(); w.make(api.Ask{Kind: api.AskClose, Session: 2}, z+1, time) },
		call(2, create("/a", 0)),
		call(1, create("/a/b", 1)),
		call(2, create("/a/b", 1)),
		call(1, create("/a/", 3)),
		call(2, gone("/a", 0)),
		call(2, gone("/a/b", -1)),
		call(2, set("/a", -1)),
		call(2, multi(create("/a", 0), create("/a/", 3), check("/a", 0))),
		call(2, multi(set("/a", 0), gone("/a/b", 0), gone("/a", 1))),
		call(1, multi(check("/a", 1), check("/", 0))),
		call(1, config),
		func(w twin) {
			a, z, time := w.next(config)
			a.Session, a.Turn = 2, 1
			w.refuse(a, z, time, api.ErrQuorum)
		},
		func(w twin) {
			z, _ := w.m.last()
			w.done(api.Deed{Zxid: z - 1, Kind: api.DeedConfig, Config: api.Ensemble{Version: z - 1}})
		},
		func(w twin) {
			w.done(api.Deed{Zxid: 99, Kind: api.DeedConfig, Config: api.Ensemble{Version: w.m.config.Version}})
		},
		func(w twin) { w.make(api.Ask{Kind: api.AskSync, Session: 2, Turn: 2, Xid: 1}, 5, 3) },
	}
}

func TestAllShortRows(t *testing.T) {
	two := seated(api.Sitting{Session: 1, Timeout: 9}, api.Sitting{Session: 2, Timeout: 9, Turn: 1})
	all := acts()
	for i := range len(all) * len(all) * len(all) {
		row := []int{i % len(all), i / len(all) % len(all), i / len(all) / len(all)}
		w := newTwin(t, fmt.Sprint("row ", row), two, voters(0, 1))
		for _, act := range row {
			all[act](w)
		}
		z, _ := w.m.last()
		if _, ok := w.m.sitting(2); ok {
			w.probe(2, "/", "/a", "/a/b")
		} else {
			w.make(api.Ask{Kind: api.AskOpen, Timeout: 5}, z+1, 9)
			w.probe(int64(z+1), "/", "/a", "/a/b")
		}
	}
}

func TestLongRows(t *testing.T) {
	next := testkit.Walk()
	kinds, errs := map[api.DeedKind]int{}, map[api.Errno]int{}
	for i := range 60 {
		w := newWalker(t, fmt.Sprint("walk ", i), next)
		for range 300 {
			if d, ok := w.act(); ok {
				kinds[d.Kind]++
				errs[d.Err]++
				if !deed.Right(d) {
					t.Errorf("%s: %s is not right", w.what, tell(d))
				}
			}
		}
		w.same()
	}
	for kind := api.DeedCreate; kind <= api.DeedError; kind++ {
		if kinds[kind] < 50 {
			t.Errorf("the kind %d came %d times", kind, kinds[kind])
		}
	}
	for _, errno := range []api.Errno{api.ErrPath, api.ErrConfig, api.ErrNode, api.ErrThere, api.ErrVersion, api.ErrChildren, api.ErrEphemeral, api.ErrPending} {
		if errs[errno] < 20 {
			t.Errorf("the error %d came %d times", int(errno), errs[errno])
		}
	}
}

// P18.5

// TestWhatFollows: asked by its own words of deeds of long rows.
func TestWhatFollows(t *testing.T) {
	next := testkit.Walk()
	for i := range 40 {
		w := newWalker(t, fmt.Sprint("walk ", i), next)
		once := tree.New()
		for range 200 {
			d, ok := w.act()
			if !ok {
				continue
			}
			once.Apply(d)
			if !tree.Same(once, w.x) { // the twin's tree has each deed done twice
				t.Fatalf("%s: done twice another tree: %s", w.what, tell(d))
			}
			w.sound()
			checkAlone(t, w.what, w.x, d)
		}
	}
}

// checkAlone: done to the tree behind d, and to that tree with much else in it, d leaves the same in the nodes that it names.
func checkAlone(t *testing.T, what string, x *tree.Tree, d api.Deed) {
	t.Helper()
	one, two := x.Copy(), x.Copy()
	two.Apply(api.Deed{Zxid: 1 << 40, Kind: api.DeedCreate, Path: "/else", Data: []byte("else"), Cversion: 70})
	two.Apply(api.Deed{Zxid: 1<<40 + 1, Kind: api.DeedCreate, Path: "/else/more", Cversion: 1})
	two.Apply(api.Deed{Zxid: 1<<40 + 2, Kind: api.DeedOpen, Timeout: 5})
	one.Apply(d)
	two.Apply(d)
	for _, part := range append(d.Parts, d) {
		a, ok := one.Get(part.Path)
		b, ok2 := two.Get(part.Path)
		if part.Path != "/" && (ok != ok2 || fmt.Sprint(a) != fmt.Sprint(b)) {
			t.Errorf("%s: %s leaves %v and %v", what, tell(d), a, b)
		}
	}
}

// TestImagesOfWhatAPlanMakes: P13.5 of chapter 13 speaks of its deeds.
func TestImagesOfWhatAPlanMakes(t *testing.T) {
	next := testkit.Walk()
	whole := 0
	for i := range 60 {
		w := newWalker(t, fmt.Sprint("walk ", i), next)
		grow := func(count int) {
			for range count {
				if d, ok := w.act(); ok && d.Kind == api.DeedConfig {
					w.done(d)
				}
			}
		}
		grow(60)
		from, _ := w.m.last()
		image := fuzzy.New(from, w.m.config)
		for through := false; !through; {
			through = image.Step(w.x, 1+next(4))
			if !through {
				grow(next(6))
			}
		}
		to, _ := w.m.last()
		b, errno := image.Done(to)
		if errno != api.OK {
			t.Fatalf("%s: %v", w.what, errno)
		}
		grow(next(20))
		x, config, last, errno := fuzzy.Restore(b, w.deeds)
		if z, _ := w.m.last(); errno != api.OK || !tree.Same(x, w.x) || last != z || fmt.Sprint(config) != fmt.Sprint(w.m.config) {
			t.Errorf("%s: restored another one: %v, %d, %v", w.what, errno, last, config)
		}
		if to > from {
			whole++
		}
	}
	if whole < 20 {
		t.Errorf("%d images were taken while something was made", whole)
	}
}

// R4

func TestSameStepsSameAnswers(t *testing.T) {
	rows := func() []string {
		next := testkit.Walk()
		var all []string
		for i := range 5 {
			w := newWalker(t, fmt.Sprint("walk ", i), next)
			for range 200 {
				w.act()
			}
			all = append(all, *w.log...)
		}
		return all
	}
	first := rows()
	for range 3 {
		if !slices.Equal(rows(), first) {
			t.Fatal("the same steps have other answers")
		}
	}
	if len(first) < 1000 {
		t.Error(len(first))
	}
}
