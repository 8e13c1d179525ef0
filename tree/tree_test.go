package tree_test

import (
	"fmt"
	"math"
	"reflect"
	"slices"
	"strings"
	"testing"

	"beadle/api"
	"beadle/testkit"
	"beadle/tree"
)

const (
	maxData = 1000
	maxZxid = 1<<62 + 1<<32 - 1
)

// The chapter's examples.

func TestExampleOfNodes(t *testing.T) {
	x := tree.New()
	x.Apply(api.Deed{Zxid: 5, Time: 7, Kind: api.DeedCreate, Path: "/a", Data: []byte("x"), Cversion: 1})
	checkNode(t, "created", x, api.Node{Path: "/a", Data: []byte("x"), Stat: api.Stat{Czxid: 5, Mzxid: 5, Pzxid: 5, Ctime: 7, Mtime: 7, Length: 1}})
	checkNode(t, "created", x, api.Node{Path: "/", Stat: api.Stat{Cversion: 1, Pzxid: 5, Children: 1}})
	checkList(t, "created", x, "/", "a")

	x.Apply(api.Deed{Zxid: 6, Kind: api.DeedSet, Path: "/a", Data: []byte("yz"), Version: 1})
	checkNode(t, "set", x, api.Node{Path: "/a", Data: []byte("yz"), Stat: api.Stat{Czxid: 5, Mzxid: 6, Pzxid: 5, Ctime: 7, Version: 1, Length: 2}})

	x.Apply(api.Deed{Zxid: 7, Kind: api.DeedDelete, Path: "/a", Cversion: 2})
	checkTree(t, "deleted", x, []api.Node{{Path: "/", Stat: api.Stat{Cversion: 2, Pzxid: 7}}}, nil)

	x.Apply(api.Deed{Zxid: 8, Kind: api.DeedDelete, Path: "/b", Cversion: 9})
	checkTree(t, "deleted what is not there", x, []api.Node{{Path: "/", Stat: api.Stat{Cversion: 9, Pzxid: 8}}}, nil)
}

func TestExampleOfSittings(t *testing.T) {
	x := tree.New()
	x.Apply(api.Deed{Zxid: 8, Turn: 3, Kind: api.DeedOpen, Timeout: 10})
	checkSittings(t, "opened", x, api.Sitting{Session: 8, Timeout: 10, Turn: 3})
	x.Apply(api.Deed{Zxid: 9, Session: 8, Turn: 4, Kind: api.DeedSync})
	checkSittings(t, "synced", x, api.Sitting{Session: 8, Timeout: 10, Turn: 4})
	x.Apply(api.Deed{Zxid: 10, Kind: api.DeedClose, Owner: 8})
	checkSittings(t, "closed", x)
}

// P11.1

func TestNew(t *testing.T) {
	w := newTwin(t, "New")
	w.look("new")
	checkTree(t, "new", w.x, []api.Node{{Path: "/"}}, nil)
	w.x.Seat(nil)
	checkSame(t, "two new ones", w.x, tree.New(), true)
}

func TestTreesAreTheirOwn(t *testing.T) {
	a, b := newTwin(t, "a"), newTwin(t, "b")
	a.apply(at(1, 1, create("/a", "x", 0, 1)), at(2, 1, open(5)), at(3, 1, set("/", "root", 1)))
	b.look("beside another one")
	b.apply(at(2, 1, over(2)), at(3, 1, remove("/a", 2)))
	a.look("beside another one")
}

// P11.2

// family: a twin whose nodes have all that a node may have, and two sittings.
func family(t *testing.T, what string) twin {
	t.Helper()
	w := newTwin(t, what)
	w.do(
		at(1, 11, open(10)),
		at(2, 12, of(0, 4, open(20))),
		at(3, 13, create("/a", "one", 0, 1)),
		at(4, 14, create("/a/b", "two", 1, 1)),
		at(5, 15, create("/a/c", "", 2, 2)),
		at(6, 16, create("/a/b/d", "three", 1, 7)),
		at(7, 17, create("/b", "four", 2, 2)),
		at(8, 18, set("/a", "five", 3)),
		at(9, 19, set("/a/b", "six", 4)),
	)
	w.look("a family")
	return w
}

func TestCreate(t *testing.T) {
	for _, p := range []string{"/c", "/a/x", "/a/b/x", "/b/x", "/a.", "/aa", "/A", "/~", "/!", "/a/b/d/e/f", "/none/x", "/...", "/" + strings.Repeat("x", 199)} {
		for _, d := range []api.Deed{create(p, "", 0, 0), create(p, "data", 0, 3), create(p, "d\x00\xff", 2, 9), create(p, strings.Repeat("x", maxData), math.MaxInt64, math.MaxInt)} {
			w := family(t, "create")
			w.apply(at(20, 30, d))
			checkNode(t, p, w.x, api.Node{Path: p, Data: d.Data, Stat: api.Stat{Czxid: 20, Mzxid: 20, Pzxid: 20, Ctime: 30, Mtime: 30, Owner: d.Owner, Length: len(d.Data)}})
		}
	}
}

func TestCreateOfANodeThatIsThere(t *testing.T) {
	for _, p := range []string{"/a", "/a/b", "/a/c", "/a/b/d", "/b"} {
		w := family(t, "create again")
		old, _ := w.x.Get(p)
		w.apply(at(20, 30, create(p, "new", 2, 5)))
		checkNode(t, p, w.x, api.Node{Path: p, Data: []byte("new"), Stat: api.Stat{Czxid: 20, Mzxid: 20, Pzxid: 20, Ctime: 30, Mtime: 30, Owner: 2, Length: 3, Children: old.Stat.Children}})
		if len(w.x.All()) != 6 {
			t.Errorf("%s: nodes are gone, or new", p)
		}
	}
}

func TestCreateWithoutAParent(t *testing.T) {
	w := newTwin(t, "no parent")
	w.apply(at(5, 6, create("/a/b/c", "x", 0, 4)))
	checkNode(t, "the root", w.x, api.Node{Path: "/"})
	checkNone(t, "nodes between", w.x, "/a")
	checkNone(t, "nodes between", w.x, "/a/b")
	w.apply(at(6, 7, create("/a/b", "y", 0, 4)))
	checkList(t, "the parent came", w.x, "/a/b", "c")
	checkList(t, "the root", w.x, "/")
	checkNode(t, "the parent came", w.x, api.Node{Path: "/a/b", Data: []byte("y"), Stat: api.Stat{Czxid: 6, Mzxid: 6, Pzxid: 6, Ctime: 7, Mtime: 7, Length: 1, Children: 1}})
}

func TestCreateMarksTheParentAlone(t *testing.T) {
	w := family(t, "marks")
	was := w.x.All()
	w.apply(at(20, 30, create("/a/b/x", "x", 0, 5)))
	for _, n := range was {
		if n.Path == "/a/b" {
			n.Stat.Cversion, n.Stat.Pzxid, n.Stat.Children = 5, 20, n.Stat.Children+1
		}
		checkNode(t, "marks", w.x, n)
	}
}

func TestDelete(t *testing.T) {
	for _, p := range []string{"/a", "/a/b", "/a/c", "/a/b/d", "/b", "/none", "/a/none", "/none/x", "/a/b/d/e", "/ab"} {
		w := family(t, "delete")
		was := len(w.x.All())
		_, there := w.x.Get(p)
		w.apply(at(20, 30, remove(p, 6)))
		checkNone(t, p, w.x, p)
		if left := len(w.x.All()); there && left != was-1 || !there && left != was {
			t.Errorf("%s: of %d nodes %d are left", p, was, left)
		}
		if parent, ok := w.x.Get(parentOf(p)); ok && (parent.Stat.Cversion != 6 || parent.Stat.Pzxid != 20) {
			t.Errorf("%s: its parent is not marked: %s", p, tellNode(parent))
		}
		w.apply(at(21, 31, remove(p, 7)), at(22, 32, create(p, "anew", 0, 8)))
	}
}

func TestNodesUnderADeletedOneStay(t *testing.T) {
	w := family(t, "nodes under it")
	w.apply(at(20, 30, remove("/a", 6)))
	checkNone(t, "deleted", w.x, "/a")
	checkList(t, "under it", w.x, "/a/b", "d")
	w.apply(at(21, 31, remove("/a/c", 7)))
	w.apply(at(22, 32, create("/a", "", 0, 8)))
	checkList(t, "back", w.x, "/a", "b")
	checkNode(t, "back", w.x, api.Node{Path: "/a", Stat: api.Stat{Czxid: 22, Mzxid: 22, Pzxid: 22, Ctime: 32, Mtime: 32, Children: 1}})
}

func TestSet(t *testing.T) {
	for _, p := range []string{"/", "/a", "/a/b", "/a/c", "/a/b/d", "/b"} {
		for _, data := range []string{"", "x", "other\x00", strings.Repeat("y", maxData)} {
			for _, version := range []int{0, 1, 2, math.MaxInt} {
				w := family(t, "set")
				want, _ := w.x.Get(p)
				w.apply(at(20, 30, set(p, data, version)))
				want.Data, want.Stat.Length = []byte(data), len(data)
				want.Stat.Mzxid, want.Stat.Mtime, want.Stat.Version = 20, 30, version
				checkNode(t, "set", w.x, want)
			}
		}
	}
}

func TestSetOfNoNode(t *testing.T) {
	for _, p := range []string{"/none", "/a/none", "/none/x", "/ab", "/a/b/d/e"} {
		w := family(t, "set of none")
		was := w.x.Copy()
		w.apply(at(20, 30, set(p, "x", 1)))
		checkSame(t, p, was, w.x, true)
	}
}

func TestOpen(t *testing.T) {
	for _, z := range []api.Zxid{1, 2, 3, 1 << 32, 1<<32 + 1, maxZxid} {
		for _, timeout := range []int{1, 2, 999, 1000} {
			for _, turn := range []int{0, 1, 3, 4, 5, math.MaxInt} {
				w := family(t, "open")
				w.apply(at(z, 30, of(0, turn, open(timeout))))
				if !slices.Contains(w.x.Sittings(), api.Sitting{Session: int64(z), Timeout: timeout, Turn: turn}) {
					t.Errorf("open %d, timeout %d, turn %d: %v", z, timeout, turn, w.x.Sittings())
				}
			}
		}
	}
}

// TestOpenOfAnotherSession: a deed may be of a session other than that which it opens, or of just that one.
func TestOpenOfAnotherSession(t *testing.T) {
	w := family(t, "open of another one")
	w.apply(at(20, 30, of(1, 7, open(5))))
	checkSittings(t, "another one", w.x, api.Sitting{Session: 1, Timeout: 10, Turn: 7}, api.Sitting{Session: 2, Timeout: 20, Turn: 4}, api.Sitting{Session: 20, Timeout: 5, Turn: 7})
	w.apply(at(20, 30, of(20, 6, open(5))))
	checkSittings(t, "its own, which was further", w.x, api.Sitting{Session: 1, Timeout: 10, Turn: 7}, api.Sitting{Session: 2, Timeout: 20, Turn: 4}, api.Sitting{Session: 20, Timeout: 5, Turn: 6})
}

func TestClose(t *testing.T) {
	w := family(t, "close")
	w.apply(at(20, 30, over(1, remove("/a/b/d", 8), remove("/a/b", 3), remove("/none", 3))))
	checkSittings(t, "closed", w.x, api.Sitting{Session: 2, Timeout: 20, Turn: 4})
	checkList(t, "closed", w.x, "/a", "c")
	checkNone(t, "closed", w.x, "/a/b/d")
	if n, _ := w.x.Get("/a"); n.Stat.Cversion != 3 || n.Stat.Pzxid != 20 {
		t.Errorf("its parts mark: %s", tellNode(n))
	}
	if n, _ := w.x.Get("/"); n.Stat.Cversion != 3 || n.Stat.Pzxid != 20 {
		t.Errorf("its last part marks: %s", tellNode(n))
	}
}

// TestCloseTakesWhatItNames: not what the session owns, and no other one's sitting.
func TestCloseTakesWhatItNames(t *testing.T) {
	w := family(t, "close without parts")
	w.apply(at(20, 30, over(1)))
	checkOwned(t, "its nodes", w.x, 1, "/a/b", "/a/b/d")
	checkSittings(t, "its sitting", w.x, api.Sitting{Session: 2, Timeout: 20, Turn: 4})
	for _, owner := range []int64{1, 3, 20, 1 << 40, math.MaxInt64} {
		w.apply(at(21, 30, over(owner)))
	}
	checkSittings(t, "of no session", w.x, api.Sitting{Session: 2, Timeout: 20, Turn: 4})
	w.apply(at(22, 30, over(5, remove("/b", 9))))
	checkNone(t, "a node of another one", w.x, "/b")
}

func TestCloseByASession(t *testing.T) {
	w := family(t, "close by the session")
	w.apply(at(20, 30, of(1, 9, over(1))))
	checkSittings(t, "its own", w.x, api.Sitting{Session: 2, Timeout: 20, Turn: 4})
	w = family(t, "close by another one")
	w.apply(at(20, 30, of(2, 9, over(1))))
	checkSittings(t, "another one's", w.x, api.Sitting{Session: 2, Timeout: 20, Turn: 9})
}

func TestCloseOfMostNodes(t *testing.T) {
	w := newTwin(t, "most nodes")
	w.do(at(1, 1, open(5)))
	var parts []api.Deed
	for i := range 500 {
		p := fmt.Sprintf("/n%d", i)
		w.do(at(api.Zxid(i+2), 1, create(p, "x", 1, i+1)))
		parts = append(parts, remove(p, 501+i))
	}
	w.look("all there")
	w.apply(at(1000, 1, over(1, parts...)))
	checkTree(t, "closed", w.x, []api.Node{{Path: "/", Stat: api.Stat{Cversion: 1000, Pzxid: 1000}}}, nil)
}

func TestMulti(t *testing.T) {
	w := family(t, "multi")
	w.apply(at(20, 30, multi(
		create("/m", "one", 0, 3),
		create("/m/n", "two", 1, 1),
		set("/m", "three", 1),
		create("/m/o", "four", 2, 2),
		remove("/m/n", 3),
		remove("/b", 4),
		set("/b", "late", 9),
		set("/none", "none", 9),
	)))
	checkNode(t, "multi", w.x, api.Node{Path: "/m", Data: []byte("three"), Stat: api.Stat{Czxid: 20, Mzxid: 20, Pzxid: 20, Ctime: 30, Mtime: 30, Version: 1, Cversion: 3, Length: 5, Children: 1}})
	checkNode(t, "multi", w.x, api.Node{Path: "/m/o", Data: []byte("four"), Stat: api.Stat{Czxid: 20, Mzxid: 20, Pzxid: 20, Ctime: 30, Mtime: 30, Owner: 2, Length: 4}})
	checkList(t, "multi", w.x, "/", "a", "m")
	checkNode(t, "multi", w.x, api.Node{Path: "/", Stat: api.Stat{Pzxid: 20, Cversion: 4, Children: 2}})
}

// TestPartsInTheirOrder: of two parts of one node the later one counts.
func TestPartsInTheirOrder(t *testing.T) {
	w := newTwin(t, "order of parts")
	w.apply(at(1, 1, multi(create("/a", "x", 0, 1), remove("/a", 2))))
	checkNone(t, "created, deleted", w.x, "/a")
	w.apply(at(2, 1, multi(remove("/a", 3), create("/a", "y", 0, 4))))
	checkList(t, "deleted, created", w.x, "/", "a")
	w.apply(at(3, 1, multi(set("/a", "one", 1), set("/a", "two", 2), create("/a/b", "", 0, 1))))
	w.apply(at(4, 1, multi(set("/a", "three", 3), create("/a", "four", 0, 5))))
	checkNode(t, "set, created", w.x, api.Node{Path: "/a", Data: []byte("four"), Stat: api.Stat{Czxid: 4, Mzxid: 4, Pzxid: 4, Ctime: 1, Mtime: 1, Length: 4, Children: 1}})
}

// TestPartsOfASession: the turn is that of the deed, once, and no part's.
func TestPartsOfASession(t *testing.T) {
	w := family(t, "parts of a session")
	w.apply(at(20, 30, of(2, 6, multi(create("/m", "", 2, 3)))))
	checkSittings(t, "multi", w.x, api.Sitting{Session: 1, Timeout: 10}, api.Sitting{Session: 2, Timeout: 20, Turn: 6})
	w.apply(at(21, 30, of(1, 5, over(2, remove("/m", 4)))))
	checkSittings(t, "close", w.x, api.Sitting{Session: 1, Timeout: 10, Turn: 5})
}

func TestKindsThatDoNothing(t *testing.T) {
	for _, d := range quiet(20) {
		w := family(t, "nothing")
		was := w.x.Copy()
		w.apply(d, at(21, 30, api.Deed{Kind: api.DeedSync}), of(0, 9, d), of(3, 9, d))
		checkSame(t, tell(d), was, w.x, true)
	}
}

// TestTurns: a deed of each kind tells its session's sitting the turn, if that is greater.
func TestTurns(t *testing.T) {
	deeds := append(quiet(20),
		at(20, 30, create("/c", "x", 0, 1)), at(20, 30, remove("/c", 1)), at(20, 30, set("/c", "x", 1)), at(20, 30, set("/", "x", 1)),
		at(20, 30, open(5)), at(20, 30, over(1)), at(20, 30, multi(remove("/c", 2))))
	for _, d := range deeds {
		for turn, want := range map[int]int{0: 4, 1: 4, 3: 4, 4: 4, 5: 5, 6: 6, 1 << 32: 1 << 32, math.MaxInt: math.MaxInt} {
			w := family(t, "turn")
			w.apply(of(2, turn, d))
			if !slices.Contains(w.x.Sittings(), api.Sitting{Session: 2, Timeout: 20, Turn: want}) {
				t.Errorf("%s: %v", tell(of(2, turn, d)), w.x.Sittings())
			}
		}
		for _, session := range []int64{3, 5, 1 << 32, math.MaxInt64} {
			w := family(t, "turn of no session")
			w.apply(of(session, 9, d))
		}
	}
}

// wrongDeeds: each nearly right: one that would do something, but for one field.
func wrongDeeds() []api.Deed {
	good := []api.Deed{create("/c", "x", 1, 1), remove("/a", 1), set("/a", "x", 1), open(5), over(1, remove("/a", 1)), multi(set("/a", "x", 1)), {Kind: api.DeedSync}}
	var out []api.Deed
	for _, d := range good {
		d = at(20, 30, of(2, 9, d))
		for _, spoil := range []func(*api.Deed){
			func(d *api.Deed) { d.Zxid = 0 },
			func(d *api.Deed) { d.Zxid = -1 },
			func(d *api.Deed) { d.Zxid = maxZxid + 1 },
			func(d *api.Deed) { d.Session = -1 },
			func(d *api.Deed) { d.Turn = -1 },
			func(d *api.Deed) { d.Xid = -1 },
			func(d *api.Deed) { d.Time = -1 },
			func(d *api.Deed) { d.Kind = 0 },
			func(d *api.Deed) { d.Kind = 10 },
			func(d *api.Deed) { d.Kind = 255 },
			func(d *api.Deed) { d.Err = 1 },
			func(d *api.Deed) { d.Config.Version = 20 },
		} {
			wrong := d
			spoil(&wrong)
			out = append(out, wrong)
		}
	}
	for _, d := range []api.Deed{
		create("/", "x", 0, 1), create("a", "x", 0, 1), create("", "x", 0, 1), create("/a/", "x", 0, 1), create("/a/../c", "x", 0, 1), create("/c d", "x", 0, 1),
		create("/"+strings.Repeat("x", 200), "x", 0, 1), create("/c", strings.Repeat("x", maxData+1), 0, 1), create("/c", "x", -1, 1), create("/c", "x", 0, -1),
		remove("/", 1), remove("", 1), remove("a", 1), remove("/a", -1),
		set("", "x", 1), set("//", "x", 1), set("/a", strings.Repeat("x", maxData+1), 1), set("/a", "x", -1),
		open(0), open(-1), open(1001),
		over(0, remove("/a", 1)), over(-1), over(1, create("/c", "", 0, 1)), over(1, set("/a", "x", 1)), over(1, remove("/", 1)), over(1, at(20, 0, remove("/a", 1))),
		multi(), multi(open(5)), multi(over(1)), multi(api.Deed{Kind: api.DeedSync}), multi(multi(remove("/a", 1))), multi(remove("/a", 1), create("/", "", 0, 1)),
		multi(set("/a", "x", 1), at(0, 30, remove("/b", 1))), multi(slices.Repeat([]api.Deed{remove("/a", 1)}, 17)...),
		{Kind: api.DeedConfig}, {Kind: api.DeedError},
	} {
		out = append(out, at(20, 30, of(2, 9, d)))
	}
	return out
}

func TestWrongDeedsDoNothing(t *testing.T) {
	w := family(t, "wrong deeds")
	for _, d := range wrongDeeds() {
		was := w.x.Copy()
		w.x.Apply(d)
		checkSame(t, tell(d), was, w.x, true)
	}
	w.look("that were none")
}

// P11.3

// TestPathsRise: by their bytes, so that what stands under a node need not stand right behind it.
func TestPathsRise(t *testing.T) {
	want := []string{"/", "/!", "/-", "/...", "/.a", "/0", "/A", "/a", "/a!", "/a-", "/a-/b", "/a.", "/a/!", "/a/a", "/a/a0", "/a/a/b", "/a/b", "/a/~", "/a0", "/aa", "/b", "/~", "/~~"}
	slices.Sort(want)
	next := testkit.Walk()
	for range 20 {
		w := newTwin(t, "rising paths")
		left := slices.Clone(want[1:])
		for z := api.Zxid(1); len(left) > 0; z++ {
			i := next(len(left))
			w.do(at(z, 1, create(left[i], left[i], 1, int(z))))
			left = slices.Delete(left, i, i+1)
		}
		w.look("mixed")
		var got []string
		for _, n := range w.x.All() {
			got = append(got, n.Path)
		}
		if !slices.Equal(got, want) {
			t.Errorf("All: %q, want %q", got, want)
		}
		checkOwned(t, "all", w.x, 1, want[1:]...)
		checkList(t, "names", w.x, "/a", "!", "a", "a0", "b", "~")
		checkList(t, "names", w.x, "/", "!", "-", "...", ".a", "0", "A", "a", "a!", "a-", "a.", "a0", "aa", "b", "~", "~~")
	}
}

func TestListTellsChildrenAlone(t *testing.T) {
	w := newTwin(t, "children")
	for i, p := range []string{"/a", "/ab", "/ab/c", "/a/b", "/a/b/c", "/a/bc", "/a-/b", "/b/a", "/a/a/a"} {
		w.apply(at(api.Zxid(i+1), 1, create(p, "", 0, i)))
	}
	checkList(t, "children", w.x, "/", "a", "ab")
	checkList(t, "children", w.x, "/a", "b", "bc")
	checkList(t, "children", w.x, "/a/b", "c")
	checkList(t, "children", w.x, "/a/b/c")
	checkNone(t, "whose parent is missing", w.x, "/b")
	checkNone(t, "whose parent is missing", w.x, "/a/a")
}

func TestDeepestNode(t *testing.T) {
	w := newTwin(t, "deep")
	p := ""
	for i := range 100 {
		p += "/x"
		w.do(at(api.Zxid(i+1), 1, create(p, "", 0, 1)))
	}
	w.look("100 parts")
	w.apply(at(101, 1, create(p+"/x", "", 0, 1)))
	checkNode(t, "deep", w.x, api.Node{Path: p, Stat: api.Stat{Czxid: 100, Mzxid: 100, Pzxid: 100, Ctime: 1, Mtime: 1}})
}

func TestOwned(t *testing.T) {
	w := family(t, "owned")
	checkOwned(t, "family", w.x, 1, "/a/b", "/a/b/d")
	checkOwned(t, "family", w.x, 2, "/a/c", "/b")
	for _, session := range []int64{math.MinInt64, -2, -1, 0, 3, 1 << 32, math.MaxInt64} {
		checkOwned(t, "of none", w.x, session)
	}
	w.apply(at(20, 30, create("/z", "", math.MaxInt64, 1)), at(21, 30, create("/a/b", "", 2, 1)), at(22, 30, set("/b", "x", 1)))
	checkOwned(t, "changed", w.x, math.MaxInt64, "/z")
	checkOwned(t, "changed", w.x, 2, "/a/b", "/a/c", "/b")
	w.load([]api.Node{{Path: "/", Stat: api.Stat{Owner: 3}}, {Path: "/a"}})
	checkOwned(t, "the root", w.x, 3, "/")
	checkOwned(t, "nobody", w.x, 0)
}

func TestSittingsRise(t *testing.T) {
	sessions := []int64{1, 2, 3, 9, 10, 100, 1 << 31, 1 << 32, 1<<32 + 1, 1 << 62}
	next := testkit.Walk()
	for range 20 {
		w := newTwin(t, "rising sessions")
		left := slices.Clone(sessions)
		for len(left) > 0 {
			i := next(len(left))
			w.do(at(api.Zxid(left[i]), 1, open(5)))
			left = slices.Delete(left, i, i+1)
		}
		w.look("opened")
		var got []int64
		for _, s := range w.x.Sittings() {
			got = append(got, s.Session)
		}
		if !slices.Equal(got, sessions) {
			t.Errorf("Sittings: %v", got)
		}
	}
}

// P11.4

func TestLoad(t *testing.T) {
	full := api.Stat{Czxid: 1, Mzxid: 2, Pzxid: 3, Ctime: 4, Mtime: 5, Version: 6, Cversion: 7, Owner: 8, Length: 9, Children: 10}
	most := api.Stat{Czxid: math.MaxInt64, Mzxid: math.MaxInt64, Pzxid: math.MaxInt64, Ctime: math.MaxInt64, Mtime: math.MaxInt64, Version: math.MaxInt, Cversion: math.MaxInt, Owner: math.MaxInt64, Length: math.MaxInt, Children: math.MaxInt}
	for _, l := range [][]api.Node{
		{{Path: "/"}},
		{{Path: "/", Data: []byte("root"), Stat: full}},
		{{Path: "/", Stat: most}, {Path: "/a", Stat: most}},
		{{Path: "/"}, {Path: "/a"}, {Path: "/a/b"}, {Path: "/b"}},
		{{Path: "/"}, {Path: "/a-"}, {Path: "/a/b", Data: []byte("q")}, {Path: "/a0"}, {Path: "/c"}},
		{{Path: "/"}, {Path: "/a/b/c", Data: make([]byte, maxData), Stat: full}},
		{{Path: "/"}, {Path: "/" + strings.Repeat("x", 199), Data: []byte{}}},
		{{Path: "/"}, {Path: "/..."}, {Path: "/A"}, {Path: "/a"}, {Path: "/a/a"}, {Path: "/aa"}},
	} {
		w := family(t, "load")
		sittings := w.x.Sittings()
		w.load(l)
		checkSittings(t, "load", w.x, sittings...)
		w.apply(at(50, 60, create("/a/new", "x", 1, 5)), at(51, 61, set("/", "y", 3)), at(52, 62, remove("/a/b", 6)), at(53, 63, of(1, 7, open(3))))
	}
}

// TestLoadReckonsAnew: Length and Children are what they are, whatever was handed in.
func TestLoadReckonsAnew(t *testing.T) {
	for _, wrong := range []int{0, 1, 2, 3, math.MaxInt} {
		x := tree.New()
		stat := api.Stat{Length: wrong, Children: wrong}
		checkLoad(t, "reckoned", x, []api.Node{{Path: "/", Stat: stat}, {Path: "/a", Data: []byte("xy"), Stat: stat}, {Path: "/a/b", Stat: stat}, {Path: "/c", Data: []byte("z"), Stat: stat}}, api.OK)
		checkTree(t, "reckoned", x, []api.Node{
			{Path: "/", Stat: api.Stat{Children: 2}},
			{Path: "/a", Data: []byte("xy"), Stat: api.Stat{Length: 2, Children: 1}},
			{Path: "/a/b"},
			{Path: "/c", Data: []byte("z"), Stat: api.Stat{Length: 1}},
		}, nil)
		other := tree.New()
		checkLoad(t, "what it tells", other, x.All(), api.OK)
		checkSame(t, "loaded of what it tells", x, other, true)
	}
}

func TestLoadOfManyNodes(t *testing.T) {
	l := []api.Node{{Path: "/"}}
	for i := range 2000 {
		l = append(l, api.Node{Path: fmt.Sprintf("/n%04d", i), Data: []byte{byte(i)}, Stat: api.Stat{Owner: int64(i % 3), Length: 1}})
	}
	x := tree.New()
	checkLoad(t, "many", x, l, api.OK)
	l[0].Stat.Children = 2000
	if !slices.EqualFunc(x.All(), l, sameNode) {
		t.Error("many nodes are others")
	}
	checkNode(t, "many", x, l[0])
}

// negatives: stats, of each of which one number is below 0.
func negatives(t *testing.T) []api.Stat {
	t.Helper()
	var out []api.Stat
	for i := range reflect.TypeFor[api.Stat]().NumField() {
		for _, below := range []int64{-1, math.MinInt64} {
			s := api.Stat{Czxid: 1, Mzxid: 2, Pzxid: 3, Ctime: 4, Mtime: 5, Version: 6, Cversion: 7, Owner: 8, Length: 9, Children: 10}
			reflect.ValueOf(&s).Elem().Field(i).SetInt(below)
			out = append(out, s)
		}
	}
	return out
}

func TestLoadOfNoTree(t *testing.T) {
	wrong := [][]api.Node{
		nil, {}, {{Path: ""}}, {{Path: "a"}}, {{Path: "/a"}}, {{Path: "/a"}, {Path: "/b"}}, {{}},
		{{Path: "/"}, {Path: "/"}},
		{{Path: "/"}, {Path: "/a"}, {Path: "/a"}},
		{{Path: "/"}, {Path: "/b"}, {Path: "/a"}},
		{{Path: "/a"}, {Path: "/"}}, {{Path: "/a"}, {Path: "/"}, {Path: "/b"}},
		{{Path: "/"}, {Path: "/a"}, {Path: "/"}},
		{{Path: "/"}, {Path: "/a/b"}, {Path: "/a-"}},
		{{Path: "/"}, {Path: "/a"}, {Path: "/a/b"}, {Path: "/a-"}},
		{{Path: "/"}, {Path: "/a"}, {Path: "/A"}},
		{{Path: "/"}, {Path: ""}}, {{Path: ""}, {Path: "/"}}, {{Path: "!"}, {Path: "/"}}, {{Path: "/"}, {Path: "a"}},
		{{Path: "/"}, {Path: "/a/"}}, {{Path: "/"}, {Path: "//"}}, {{Path: "/"}, {Path: "/."}}, {{Path: "/"}, {Path: "/.."}}, {{Path: "/"}, {Path: "/a"}, {Path: "/a/../b"}},
		{{Path: "/"}, {Path: "/a b"}}, {{Path: "/"}, {Path: "/\x7f"}}, {{Path: "/"}, {Path: "/" + strings.Repeat("x", 200)}}, {{Path: "/"}, {Path: "/\xc3\xa4"}},
		{{Path: "/", Data: make([]byte, maxData+1)}},
		{{Path: "/"}, {Path: "/a", Data: make([]byte, maxData+1)}, {Path: "/b"}},
	}
	for _, s := range negatives(t) {
		wrong = append(wrong, []api.Node{{Path: "/", Stat: s}}, []api.Node{{Path: "/"}, {Path: "/a", Stat: s}, {Path: "/b"}})
	}
	w := family(t, "wrong loads")
	was := w.x.Copy()
	for i, l := range wrong {
		checkLoad(t, fmt.Sprintf("the wrong list %d: %s", i, tellNodes(l)), w.x, l, api.ErrShape)
		checkSame(t, fmt.Sprintf("the wrong list %d", i), was, w.x, true)
	}
	w.look("that were none")
}

func TestLoadOfRightAndWrongPaths(t *testing.T) {
	for b := range 256 {
		p := "/a" + string([]byte{byte(b)})
		want := api.ErrShape
		if b > 32 && b < 127 && b != '/' {
			want = api.OK
		}
		checkLoad(t, fmt.Sprintf("%q", p), tree.New(), []api.Node{{Path: "/"}, {Path: p}}, want)
	}
}

func TestSeat(t *testing.T) {
	one, two, other := api.Sitting{Session: 3, Timeout: 5, Turn: 6}, api.Sitting{Session: 7, Timeout: 8, Turn: 9}, api.Sitting{Session: 3, Timeout: 1}
	last := api.Sitting{Session: math.MaxInt64, Timeout: math.MaxInt, Turn: math.MaxInt}
	strange := api.Sitting{Session: 1, Timeout: -5, Turn: -7}
	for _, c := range [][2][]api.Sitting{
		{nil, nil},
		{{}, nil},
		{{one}, {one}},
		{{two, one}, {one, two}},
		{{one, other}, {other}},
		{{other, two, one, two}, {one, two}},
		{{{Session: 0, Timeout: 4}}, nil},
		{{{Session: -1}, one, {}, {Session: math.MinInt64, Turn: 5}, two}, {one, two}},
		{{last, strange}, {strange, last}},
	} {
		w := family(t, "seat")
		nodes := w.x.All()
		w.seat(c[0])
		checkTree(t, "seat", w.x, nodes, c[1])
		w.apply(at(20, 30, of(3, 7, api.Deed{Kind: api.DeedSync})), at(3, 30, open(9)), at(21, 30, over(7)), at(22, 30, of(1, 0, api.Deed{Kind: api.DeedSync})), at(23, 30, of(0, 4, api.Deed{Kind: api.DeedSync})))
	}
	var many []api.Sitting
	for i := range 1000 {
		many = append(many, api.Sitting{Session: int64(i + 1), Timeout: i, Turn: 2 * i})
	}
	x := tree.New()
	x.Seat(many)
	checkSittings(t, "many", x, many...)
}

// P11.5

func TestCopyIsOfItsOwn(t *testing.T) {
	next := testkit.Walk()
	for range 200 {
		w := newTwin(t, "copied")
		w.do(row(next, 1+next(20))...)
		other := w.copy("the copy")
		other.look("new")
		checkSame(t, "a copy", w.x, other.x, true)
		for z := range 10 {
			w.do(mixed(next, api.Zxid(100+z)))
			other.do(mixed(next, api.Zxid(200+z)))
		}
		w.look("went on")
		other.look("went on")
		w.load([]api.Node{{Path: "/"}})
		w.seat(nil)
		other.look("beside one that is loaded")
	}
}

func TestCopyOfNone(t *testing.T) {
	for _, x := range []*tree.Tree{nil, {}, new(tree.Tree)} {
		if x.Copy() != nil {
			t.Error("a copy of none")
		}
	}
}

// TestSameLooksAtAll: one number, byte, node or sitting that differs.
func TestSameLooksAtAll(t *testing.T) {
	built := func(nodes []api.Node, sittings ...api.Sitting) *tree.Tree {
		x := tree.New()
		checkLoad(t, "to compare", x, nodes, api.OK)
		x.Seat(sittings)
		return x
	}
	sitting := api.Sitting{Session: 1, Timeout: 2, Turn: 3}
	one := []api.Node{{Path: "/"}, {Path: "/a", Data: []byte("x")}}
	x := built(one, sitting)
	checkSame(t, "twice", x, built(one, sitting), true)
	for i := range reflect.TypeFor[api.Stat]().NumField() {
		field := reflect.TypeFor[api.Stat]().Field(i).Name
		for at := range one {
			l := slices.Clone(one)
			reflect.ValueOf(&l[at].Stat).Elem().Field(i).SetInt(7)
			checkSame(t, field, x, built(l, sitting), field == "Length" || field == "Children")
		}
	}
	for _, l := range [][]api.Node{
		{{Path: "/"}},
		{{Path: "/"}, {Path: "/a"}},
		{{Path: "/"}, {Path: "/a", Data: []byte("y")}},
		{{Path: "/"}, {Path: "/a", Data: []byte("xx")}},
		{{Path: "/"}, {Path: "/b", Data: []byte("x")}},
		{{Path: "/", Data: []byte("x")}, {Path: "/a"}},
		{{Path: "/"}, {Path: "/a", Data: []byte("x")}, {Path: "/b"}},
	} {
		checkSame(t, tellNodes(l), x, built(l, sitting), false)
	}
	for _, l := range [][]api.Sitting{nil, {{Session: 2, Timeout: 2, Turn: 3}}, {{Session: 1, Timeout: 3, Turn: 3}}, {{Session: 1, Timeout: 2, Turn: 4}}, {sitting, {Session: 2}}} {
		checkSame(t, fmt.Sprint(l), x, built(one, l...), false)
	}
	// An empty row of bytes and none are one, and so is an object that nobody made and none.
	checkSame(t, "no data", built([]api.Node{{Path: "/", Data: []byte{}}}), tree.New(), true)
	emptied := built([]api.Node{{Path: "/"}, {Path: "/a", Data: []byte("x")}})
	emptied.Apply(at(1, 0, set("/a", "", 0)))
	checkSame(t, "data emptied", emptied, built([]api.Node{{Path: "/"}, {Path: "/a", Stat: api.Stat{Mzxid: 1}}}), true)
	for _, none := range []*tree.Tree{nil, {}} {
		checkSame(t, "none", none, nil, true)
		checkSame(t, "none", none, &tree.Tree{}, true)
		checkSame(t, "none and one", none, tree.New(), false)
		checkSame(t, "none and one", none, x, false)
	}
}

// P11.6

func TestAppliedTwiceIsAppliedOnce(t *testing.T) {
	next := testkit.Walk()
	for range 300 {
		once, twice := tree.New(), tree.New()
		for _, d := range row(next, 20) {
			once.Apply(d)
			twice.Apply(d)
			twice.Apply(d)
			checkSame(t, "twice: "+tell(d), once, twice, true)
		}
	}
}

// TestMetFromAPlaceOn: a tree that met a row as far as a place, and then the row from an earlier place on.
func TestMetFromAPlaceOn(t *testing.T) {
	next := testkit.Walk()
	for range 200 {
		deeds := row(next, 12)
		want := tree.New()
		for _, d := range deeds {
			want.Apply(d)
		}
		for met := range len(deeds) + 1 {
			for from := range met + 1 {
				x := tree.New()
				for _, d := range deeds[:met] {
					x.Apply(d)
				}
				for _, d := range deeds[from:] {
					x.Apply(d)
				}
				checkSame(t, fmt.Sprintf("met to %d, then from %d on", met, from), want, x, true)
			}
		}
	}
}

// TestNodesThatMetUnlikePlaces: each node, and the sittings, are of another moment; with the row from the earliest one on all is as it should be.
func TestNodesThatMetUnlikePlaces(t *testing.T) {
	next := testkit.Walk()
	for range 1000 {
		deeds := row(next, 20)
		moments := []*tree.Tree{tree.New()}
		for i, d := range deeds {
			x := moments[i].Copy()
			x.Apply(d)
			moments = append(moments, x)
		}
		from := next(len(moments))
		some := func() *tree.Tree { return moments[from+next(len(moments)-from)] }
		var nodes []api.Node
		for _, p := range []string{"/", "/a", "/a-", "/a/b", "/a/b/c", "/a/c", "/a0", "/b", "/b/q-0000000007"} {
			if n, there := some().Get(p); there {
				nodes = append(nodes, n)
			}
		}
		x := tree.New()
		checkLoad(t, "mixed moments", x, nodes, api.OK)
		x.Seat(some().Sittings())
		for _, d := range deeds[from:] {
			x.Apply(d)
		}
		checkSame(t, fmt.Sprintf("from %d on", from), moments[len(deeds)], x, true)
	}
}

// R5

func TestNoTree(t *testing.T) {
	for what, x := range map[string]*tree.Tree{"nil": nil, "made by nobody": {}} {
		for range 2 {
			for _, d := range append(quiet(5), at(1, 1, create("/a", "x", 0, 1)), at(1, 1, remove("/a", 1)), at(1, 1, set("/", "x", 1)), at(1, 1, open(5)), at(2, 2, over(1)), at(3, 3, multi(set("/", "x", 1))), api.Deed{}) {
				x.Apply(d)
			}
			x.Seat([]api.Sitting{{Session: 1}})
			x.Seat(nil)
			checkLoad(t, what, x, []api.Node{{Path: "/"}}, api.ErrNil)
			checkLoad(t, what, x, nil, api.ErrNil)
			checkNone(t, what, x, "/")
			checkNone(t, what, x, "")
			if x.All() != nil || x.Owned(0) != nil || x.Owned(1) != nil || x.Sittings() != nil || x.Copy() != nil {
				t.Errorf("%s: it tells something", what)
			}
			checkSame(t, what, x, nil, true)
			checkSame(t, what, x, tree.New(), false)
		}
	}
}

// R3

// roomy: bytes with spare room behind them.
func roomy(text string) []byte {
	return append(make([]byte, 0, len(text)+20), text...)
}

func TestDeedsHandedInAreNeitherKeptNorChanged(t *testing.T) {
	parts := []api.Deed{create("/a/b", "", 0, 1), set("/a", "", 1), remove("/a/b", 2)}
	for i := range parts[:2] {
		parts[i].Data = roomy(fmt.Sprintf("part %d", i))
	}
	alone, changed := at(1, 1, create("/a", "", 0, 1)), at(2, 2, set("/", "", 1))
	alone.Data, changed.Data = roomy("alone"), roomy("changed")
	for _, d := range []api.Deed{alone, changed, at(3, 3, multi(parts[:2]...)), at(4, 4, over(1, parts[2:]...))} {
		w := family(t, "handed in")
		before := fmt.Sprintf("%#v", d)
		spare := spareOf(d)
		w.apply(d)
		if after := fmt.Sprintf("%#v", d); after != before || spareOf(d) != spare {
			t.Errorf("the deed was\n%s, is\n%s", before, after)
		}
		want, sittings := w.x.All(), w.x.Sittings()
		spoilt := d
		testkit.Spoil(spoilt.Data, '!')
		for _, part := range spoilt.Parts {
			testkit.Spoil(part.Data, '!')
		}
		checkTree(t, "the deed's bytes are overwritten", w.x, want, sittings)
	}
}

// spareOf: all bytes of a deed, spare room too.
func spareOf(d api.Deed) string {
	out := string(d.Data[:cap(d.Data)])
	for _, part := range d.Parts {
		out += "|" + spareOf(part)
	}
	return out
}

func TestListsHandedInAreNeitherKeptNorChanged(t *testing.T) {
	nodes := append(make([]api.Node, 0, 5), api.Node{Path: "/", Data: roomy("root"), Stat: api.Stat{Length: 77, Children: 78}}, api.Node{Path: "/a", Data: roomy("one"), Stat: api.Stat{Owner: 1}}, api.Node{Path: "/b", Data: roomy("two")})
	sittings := append(make([]api.Sitting, 0, 5), api.Sitting{Session: 9, Turn: 1}, api.Sitting{Session: 2, Timeout: 4}, api.Sitting{Session: -1})
	whole := func() string {
		out := fmt.Sprintf("%#v %#v", nodes[:cap(nodes)], sittings[:cap(sittings)])
		for _, n := range nodes {
			out += string(n.Data[:cap(n.Data)])
		}
		return out
	}
	before := whole()
	x := tree.New()
	checkLoad(t, "handed in", x, nodes, api.OK)
	x.Seat(sittings)
	other := x.Copy()
	wantNodes, wantSittings := x.All(), x.Sittings()
	x.Apply(at(20, 1, of(9, 5, set("/a", "changed", 1))))
	x.Apply(at(21, 1, remove("/b", 1)))
	if after := whole(); after != before {
		t.Errorf("lists were\n%s, are\n%s", before, after)
	}
	spoilNodes(nodes)
	testkit.Spoil(sittings, api.Sitting{Session: 5})
	checkTree(t, "lists overwritten", other, wantNodes, wantSittings)
	checkNode(t, "lists overwritten", x, api.Node{Path: "/a", Data: []byte("changed"), Stat: api.Stat{Mzxid: 20, Mtime: 1, Version: 1, Owner: 1, Length: 7}})
}

func TestAnswersAreNew(t *testing.T) {
	w := family(t, "answers")
	nodes, sittings := w.m.all(), w.m.sittings()
	other := w.x.Copy()
	for _, n := range nodes {
		got, _ := w.x.Get(n.Path)
		testkit.Spoil(got.Data, '!')
		names, _ := w.x.List(n.Path)
		testkit.Spoil(names, "spoilt")
	}
	spoilNodes(w.x.All())
	testkit.Spoil(w.x.Owned(1), "/spoilt")
	testkit.Spoil(w.x.Sittings(), api.Sitting{Session: 77})
	checkTree(t, "answers overwritten", w.x, nodes, sittings)
	checkTree(t, "answers overwritten, the copy", other, nodes, sittings)
}

// TestListsOfOneAnswerShareNothing: neither two of one answer, nor two answers.
func TestListsOfOneAnswerShareNothing(t *testing.T) {
	w := family(t, "one answer")
	other := w.x.Copy()
	want := w.m.all()
	for i := range want {
		first, second, third := w.x.All(), w.x.All(), other.All()
		testkit.Spoil(first[i].Data, '!')
		for j := range first {
			if j != i && !sameNode(first[j], want[j]) {
				t.Errorf("%s and %s share bytes", first[i].Path, first[j].Path)
			}
		}
		if !slices.EqualFunc(second, want, sameNode) || !slices.EqualFunc(third, want, sameNode) {
			t.Errorf("%s: two answers share bytes", first[i].Path)
		}
	}
}

func TestAnswersStayAsTheTreeGoesOn(t *testing.T) {
	w := family(t, "goes on")
	all, owned, sittings := w.x.All(), w.x.Owned(1), w.x.Sittings()
	names, _ := w.x.List("/a")
	n, _ := w.x.Get("/a")
	w.apply(at(20, 1, set("/a", "FIVE", 9)), at(21, 1, remove("/a/b", 3)), at(22, 1, of(1, 8, over(2))), at(23, 1, set("/a/c", "new", 1)))
	want := family(t, "as it was").m
	if !slices.EqualFunc(all, want.all(), sameNode) || !slices.Equal(sittings, want.sittings()) {
		t.Error("lists have changed behind their call")
	}
	if !slices.Equal(owned, []string{"/a/b", "/a/b/d"}) || !slices.Equal(names, []string{"b", "c"}) || string(n.Data) != "five" {
		t.Errorf("%q, %q, %s", owned, names, tellNode(n))
	}
}

// All promises at once, against the model.

// TestAllShortRows: all rows of four of these deeds.
func TestAllShortRows(t *testing.T) {
	acts := []api.Deed{
		create("/a", "x", 1, 1),
		create("/a/b", "yy", 1, 2),
		remove("/a", 3),
		remove("/a/b", 4),
		set("/a", "zzz", 5),
		set("/", "r", 6),
		open(5),
		of(1, 3, api.Deed{Kind: api.DeedSync}),
		of(2, 2, over(1, remove("/a/b", 7), remove("/a", 8))),
		of(1, 1, multi(create("/a", "m", 2, 9), set("/a", "mm", 1), remove("/a/b", 2))),
	}
	const length = 4
	rows := 1
	for range length {
		rows *= len(acts)
	}
	for i := range rows {
		w := newTwin(t, fmt.Sprintf("row %d", i))
		for z, rest := api.Zxid(1), i; z <= length; z++ {
			w.do(at(z, int64(z)*10, acts[rest%len(acts)]))
			rest /= len(acts)
		}
		w.look("at its end")
		if t.Failed() {
			return
		}
	}
}

// TestLongRows: deeds of all kinds, and now and then a load, seats or a copy to go on with.
func TestLongRows(t *testing.T) {
	next := testkit.Walk()
	for i := range 100 {
		w := newTwin(t, fmt.Sprintf("long row %d", i))
		for z := range 100 {
			switch next(25) {
			case 0:
				w.load(w.m.all()[:1+next(len(w.m.all()))])
			case 1:
				w.seat([]api.Sitting{{Session: int64(next(5)), Timeout: next(9), Turn: next(9)}, {Session: int64(next(5)) - 1, Turn: next(9)}})
			case 2:
				w = w.copy(w.what)
			default:
				w.apply(mixed(next, api.Zxid(1+z/2+next(5))))
			}
		}
		if t.Failed() {
			return
		}
	}
}

// TestSameStepsSameAnswers: what a tree tells hangs on its own past alone (R4).
func TestSameStepsSameAnswers(t *testing.T) {
	tellAll := func() string {
		x := tree.New()
		for _, d := range row(testkit.Walk(), 60) {
			x.Apply(d)
		}
		names, ok := x.List("/")
		return fmt.Sprint(x.All(), names, ok, x.Owned(1), x.Owned(2), x.Sittings())
	}
	first := tellAll()
	for range 50 {
		if again := tellAll(); again != first {
			t.Fatalf("%s, and %s", first, again)
		}
	}
}
