package bell_test

import (
	"fmt"
	"math"
	"reflect"
	"slices"
	"strconv"
	"strings"
	"testing"

	"beadle/api"
	"beadle/bell"
	"beadle/deed"
	"beadle/testkit"
)

var (
	sorts      = []api.WatchSort{data, there, list}
	wrongSorts = []api.WatchSort{0, 4, 5, 127, 128, 129, 254, 255}
	conns      = []int{math.MinInt, math.MinInt32, -256, -1, 0, 1, 2, 255, 256, 257, 1 << 32, 1<<32 + 1, math.MaxInt}
	paths      = []string{"/", "/a", "/a/b", "/a/b/c", "/ab", "/a-", "/b", "/A", "/a.", "/!", "/" + strings.Repeat("x", 199)}
	wrongPaths = []string{"", "a", "//", "/a/", "//a", "/a/./b", "/..", "/a b", "/\x00", "/\xff", "/é", "/" + strings.Repeat("x", 200)}
)

// every: all watches of these connections, sorts and paths.
func every(conns []int, paths []string) []watch {
	var out []watch
	for _, conn := range conns {
		for _, sort := range sorts {
			for _, p := range paths {
				out = append(out, watch{conn, sort, p})
			}
		}
	}
	return out
}

// The chapter's examples.

func TestExampleOfACreate(t *testing.T) {
	b := bell.New()
	b.Add(1, there, "/a")
	b.Add(2, list, "/")
	b.Add(1, list, "/")
	wantRings(t, "create /a", b.Ring(create(5, "/a")),
		ring(1, api.Created, there, "/a", 5),
		ring(1, api.Children, list, "/", 5),
		ring(2, api.Children, list, "/", 5))
	wantCount(t, "rung", b, 0)
}

func TestExampleOfAMulti(t *testing.T) {
	b := bell.New()
	b.Add(1, data, "/a")
	wantRings(t, "set /b", b.Ring(set(6, "/b")))
	wantRings(t, "a multi", b.Ring(multi(7, set(0, "/a"), remove(0, "/a"))), ring(1, api.Changed, data, "/a", 7))
	wantCount(t, "rung", b, 0)
}

func TestExampleOfAgain(t *testing.T) {
	for _, x := range []struct {
		mzxid api.Zxid
		there bool
		want  api.Event
	}{
		{9, true, api.Event{Kind: api.Changed, Sort: data, Path: "/a", Zxid: 9}},
		{7, true, api.Event{}},
		{9, false, api.Event{Kind: api.Deleted, Sort: data, Path: "/a"}},
	} {
		b := bell.New()
		got, ok := b.Again(1, data, "/a", 7, api.Node{Stat: api.Stat{Mzxid: x.mzxid}}, x.there)
		if got != x.want || ok != (x.want.Kind != 0) {
			t.Errorf("Mzxid %d, %v: %v, %v", x.mzxid, x.there, got, ok)
		}
		if ok {
			wantCount(t, "told", b, 0)
		} else {
			wantCount(t, "added", b, 1)
		}
	}
}

// P19.1

func TestNewTowerHasNoWatches(t *testing.T) {
	x := newTwin(t, "new")
	for _, conn := range conns {
		x.drop(conn)
	}
	for _, d := range testkit.EachDeed() {
		if rings := x.ring(d); len(rings) > 0 {
			t.Errorf("%v", rings)
		}
	}
}

func TestEachWatchMayBe(t *testing.T) {
	all := every(conns, paths)
	x := newTwin(t, "every watch", all...)
	if x.b.Count() != len(conns)*len(sorts)*len(paths) {
		t.Errorf("%d watches", x.b.Count())
	}
	for _, w := range all {
		x.add(w)
	}
	x.drain()
	for _, w := range all {
		newTwin(t, fmt.Sprint(w, " alone"), w).drain()
	}
}

func TestNoWrongWatchIsAdded(t *testing.T) {
	x := newTwin(t, "wrong watches", every([]int{1, 2}, []string{"/", "/a"})...)
	for _, conn := range conns {
		for _, p := range append(slices.Clone(paths), wrongPaths...) {
			for _, sort := range wrongSorts {
				x.add(watch{conn, sort, p})
			}
		}
		for _, p := range wrongPaths {
			for _, sort := range sorts {
				x.add(watch{conn, sort, p})
			}
		}
	}
	x.drain()
}

func TestAnAddedWatchRingsOnce(t *testing.T) {
	for _, w := range every([]int{0, 7}, []string{"/a", "/a/b"}) {
		x := newTwin(t, "added thrice", w, w, w)
		if rings := x.ring(remove(5, w.path)); len(rings) != 1 {
			t.Errorf("%v: %v", w, rings)
		}
		if rings := x.ring(remove(6, w.path)); len(rings) != 0 {
			t.Errorf("%v, rung: %v", w, rings)
		}
		x.add(w)
		x.add(w)
		x.drain()
	}
}

func TestDropLetsTheOthersStay(t *testing.T) {
	for _, conn := range append(slices.Clone(conns), 3, -2, 1<<33+1) {
		x := newTwin(t, fmt.Sprint("drop ", conn), every(conns, []string{"/", "/a", "/a/b"})...)
		x.drop(conn)
		x.drop(conn)
		for _, w := range x.m.watches {
			if w.conn == conn {
				t.Errorf("%v is there", w)
			}
		}
		if conn%2 == 0 {
			x.add(watch{conn, there, "/a"})
		}
		x.drain()
	}
}

func TestTowersAreTheirOwn(t *testing.T) {
	one, other := newTwin(t, "one", watch{1, data, "/a"}), newTwin(t, "the other one")
	other.ring(set(5, "/a"))
	other.drop(1)
	one.count()
	other.add(watch{1, list, "/"})
	one.ring(create(6, "/b"))
	one.drain()
	other.drain()
}

// P19.2

// TestEachChangeAndEachWatch: each kind of change of each path, and a watch of each sort and path.
func TestEachChangeAndEachWatch(t *testing.T) {
	for _, p := range paths {
		for _, change := range []api.Deed{create(0, p), remove(0, p), set(0, p)} {
			alone := change
			alone.Zxid = 9
			for _, d := range []api.Deed{alone, multi(9, change)} {
				for _, w := range every([]int{4}, paths) {
					x := newTwin(t, fmt.Sprint(w), w)
					x.ring(d)
					x.ring(d)
					x.drain()
				}
				x := newTwin(t, "all watches", every([]int{4, -4, 0}, paths)...)
				x.ring(d)
				x.drain()
			}
		}
	}
}

// TestTable: the chapter's table, line by line, for a node under the root and one deeper.
func TestTable(t *testing.T) {
	for _, x := range []struct{ p, above string }{{"/a", "/"}, {"/a/b", "/a"}, {"/a/b/c", "/a/b"}} {
		for _, y := range []struct {
			d    api.Deed
			want []bell.Ring
		}{
			{create(5, x.p), []bell.Ring{ring(1, api.Created, there, x.p, 5), ring(1, api.Children, list, x.above, 5)}},
			{remove(6, x.p), []bell.Ring{
				ring(1, api.Deleted, data, x.p, 6), ring(1, api.Deleted, there, x.p, 6),
				ring(1, api.Children, list, x.above, 6), ring(1, api.Deleted, list, x.p, 6),
			}},
			{set(7, x.p), []bell.Ring{ring(1, api.Changed, data, x.p, 7), ring(1, api.Changed, there, x.p, 7)}},
		} {
			b := bell.New()
			for _, w := range every([]int{1}, paths) {
				b.Add(w.conn, w.sort, w.path)
			}
			wantRings(t, x.p, b.Ring(y.d), y.want...)
			wantCount(t, x.p, b, len(sorts)*len(paths)-len(y.want))
		}
	}
}

func TestTheRootRings(t *testing.T) {
	b := bell.New()
	for _, w := range every([]int{1}, []string{"/", "/a"}) {
		b.Add(w.conn, w.sort, w.path)
	}
	wantRings(t, "set /", b.Ring(set(5, "/")), ring(1, api.Changed, data, "/", 5), ring(1, api.Changed, there, "/", 5))
	wantRings(t, "create /a/b", b.Ring(create(6, "/a/b")), ring(1, api.Children, list, "/a", 6))
	wantRings(t, "create /b", b.Ring(create(7, "/b")), ring(1, api.Children, list, "/", 7))
	wantCount(t, "rung", b, 2)
}

func TestDeedsWithoutChangesRingNothing(t *testing.T) {
	e := api.Ensemble{Version: 5, Members: []api.Member{{Id: 1, Role: api.Voter, Weight: 1}}}
	x := newTwin(t, "no change", every([]int{1, 2}, paths)...)
	for _, d := range []api.Deed{
		{Zxid: 5, Kind: api.DeedOpen, Timeout: 10},
		{Zxid: 5, Kind: api.DeedSync},
		{Zxid: 5, Kind: api.DeedConfig, Config: e},
		{Zxid: 5, Kind: api.DeedError, Err: api.ErrNode},
		closing(5),
	} {
		if !deed.Right(d) {
			t.Fatalf("kind %d is not right", d.Kind)
		}
		if rings := x.ring(d); len(rings) > 0 {
			t.Errorf("kind %d: %v", d.Kind, rings)
		}
	}
	x.drain()
}

func TestWrongDeedsRingNothing(t *testing.T) {
	wrong := append(testkit.WrongDeeds(),
		create(0, "/a"), remove(0, "/a"), set(0, "/a"), create(-1, "/a"), set(math.MaxInt64, "/a"), set(testkit.LastZxid+1, "/a"), remove(math.MinInt64, "/a"),
		create(5, "/"), remove(5, "/"), create(5, "/a/"), set(5, ""), remove(5, "a"), create(5, "/"+strings.Repeat("x", 200)),
		multi(5), multi(0, set(0, "/a")), multi(5, set(5, "/a")), multi(5, set(0, "/a"), remove(0, "/")), multi(5, slices.Repeat([]api.Deed{set(0, "/a")}, 17)...), multi(5, set(0, "/a"), api.Deed{Kind: api.DeedSync}), multi(5, multi(0, set(0, "/a"))),
		closing(0, "/a"), closing(5, "/a", "/"), closing(5, slices.Repeat([]string{"/a"}, 501)...),
		api.Deed{Zxid: 5, Kind: api.DeedClose, Parts: []api.Deed{remove(0, "/a")}},
		api.Deed{Zxid: 5, Kind: api.DeedClose, Owner: 3, Parts: []api.Deed{create(0, "/a")}},
		api.Deed{Zxid: 5, Kind: api.DeedSync, Parts: []api.Deed{remove(0, "/a")}},
		api.Deed{Zxid: 5, Kind: api.DeedSet, Path: "/a", Session: -1},
		api.Deed{Zxid: 5, Kind: api.DeedSet, Path: "/a", Data: make([]byte, 1001)},
		api.Deed{Zxid: 5, Kind: api.DeedSet, Path: "/a", Parts: []api.Deed{remove(0, "/a")}},
	)
	x := newTwin(t, "wrong deeds", every([]int{1, 2}, paths)...)
	for i, d := range wrong {
		if deed.Right(d) {
			t.Fatalf("%d is right: %+v", i, d)
		}
		if rings := x.ring(d); len(rings) > 0 {
			t.Errorf("%d: %v", i, rings)
		}
	}
	x.drain()
}

func TestRingsAreInOrder(t *testing.T) {
	next := testkit.Walk()
	all := every(conns, []string{"/", "/a", "/a/b", "/b"})
	deeds := []api.Deed{
		create(5, "/a"), create(5, "/a/b"), remove(5, "/a"), remove(5, "/a/b"), set(5, "/"), set(5, "/a"),
		multi(5, set(0, "/b"), set(0, "/a"), remove(0, "/a/b"), set(0, "/")),
		closing(5, "/b", "/a/b", "/a"),
	}
	for _, d := range deeds {
		for range 10 {
			x := newTwin(t, "mixed")
			for _, i := range permuted(len(all), next) {
				x.add(all[i])
			}
			if len(x.ring(d)) == 0 {
				t.Errorf("%+v rings nothing", d)
			}
			x.drain()
		}
	}
}

// permuted: the numbers below n, each once.
func permuted(n int, next func(int) int) []int {
	out := []int{}
	for i := range n {
		out = slices.Insert(out, next(i+1), i)
	}
	return out
}

// TestChangeByChange: a watch goes with the first change that rings it, and what a later one rings is told behind all of that.
func TestChangeByChange(t *testing.T) {
	b := bell.New()
	b.Add(9, data, "/a")
	b.Add(9, there, "/c")
	b.Add(8, list, "/")
	b.Add(1, list, "/a")
	b.Add(1, there, "/a")
	wantRings(t, "a multi", b.Ring(multi(7, set(0, "/a"), create(0, "/c"), remove(0, "/a"), create(0, "/a"), set(0, "/c"))),
		ring(1, api.Changed, there, "/a", 7),
		ring(9, api.Changed, data, "/a", 7),
		ring(8, api.Children, list, "/", 7),
		ring(9, api.Created, there, "/c", 7),
		ring(1, api.Deleted, list, "/a", 7))
	wantCount(t, "rung", b, 0)

	b.Add(1, list, "/")
	b.Add(1, list, "/b")
	b.Add(1, data, "/b")
	b.Add(0, data, "/b/c")
	b.Add(2, data, "/a")
	wantRings(t, "a close", b.Ring(closing(8, "/b/c", "/b", "/a")),
		ring(0, api.Deleted, data, "/b/c", 8),
		ring(1, api.Children, list, "/b", 8),
		ring(1, api.Deleted, data, "/b", 8),
		ring(1, api.Children, list, "/", 8),
		ring(2, api.Deleted, data, "/a", 8))
	wantCount(t, "closed", b, 0)
}

func TestDeedsOfMostParts(t *testing.T) {
	x := newTwin(t, "most parts")
	var names []string
	var parts []api.Deed
	for i := range api.MaxNodes {
		p := "/a/" + strconv.Itoa(i*7%api.MaxNodes)
		names = append(names, p)
		x.add(watch{i % 5, data, p})
		x.add(watch{3, list, p})
		if i < api.MaxParts {
			parts = append(parts, set(0, p))
		}
	}
	x.add(watch{4, list, "/a"})
	if rings := x.ring(multi(5, parts...)); len(rings) != api.MaxParts {
		t.Errorf("a multi: %d rings", len(rings))
	}
	if rings := x.ring(closing(6, names...)); len(rings) != 2*api.MaxNodes+1-api.MaxParts {
		t.Errorf("a close: %d rings", len(rings))
	}
	x.drain()
	for _, d := range testkit.LongestDeeds() {
		for i, part := range d.Parts {
			x.add(watch{i % 3, list, part.Path})
			x.add(watch{i % 2, there, part.Path})
		}
		if rings := x.ring(d); len(rings) < len(d.Parts) {
			t.Errorf("%d rings", len(rings))
		}
		x.drain()
	}
}

func TestEventsHaveTheDeedsZxid(t *testing.T) {
	for _, z := range []api.Zxid{1, 1<<31 - 1, 1 << 31, 1<<32 - 1, 1 << 32, 1<<53 + 1, 1 << 62, testkit.LastZxid} {
		for _, d := range []api.Deed{create(z, "/a"), remove(z, "/a"), set(z, "/a"), multi(z, set(0, "/a")), closing(z, "/a")} {
			x := newTwin(t, "zxids", every([]int{1}, []string{"/", "/a"})...)
			for _, r := range x.ring(d) {
				if r.Event.Zxid != z {
					t.Errorf("%v, want %d", r, z)
				}
			}
			x.drain()
		}
	}
}

// TestEachRightDeed: who calls, when, and with what data matters not.
func TestEachRightDeed(t *testing.T) {
	x := newTwin(t, "each kind")
	for _, d := range testkit.EachDeed() {
		for _, w := range every(conns, []string{"/", "/a", "/a/b", "/b", "/b/c"}) {
			x.add(w)
		}
		x.ring(d)
	}
	x.drain()
}

// P19.3

// TestAgain: all small zxids of a node, and all that may have been seen, with the watch there ahead of it and not.
func TestAgain(t *testing.T) {
	for i := range 3 * 2 * 2 * 6 * 4 * 4 * 4 {
		rest := i
		digit := func(most int) int { n := rest % most; rest /= most; return n }
		w := watch{5, sorts[digit(3)], "/a"}
		isThere, had := digit(2) == 0, digit(2) == 0
		last := api.Zxid(digit(6) - 1)
		n := api.Node{Path: "/a", Stat: api.Stat{Czxid: api.Zxid(digit(4)), Mzxid: api.Zxid(digit(4)), Pzxid: api.Zxid(digit(4))}}
		x := newTwin(t, fmt.Sprint("there ahead: ", had), watch{4, w.sort, "/a"}, watch{5, w.sort, "/b"}, watch{5, w.sort%3 + 1, "/a"})
		if had {
			x.add(w)
		}
		x.again(w, last, n, isThere)
		x.drain()
	}
}

func TestAgainByHand(t *testing.T) {
	n := api.Node{Path: "/a", Stat: api.Stat{Czxid: 5, Mzxid: 9, Pzxid: 7}}
	anew := api.Node{Path: "/a", Stat: api.Stat{Czxid: 9, Mzxid: 9, Pzxid: 7}}
	for i, x := range []struct {
		sort  api.WatchSort
		last  api.Zxid
		n     api.Node
		there bool
		kind  api.EventKind
		z     api.Zxid
	}{
		{data, 8, n, true, api.Changed, 9}, {data, 9, n, true, 0, 0}, {data, 10, n, true, 0, 0},
		{data, 8, n, false, api.Deleted, 0}, {data, 10, n, false, api.Deleted, 0},
		{list, 6, n, true, api.Children, 7}, {list, 7, n, true, 0, 0}, {list, 8, n, true, 0, 0},
		{list, 8, anew, true, api.Children, 9}, {list, 9, anew, true, 0, 0}, {list, 6, anew, true, api.Children, 9},
		{list, 6, n, false, api.Deleted, 0}, {list, 10, n, false, api.Deleted, 0},
		{there, 4, n, true, api.Created, 5}, {there, 5, n, true, api.Changed, 9}, {there, 8, n, true, api.Changed, 9}, {there, 9, n, true, 0, 0},
		{there, 4, n, false, 0, 0}, {there, 10, n, false, 0, 0},
	} {
		want := api.Event{Kind: x.kind, Sort: x.sort, Path: "/a", Zxid: x.z}
		if x.kind == 0 {
			want = api.Event{}
		}
		b := bell.New()
		got, ok := b.Again(3, x.sort, "/a", x.last, x.n, x.there)
		if got != want || ok != (x.kind != 0) || b.Count() == 1 != (x.kind == 0) {
			t.Errorf("%d: %v, %v, %d watches", i, got, ok, b.Count())
		}
	}
}

func TestAgainAtTheEnds(t *testing.T) {
	ends := []api.Zxid{math.MinInt64, math.MinInt64 + 1, -1, 0, 1, 1<<31 - 1, 1 << 31, 1<<32 - 1, 1 << 32, 1<<53 + 1, testkit.LastZxid, testkit.LastZxid + 1, math.MaxInt64 - 1, math.MaxInt64}
	x := newTwin(t, "ends")
	for _, last := range ends {
		for _, z := range ends {
			for _, w := range every([]int{math.MinInt, math.MaxInt}, []string{"/", paths[len(paths)-1]}) {
				for _, s := range []api.Stat{{Czxid: z, Mzxid: z, Pzxid: z}, {Czxid: z}, {Mzxid: z}, {Pzxid: z}} {
					x.again(w, last, api.Node{Stat: s}, true)
					x.again(w, last, api.Node{Stat: s}, false)
				}
			}
		}
	}
	x.drain()
}

func TestAgainOfAWrongWatchDoesNothing(t *testing.T) {
	n := api.Node{Path: "/a", Stat: api.Stat{Czxid: 5, Mzxid: 9, Pzxid: 7}}
	x := newTwin(t, "wrong watches", every([]int{1}, []string{"/", "/a"})...)
	for _, last := range []api.Zxid{0, 5, 7, 9} {
		for _, isThere := range []bool{true, false} {
			for _, p := range append(slices.Clone(paths), wrongPaths...) {
				for _, sort := range wrongSorts {
					x.again(watch{1, sort, p}, last, n, isThere)
				}
			}
			for _, p := range wrongPaths {
				for _, sort := range sorts {
					x.again(watch{1, sort, p}, last, n, isThere)
				}
			}
		}
	}
	x.drain()
}

// TestAgainAsksThreeZxidsAlone: nothing else of the node matters, its path neither.
func TestAgainAsksThreeZxidsAlone(t *testing.T) {
	for _, n := range []api.Node{
		{},
		{Path: "/b"},
		{Path: "no path", Data: make([]byte, 2000)},
		{Path: "/a", Data: []byte("x"), Stat: api.Stat{Ctime: 99, Mtime: 99, Version: 99, Cversion: 99, Owner: 99, Length: 99, Children: 99}},
		{Path: "/a", Stat: api.Stat{Ctime: -1, Version: -1, Cversion: -1, Owner: -1, Length: -1, Children: -1}},
	} {
		for _, w := range every([]int{1}, []string{"/a"}) {
			for _, z := range []api.Zxid{2, 3, 4} {
				n.Stat.Czxid, n.Stat.Mzxid, n.Stat.Pzxid = z, z, z
				x := newTwin(t, "other fields")
				if _, ok := x.again(w, 3, n, true); ok != (z == 4) {
					t.Errorf("%v, %d: %v", w, z, ok)
				}
				x.drain()
			}
		}
	}
}

// TestSetAgainItRings: a watch that Again has added is one as Add's, and one that it has told of is none.
func TestSetAgainItRings(t *testing.T) {
	for _, w := range every([]int{6}, []string{"/a"}) {
		x := newTwin(t, "set again")
		n := api.Node{Path: "/a", Stat: api.Stat{Czxid: 5, Mzxid: 5, Pzxid: 5}}
		if _, ok := x.again(w, 5, n, true); ok {
			t.Errorf("%v tells", w)
		}
		if _, ok := x.again(w, 5, n, true); ok || x.b.Count() != 1 {
			t.Errorf("%v tells, or is there twice", w)
		}
		if rings := x.ring(remove(6, "/a")); len(rings) != 1 {
			t.Errorf("%v: %v", w, rings)
		}
		x.add(w)
		if _, ok := x.again(w, 4, n, true); !ok {
			t.Errorf("%v tells nothing", w)
		}
		if rings := x.ring(remove(7, "/a")); len(rings) != 0 {
			t.Errorf("%v rings though it has told: %v", w, rings)
		}
		x.add(watch{6, w.sort, "/b"})
		x.again(w, 5, n, true)
		x.drop(6)
		x.drain()
	}
}

// R5

func TestNoTower(t *testing.T) {
	var none *bell.Tower
	n := api.Node{Path: "/a", Stat: api.Stat{Czxid: 5, Mzxid: 9, Pzxid: 7}}
	for what, b := range map[string]*bell.Tower{"nil": none, "one that nobody made": {}, "new": new(bell.Tower)} {
		for range 2 {
			for _, sort := range append(slices.Clone(sorts), wrongSorts...) {
				for _, p := range append(slices.Clone(paths), wrongPaths...) {
					b.Add(1, sort, p)
					for _, isThere := range []bool{true, false} {
						if e, ok := b.Again(1, sort, p, 0, n, isThere); ok || e != (api.Event{}) {
							t.Errorf("%s: Again: %v, %v", what, e, ok)
						}
					}
				}
			}
			for _, d := range append(testkit.EachDeed(), testkit.WrongDeeds()...) {
				if rings := b.Ring(d); rings != nil {
					t.Errorf("%s: %v", what, rings)
				}
			}
			b.Drop(1)
			wantCount(t, what, b, 0)
		}
	}
}

// R3

func TestDeedsAndNodesStayAsTheyAre(t *testing.T) {
	deeds := append(testkit.EachDeed(), testkit.WrongDeeds()...)
	for _, d := range append(deeds, closing(7, "/b", "/a"), multi(8, set(0, "/b"), set(0, "/a"))) {
		roomy, twice := testkit.RoomyDeed(d), testkit.RoomyDeed(d)
		x := newTwin(t, "roomy", every([]int{1, 2}, []string{"/", "/a", "/b"})...)
		x.ring(roomy)
		if told, want := tell(roomy), tell(twice); told != want {
			t.Errorf("changed: %s, was %s", told, want)
		}
		testkit.SpoilDeed(roomy)
		x.drain()
	}
	n := api.Node{Path: "/a", Data: testkit.WithRoom([]byte("data"), 7), Stat: api.Stat{Czxid: 5, Mzxid: 9, Pzxid: 7}}
	same := api.Node{Path: "/a", Data: testkit.WithRoom([]byte("data"), 7), Stat: n.Stat}
	x := newTwin(t, "a node")
	for _, w := range every([]int{1}, []string{"/a"}) {
		for _, last := range []api.Zxid{4, 6, 8, 9} {
			x.again(w, last, n, true)
		}
	}
	if !reflect.DeepEqual(n, same) || !slices.Equal(n.Data[:cap(n.Data)], same.Data[:cap(same.Data)]) {
		t.Errorf("changed: %+v", n)
	}
	testkit.Spoil(n.Data, 9)
	x.drain()
}

// tell: all of a deed, the spare room of its lists, too.
func tell(d api.Deed) string {
	text := fmt.Sprintf("%+v %v %+v", d, d.Data[:cap(d.Data)], d.Config.Members[:cap(d.Config.Members)])
	for _, part := range d.Parts[:cap(d.Parts)] {
		text += "\n" + tell(part)
	}
	return text
}

func TestListsAreNew(t *testing.T) {
	for count := range 20 {
		x := newTwin(t, "lists")
		for i := range count + 1 {
			x.add(watch{i, data, "/a"})
			x.add(watch{i, data, "/b"})
			x.add(watch{i, list, "/"})
		}
		one := x.ring(set(5, "/a"))
		was := slices.Clone(one)
		kept := append(one, ring(99, api.Changed, data, "/kept", 9))
		other := x.ring(multi(6, set(0, "/b"), create(0, "/c")))
		then := slices.Clone(other)
		if !slices.Equal(kept[:len(was)], was) || kept[len(was)].Conn != 99 {
			t.Errorf("a list changes as the tower goes on: %v", kept)
		}
		testkit.Spoil(one, ring(98, api.Changed, data, "/spoilt", 9))
		testkit.Spoil(kept, ring(97, api.Changed, data, "/spoilt", 9))
		if !slices.Equal(other, then) {
			t.Errorf("two lists share memory: %v", other)
		}
		x.drain()
	}
}

// All promises at once.

// act: one thing done to a tower and to its model, whose answers must agree.
type act struct {
	what string
	do   func(x twin)
}

func adds(conn int, sort api.WatchSort, p string) act {
	return act{fmt.Sprintf("Add(%d, %d, %s)", conn, sort, p), func(x twin) { x.add(watch{conn, sort, p}) }}
}

func drops(conn int) act {
	return act{fmt.Sprintf("Drop(%d)", conn), func(x twin) { x.drop(conn) }}
}

func rings(d api.Deed) act {
	return act{fmt.Sprintf("Ring(%d %s, %d parts)", d.Kind, d.Path, len(d.Parts)), func(x twin) { x.ring(d) }}
}

func sets(w watch, last, now api.Zxid, isThere bool) act {
	n := api.Node{Path: w.path, Stat: api.Stat{Czxid: 5, Mzxid: now, Pzxid: now}}
	return act{fmt.Sprintf("Again(%v, %d, %d, %v)", w, last, now, isThere), func(x twin) { x.again(w, last, n, isThere) }}
}

// TestAllShortRows goes through all rows of a few acts.
func TestAllShortRows(t *testing.T) {
	all := []act{
		adds(1, data, "/a"), adds(1, there, "/a"), adds(2, list, "/"), adds(1, list, "/a"), adds(1, 0, "/a"),
		sets(watch{1, data, "/a"}, 6, 6, true), sets(watch{1, data, "/a"}, 6, 7, true), sets(watch{2, list, "/"}, 6, 6, false), sets(watch{1, there, "/a"}, 6, 7, false),
		rings(create(8, "/a")), rings(set(8, "/a")), rings(remove(8, "/a")), rings(create(8, "/a/b")), rings(create(0, "/a")),
		rings(multi(8, set(0, "/a"), remove(0, "/a"))), rings(closing(8, "/a")),
		drops(1),
	}
	var goOn func(row []act, left int)
	goOn = func(row []act, left int) {
		for _, a := range all {
			longer := append(slices.Clone(row), a)
			if left > 1 {
				goOn(longer, left-1)
				continue
			}
			what := ""
			for _, b := range longer {
				what += b.what + " "
			}
			x := newTwin(t, what)
			for _, b := range longer {
				b.do(x)
			}
			x.drain()
		}
	}
	goOn(nil, 4)
}

// TestLongRows goes on with one tower for long, with few watches and with many.
func TestLongRows(t *testing.T) {
	next := testkit.Walk()
	few := []string{"/", "/a", "/a/b"}
	for round := range 60 {
		l := [][]string{few, paths, append(slices.Clone(paths), wrongPaths...)}[round%3]
		anyPath := func() string { return l[next(len(l))] }
		x := newTwin(t, "")
		for step := range 400 {
			x.what = fmt.Sprintf("round %d, step %d", round, step)
			w := watch{next([]int{2, 40}[round%2]), api.WatchSort(next(5)), anyPath()}
			switch next(8) {
			case 0:
				x.drop(w.conn)
			case 1, 2:
				x.ring(anyDeed(next, api.Zxid(next(50)), anyPath))
			case 3:
				z := func() api.Zxid { return api.Zxid(next(5)) }
				x.again(w, z(), api.Node{Stat: api.Stat{Czxid: z(), Mzxid: z(), Pzxid: z()}}, next(3) > 0)
			default:
				x.add(w)
			}
		}
		x.drain()
	}
}

// anyDeed: one of any kind; some are not right.
func anyDeed(next func(int) int, z api.Zxid, anyPath func() string) api.Deed {
	kinds := []func(api.Zxid, string) api.Deed{create, remove, set}
	var parts []api.Deed
	for range next(6) {
		parts = append(parts, kinds[next(3)](0, anyPath()))
	}
	switch next(6) {
	case 0:
		return multi(z, parts...)
	case 1:
		return closing(z, anyPath(), anyPath(), anyPath())
	case 2:
		return testkit.AnyDeed(next, z)
	}
	return kinds[next(3)](z, anyPath())
}

// TestSameStepsSameAnswers: what a tower tells hangs on its own past alone (R4).
func TestSameStepsSameAnswers(t *testing.T) {
	tell := func() string {
		next, out, b := testkit.Walk(), "", bell.New()
		for i := range 60 {
			for range 9 {
				b.Add(next(40)-20, sorts[next(3)], paths[next(4)])
			}
			out += fmt.Sprint(b.Ring(anyDeed(next, api.Zxid(i+1), func() string { return paths[next(4)] })), b.Count(), ";")
		}
		return out
	}
	first := tell()
	for range 50 {
		if again := tell(); again != first {
			t.Fatalf("%s, and %s", first, again)
		}
	}
}
