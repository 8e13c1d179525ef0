package fuzzy_test

import (
	"bytes"
	"fmt"
	"math"
	"slices"
	"testing"

	"beadle/api"
	"beadle/deed"
	"beadle/fuzzy"
	"beadle/image"
	"beadle/testkit"
	"beadle/tree"
)

// The chapter's example.

func TestExample(t *testing.T) {
	h := newHistory()
	h.add(create(1, "/a", 1), create(2, "/b", 2))
	w := newTwin(t, "example", 2, voter(1, 0))
	if w.step(h.trees[2], 2) {
		t.Error("through behind / and /a")
	}
	h.add(remove(3, "/a", 3), create(4, "/a0", 4), create(5, "/c", 5))
	if !w.step(h.trees[5], 9) {
		t.Error("not through behind /c")
	}
	// The example's words pass over /a0, which by P13.2 is among those that stand behind /a; what is restored is the same with it or without.
	w.taken("/ /a /a0 /b /c")
	b, _ := w.w.Done(5)
	h.checkWhole(t, "example", b, 2, 5)
	if got := restore(b, h.deeds[2:]); pathsOf(got.x.All()) != "/ /a0 /b /c" {
		t.Error(tellRestored(got))
	}
}

// P13.1

func TestNewHasTakenNothing(t *testing.T) {
	x := grown("/a", "/a/b")
	for _, from := range []api.Zxid{math.MinInt64, -1, 0, 1, 5, math.MaxInt64} {
		for _, config := range []api.Ensemble{voter(1, 0), voter(7, 1<<40), {}, {Version: -1}, {Members: make([]api.Member, 100)}} {
			w := newTwin(t, fmt.Sprintf("from %d, %v", from, short(config)), from, config)
			for _, to := range []api.Zxid{math.MinInt64, -1, 0, 5, math.MaxInt64} {
				if b, errno := w.w.Done(to); b != nil || errno != api.ErrState {
					t.Errorf("%s: Done(%d): %x, %v", w.what, to, b, errno)
				}
			}
			w.step(x, 2)
			w.step(x, 2)
			for _, to := range []api.Zxid{math.MinInt64, -1, 0, from, math.MaxInt64} {
				w.look(to)
			}
		}
	}
}

func TestFromAndConfigAreToldByTheBytes(t *testing.T) {
	config := api.Ensemble{Version: 1<<32 + 3, Members: []api.Member{{Id: 2, Role: api.Voter, Weight: 5, Group: 3}, {Id: 4, Role: api.Observer}}}
	x := grown("/a", "/a/b")
	w := newTwin(t, "bytes", 4, config)
	w.step(x, 9)
	b, errno := w.w.Done(6)
	nodes, sittings, gotConfig, from, to, e := image.Get(b)
	if errno != api.OK || e != api.OK || pathsOf(nodes) != "/ /a /a/b" || !slices.Equal(sittings, x.Sittings()) || !sameConfig(gotConfig, config) || from != 4 || to != 6 {
		t.Errorf("%v, %v: %s %v %v %d %d", errno, e, pathsOf(nodes), sittings, gotConfig, from, to)
	}
}

func TestWritersAreTheirOwn(t *testing.T) {
	x := grown("/a", "/b", "/c")
	one, two := newTwin(t, "one", 1, voter(1, 0)), newTwin(t, "two", 2, voter(2, 0))
	one.step(x, 2)
	two.step(x, 9)
	x.Apply(create(9, "/d", 4))
	one.step(x, 1)
	one.look(5)
	two.look(5)
	one.step(x, 9)
	one.taken("/ /a /b /c /d")
	two.taken("/ /a /b /c")
}

// P13.2

// TestStepsOfAllSizes: where just so many nodes are left, it is not through yet.
func TestStepsOfAllSizes(t *testing.T) {
	paths := []string{"/a", "/a-", "/a/b", "/a0"}
	for count := range len(paths) + 1 {
		x := grown(paths[:count]...)
		nodes := count + 1
		for n := 1; n < nodes+3; n++ {
			w := newTwin(t, fmt.Sprintf("%d nodes by %d", nodes, n), 0, voter(1, 0))
			for range nodes / n {
				if w.step(x, n) {
					t.Errorf("%s: through too soon", w.what)
				}
			}
			if !w.step(x, n) {
				t.Errorf("%s: not through", w.what)
			}
			w.taken(pathsOf(x.All()))
		}
	}
}

func TestStepsOfNone(t *testing.T) {
	x := grown("/a", "/b")
	w := newTwin(t, "none", 0, voter(1, 0))
	none := func() {
		t.Helper()
		for _, n := range []int{0, -1, -2, math.MinInt} {
			if w.step(x, n) {
				t.Errorf("Step(%d) is through", n)
			}
		}
	}
	none()
	w.step(x, 1)
	none()
	w.step(x, 2)
	none()
	x.Apply(create(9, "/c", 3))
	none()
	if !w.step(x, 2) {
		t.Error("not through")
	}
	for _, n := range []int{0, -1, math.MinInt, 1, math.MaxInt} {
		if !w.step(x, n) {
			t.Errorf("through, and Step(%d) is not", n)
		}
	}
	w.taken("/ /a /b /c")
}

func TestGreatSteps(t *testing.T) {
	x := grown("/a", "/b")
	for _, n := range []int{4, 1 << 32, math.MaxInt32, math.MaxInt - 1, math.MaxInt} {
		for _, first := range []int{0, 1, 2, 3} {
			w := newTwin(t, fmt.Sprintf("%d and %d", first, n), 0, voter(1, 0))
			w.step(x, first)
			if !w.step(x, n) {
				t.Errorf("%s: not through", w.what)
			}
			w.taken("/ /a /b")
		}
	}
}

// TestNodesAsTheyAreNow: each node is as old as the step that took it.
func TestNodesAsTheyAreNow(t *testing.T) {
	x := grown("/a", "/b", "/c")
	w := newTwin(t, "now", 0, voter(1, 0))
	w.step(x, 2)
	for i, p := range []string{"/", "/a", "/b", "/c"} {
		x.Apply(set(api.Zxid(i+10), p, "young", 7))
	}
	w.step(x, 1)
	x.Apply(set(20, "/b", "younger", 8))
	x.Apply(set(21, "/c", "younger", 8))
	w.step(x, 9)
	b, _ := w.w.Done(21)
	nodes, _, _, _, _, _ := image.Get(b)
	var data []string
	for _, n := range nodes {
		data = append(data, fmt.Sprintf("%s %d", n.Data, n.Stat.Version))
	}
	if want := []string{" 0", "of /a 0", "young 7", "younger 8"}; !slices.Equal(data, want) {
		t.Errorf("%q, want %q", data, want)
	}
}

// TestNodesThatComeAndGo: what stands behind the last one taken counts, whether or not that one is there still.
func TestNodesThatComeAndGo(t *testing.T) {
	for _, c := range []struct {
		what  string
		deeds []api.Deed
		want  string
	}{
		{"nothing", nil, "/ /b /c /d"},
		{"the last one goes", []api.Deed{remove(9, "/b", 9)}, "/ /b /c /d"},
		{"the last one goes and comes", []api.Deed{remove(9, "/b", 9), create(10, "/b", 10)}, "/ /b /c /d"},
		{"one ahead comes", []api.Deed{create(9, "/a", 9)}, "/ /b /c /d"},
		{"one just behind comes", []api.Deed{create(9, "/b!", 9)}, "/ /b /b! /c /d"},
		{"a child of the last one comes", []api.Deed{create(9, "/b/a", 9)}, "/ /b /b/a /c /d"},
		{"the last one goes, its child stays", []api.Deed{create(9, "/b/a", 9), remove(10, "/b", 10)}, "/ /b /b/a /c /d"},
		{"the next one goes", []api.Deed{remove(9, "/c", 9)}, "/ /b /d"},
		{"the next one goes, another one comes", []api.Deed{remove(9, "/c", 9), create(10, "/c0", 10)}, "/ /b /c0 /d"},
		{"all others go", []api.Deed{remove(9, "/b", 9), remove(9, "/c", 9), remove(9, "/d", 9)}, "/ /b"},
		{"one at the end comes", []api.Deed{create(9, "/~", 9)}, "/ /b /c /d /~"},
	} {
		for n := 1; n < 7; n++ {
			x := grown("/b", "/c", "/d")
			w := newTwin(t, fmt.Sprintf("%s, by %d", c.what, n), 0, voter(1, 0))
			w.step(x, 2)
			for _, d := range c.deeds {
				x.Apply(d)
			}
			for range 9 {
				w.step(x, n)
			}
			w.taken(c.want)
		}
	}
}

// TestOrderOfPaths: they rise byte by byte, not by their parts.
func TestOrderOfPaths(t *testing.T) {
	x := grown("/b", "/a0", "/a/b", "/a", "/a-", "/a/b/c", "/a/b-", "/Z")
	for n := 1; n < 10; n++ {
		w := newTwin(t, fmt.Sprintf("by %d", n), 0, voter(1, 0))
		for range 10 {
			w.step(x, n)
		}
		w.taken("/ /Z /a /a- /a/b /a/b- /a/b/c /a0 /b")
	}
}

// TestSittingsAreTakenAtTheEnd: as they are in the step that is through, and not ahead of it.
func TestSittingsAreTakenAtTheEnd(t *testing.T) {
	x := grown("/a")
	w := newTwin(t, "sittings", 0, voter(1, 0))
	w.step(x, 1)
	x.Apply(sync(9, 1, 5))
	w.step(x, 1)
	x.Apply(over(10, 2))
	x.Apply(open(11, 30))
	w.step(x, 0)
	x.Apply(sync(12, 1, 7))
	w.step(x, 1)
	x.Apply(sync(13, 1, 8))
	x.Apply(open(14, 40))
	w.step(x, 1)
	b, _ := w.w.Done(20)
	_, sittings, _, _, _, _ := image.Get(b)
	if want := []api.Sitting{{Session: 1, Timeout: 10, Turn: 7}, {Session: 11, Timeout: 30}}; !slices.Equal(sittings, want) {
		t.Errorf("%v, want %v", sittings, want)
	}
}

func TestThroughIsThrough(t *testing.T) {
	x := grown("/a", "/b")
	w := newTwin(t, "through", 0, voter(1, 0))
	w.step(x, 9)
	before, _ := w.w.Done(7)
	for _, d := range []api.Deed{create(10, "/c", 3), set(11, "/a", "y", 1), remove(12, "/b", 4), open(13, 5), over(14, 1)} {
		x.Apply(d)
		for _, n := range []int{-1, 0, 1, 9, math.MaxInt} {
			if !w.step(x, n) || !w.step(tree.New(), n) || !w.step(grown("/z"), n) {
				t.Error("through no more")
			}
		}
	}
	if after, _ := w.w.Done(7); !bytes.Equal(before, after) {
		t.Error("it took something when it was through")
	}
}

// TestOtherTrees: a writer looks at the tree that it is handed, and at no other.
func TestOtherTrees(t *testing.T) {
	w := newTwin(t, "other trees", 0, voter(1, 0))
	w.step(grown("/a", "/d"), 2)
	w.step(grown("/b", "/c"), 1)
	w.step(tree.New(), 0)
	if w.step(grown("/a", "/e"), 1) {
		t.Error("through")
	}
	if !w.step(tree.New(), 1) {
		t.Error("not through")
	}
	w.taken("/ /a /b /e")
	b, _ := w.w.Done(0)
	if _, sittings, _, _, _, _ := image.Get(b); len(sittings) != 0 {
		t.Errorf("sittings of another tree: %v", sittings)
	}
}

func TestStepOfNoTree(t *testing.T) {
	x := grown("/a", "/b")
	w := newTwin(t, "no tree", 0, voter(1, 0))
	none := func() {
		t.Helper()
		for _, no := range []*tree.Tree{nil, {}, new(tree.Tree)} {
			for _, n := range []int{math.MinInt, -1, 0, 1, 9, math.MaxInt} {
				if w.step(no, n) || w.w.Step(no, n) {
					t.Errorf("Step of no tree by %d: true", n)
				}
			}
		}
	}
	none()
	w.step(x, 2)
	none()
	w.step(x, 1)
	none()
	w.step(x, 1)
	none()
	if !w.step(x, 1) {
		t.Error("through no more")
	}
	w.taken("/ /a /b")
}

// TestAnySteps: against the shadow, on trees that go on.
func TestAnySteps(t *testing.T) {
	next := testkit.Walk()
	throughs := 0
	for i := range 500 {
		p := &planner{next: next, x: tree.New()}
		w := newTwin(t, fmt.Sprintf("walk %d", i), api.Zxid(next(3)), voter(1, 0))
		through := false
		for range 40 {
			p.deed()
			if next(3) == 0 {
				through = w.step(p.x, next(5)-1)
			}
		}
		w.look(p.z)
		if through {
			throughs++
		}
	}
	if throughs < 100 {
		t.Errorf("%d are through", throughs)
	}
}

// P13.3

func TestDoneAgainAndAgain(t *testing.T) {
	w := newTwin(t, "again", 5, voter(1, 0))
	w.look(9)
	w.step(grown("/a"), 2)
	w.look(9)
	w.step(grown("/a"), 2)
	for range 2 {
		for _, to := range []api.Zxid{5, 9, 6, math.MaxInt64, 4, 0, -1, math.MinInt64} {
			w.look(to)
			b, errno := w.w.Done(to)
			if to < 5 && (b != nil || errno != api.ErrShape) || to >= 5 && (b == nil || errno != api.OK) {
				t.Errorf("Done(%d): %s, %v", to, short(b), errno)
			}
		}
	}
}

func TestDoneOfNoRightImage(t *testing.T) {
	many := tree.New()
	for z := range api.Zxid(201) {
		many.Apply(open(z+1, 5))
	}
	fewer := many.Copy()
	fewer.Apply(over(300, 7))
	for what, c := range map[string]struct {
		from   api.Zxid
		config api.Ensemble
		x      *tree.Tree
		want   api.Errno
	}{
		"right":                    {1, voter(1, 0), grown("/a"), api.OK},
		"from below 0":             {-1, voter(1, 0), grown("/a"), api.ErrShape},
		"from above to":            {8, voter(1, 0), grown("/a"), api.ErrShape},
		"a config without members": {1, api.Ensemble{Version: 3}, grown("/a"), api.ErrShape},
		"a voter without weight":   {1, api.Ensemble{Members: []api.Member{{Id: 1, Role: api.Voter}}}, grown("/a"), api.ErrShape},
		"500 nodes":                {1, voter(1, 0), wide(500), api.OK},
		"501 nodes":                {1, voter(1, 0), wide(501), api.ErrShape},
		"200 sittings":             {1, voter(1, 0), fewer, api.OK},
		"201 sittings":             {1, voter(1, 0), many, api.ErrShape},
	} {
		w := newTwin(t, what, c.from, c.config)
		if b, errno := w.w.Done(7); b != nil || errno != api.ErrState {
			t.Errorf("%s, ahead: %s, %v", what, short(b), errno)
		}
		w.step(c.x, 600)
		if b, errno := w.w.Done(7); errno != c.want || (b == nil) != (c.want != api.OK) {
			t.Errorf("%s: %s, %v, want %v", what, short(b), errno, c.want)
		}
		w.look(7)
	}
}

// TestNodesOfUnlikeMomentsMayBeTooMany: no moment has more than 500, and still 501 are taken.
func TestNodesOfUnlikeMomentsMayBeTooMany(t *testing.T) {
	x := wide(500)
	w := newTwin(t, "500 and one more", 499, voter(1, 0))
	w.step(x, 2)
	x.Apply(remove(500, "/n0000", 500))
	x.Apply(create(501, "/z", 501))
	if !w.step(x, 600) {
		t.Error("not through")
	}
	if b, errno := w.w.Done(501); b != nil || errno != api.ErrShape {
		t.Errorf("%s, %v", short(b), errno)
	}
}

// P13.4

// TestWhichDeedsReach: all ways for from and to to stand among rows of deeds.
func TestWhichDeedsReach(t *testing.T) {
	x := treeOf(open(1, 5), create(2, "/a", 1))
	all := []api.Deed{set(3, "/a", "x", 1), become(4, 2), create(5, "/b", 2), become(6, 3), remove(7, "/a", 3)}
	counts := map[api.Errno]int{}
	for from := api.Zxid(2); from <= 8; from++ {
		for to := from; to <= 9; to++ {
			b := put(t, x.All(), x.Sittings(), voter(1, 0), from, to)
			for some := range 1 << len(all) {
				var l []api.Deed
				for i, d := range all {
					if some>>i&1 == 1 {
						l = append(l, d)
					}
				}
				want := restoreByWords(b, l)
				counts[want.errno]++
				checkRestore(t, fmt.Sprintf("from %d to %d", from, to), b, l, want)
			}
		}
	}
	if counts[api.OK] < 100 || counts[api.ErrNone] < 100 || len(counts) != 2 {
		t.Error(counts)
	}
}

func TestReachesByHand(t *testing.T) {
	x := grown("/a")
	image := func(from, to api.Zxid) []byte { return put(t, x.All(), x.Sittings(), voter(1, 0), from, to) }
	for _, c := range []struct {
		from, to api.Zxid
		deeds    []api.Zxid
		last     api.Zxid
		want     api.Errno
	}{
		{5, 5, nil, 5, api.OK},
		{0, 0, nil, 0, api.OK},
		{5, 7, nil, 0, api.ErrNone},
		{5, 5, []api.Zxid{3}, 5, api.OK},
		{5, 5, []api.Zxid{5}, 5, api.OK},
		{5, 5, []api.Zxid{3, 6}, 6, api.OK},
		{5, 7, []api.Zxid{3}, 0, api.ErrNone},
		{5, 7, []api.Zxid{5}, 0, api.ErrNone},
		{5, 7, []api.Zxid{6}, 0, api.ErrNone},
		{5, 7, []api.Zxid{7}, 7, api.OK},
		{5, 7, []api.Zxid{1, 8}, 8, api.OK},
		{5, 7, []api.Zxid{6, 7, 9}, 9, api.OK},
		{5, math.MaxInt64, []api.Zxid{6, math.MaxInt64 - 1}, 0, api.ErrNone},
		{5, math.MaxInt64, []api.Zxid{6, math.MaxInt64}, math.MaxInt64, api.OK},
		{math.MaxInt64, math.MaxInt64, []api.Zxid{math.MinInt64, -1, 0, math.MaxInt64}, math.MaxInt64, api.OK},
		{0, 1, []api.Zxid{math.MinInt64, -5, 0}, 0, api.ErrNone},
		{0, 1, []api.Zxid{math.MinInt64, -5, 0, 1}, 1, api.OK},
	} {
		var l []api.Deed
		for _, z := range c.deeds {
			l = append(l, sync(z, 0, 0))
		}
		what := fmt.Sprintf("from %d to %d", c.from, c.to)
		if c.want != api.OK {
			checkNothing(t, what, image(c.from, c.to), l, c.want)
			continue
		}
		checkRestore(t, what, image(c.from, c.to), l, restored{x, voter(1, 0), c.last, api.OK})
		checkRestore(t, what+", empty for none", image(c.from, c.to), append([]api.Deed{}, l...), restored{x, voter(1, 0), c.last, api.OK})
	}
}

func TestDeedsThatDoNotRise(t *testing.T) {
	x := grown("/a")
	b := put(t, x.All(), x.Sittings(), voter(1, 0), 5, 7)
	same := put(t, x.All(), x.Sittings(), voter(1, 0), 5, 5)
	for _, zxids := range [][]api.Zxid{
		{7, 7}, {8, 7}, {6, 7, 7}, {7, 6, 8}, {6, 8, 7}, {1, 1, 7}, {2, 1, 7}, {5, 5, 7}, {0, 0, 9}, {-1, -1, 9}, {-1, -2, 9}, {7, -1}, {9, 1},
		{math.MaxInt64, math.MinInt64}, {math.MaxInt64, math.MaxInt64}, {1, 2, 3, 4, 4}, {1, 1}, {3, 2},
	} {
		var l []api.Deed
		for _, z := range zxids {
			l = append(l, sync(z, 0, 0))
		}
		checkNothing(t, "not rising", b, l, api.ErrArg)
		checkNothing(t, "not rising, from is to", same, l, api.ErrArg)
	}
}

// TestFirstErrorCounts: bytes that are no image, ahead of deeds that do not rise, ahead of deeds that do not reach.
func TestFirstErrorCounts(t *testing.T) {
	x := grown("/a")
	b := put(t, x.All(), x.Sittings(), voter(1, 0), 5, 7)
	falling, early, right := []api.Deed{sync(6, 0, 0), sync(5, 0, 0)}, []api.Deed{sync(6, 0, 0)}, []api.Deed{sync(7, 0, 0)}
	turned := slices.Clone(b)
	turned[len(turned)-1] ^= 4
	for what, wrong := range map[string][]byte{
		"nil": nil, "empty": {}, "cut": b[:len(b)-1], "cut ahead": b[1:], "longer": append(slices.Clip(b), 0), "turned": turned, "twice": slices.Concat(b, b),
	} {
		for _, l := range [][]api.Deed{nil, falling, early, right} {
			checkNothing(t, what, wrong, l, api.ErrShape)
		}
	}
	checkNothing(t, "falling and early", b, falling, api.ErrArg)
	checkNothing(t, "early", b, early, api.ErrNone)
	checkNothing(t, "none", b, nil, api.ErrNone)
	checkRestore(t, "right", b, right, restored{x, voter(1, 0), 7, api.OK})
}

// TestOnlyDeedsAboveFromAreDone: those up to it are in the image already, and would be undone by what is younger.
func TestOnlyDeedsAboveFromAreDone(t *testing.T) {
	old := treeOf(create(2, "/a", 1))
	b := put(t, old.All(), nil, voter(1, 0), 5, 6)
	l := []api.Deed{set(1, "/a", "one", 1), create(3, "/three", 3), become(4, 4), open(5, 5), create(6, "/six", 6)}
	want := old.Copy()
	want.Apply(l[4])
	checkRestore(t, "above from", b, l, restored{want, voter(1, 0), 6, api.OK})
}

func TestDeedsAreDoneInOrder(t *testing.T) {
	b := put(t, tree.New().All(), nil, voter(1, 0), 0, 0)
	h := newHistory()
	h.add(open(1, 5), create(2, "/a", 1), set(3, "/a", "x", 1), remove(4, "/a", 2), create(5, "/a", 3), set(6, "/a", "y", 1), sync(7, 1, 4), over(8, 1), open(9, 7))
	h.checkWhole(t, "in order", b, 0, 0)
}

func TestWhichConfig(t *testing.T) {
	x := grown("/a")
	b := put(t, x.All(), x.Sittings(), voter(1, 2), 5, 5)
	for _, c := range []struct {
		what string
		l    []api.Deed
		want api.Ensemble
	}{
		{"none", nil, voter(1, 2)},
		{"no config among them", []api.Deed{sync(6, 0, 0)}, voter(1, 2)},
		{"one", []api.Deed{become(6, 3)}, voter(3, 6)},
		{"one, and others behind it", []api.Deed{become(6, 3), sync(7, 0, 0)}, voter(3, 6)},
		{"two", []api.Deed{become(6, 3), become(7, 2)}, voter(2, 7)},
		{"two apart", []api.Deed{become(6, 3), sync(7, 0, 0), become(8, 4), sync(9, 0, 0)}, voter(4, 8)},
		{"of from", []api.Deed{become(5, 3)}, voter(1, 2)},
		{"below from and above", []api.Deed{become(4, 3), become(9, 5)}, voter(5, 9)},
		{"below from", []api.Deed{become(4, 3), sync(9, 0, 0)}, voter(1, 2)},
		{"one that is not right", []api.Deed{{Zxid: 6, Kind: api.DeedConfig, Config: voter(3, 9)}}, voter(3, 9)},
		{"another kind's field", []api.Deed{{Zxid: 6, Kind: api.DeedSync, Config: voter(3, 6)}}, voter(1, 2)},
	} {
		want := restored{x, c.want, 5, api.OK}
		if len(c.l) > 0 {
			want.last = max(5, c.l[len(c.l)-1].Zxid)
		}
		checkRestore(t, c.what, b, c.l, want)
	}
}

// TestDeedsThatAreNotRight do nothing to the tree; they stand in the row like others.
func TestDeedsThatAreNotRight(t *testing.T) {
	x := grown("/a")
	b := put(t, x.All(), x.Sittings(), voter(1, 0), 5, 8)
	for _, d := range []api.Deed{
		{}, {Kind: 77}, {Kind: api.DeedCreate}, create(0, "/", 1), create(0, "//", 1), set(0, "/a", string(make([]byte, 1001)), 1), remove(0, "/a", -1), open(0, 0), over(0, 0),
		{Kind: api.DeedSync, Time: -1}, {Kind: api.DeedMulti}, {Kind: api.DeedMulti, Parts: []api.Deed{{Kind: api.DeedMulti}}}, {Kind: api.DeedError},
	} {
		for _, z := range []api.Zxid{8, 9, math.MaxInt64} {
			d.Zxid = z
			if deed.Right(d) {
				t.Fatalf("%s is right", short(d))
			}
			checkRestore(t, "not right", b, []api.Deed{d}, restored{x, voter(1, 0), z, api.OK})
		}
	}
}

func TestRestoredTreesAreTheirOwn(t *testing.T) {
	x := grown("/a")
	b := put(t, x.All(), x.Sittings(), voter(1, 0), 5, 5)
	l := []api.Deed{create(6, "/b", 2)}
	first, second := restore(b, l), restore(b, l)
	want := second.x.Copy()
	first.x.Apply(set(7, "/a", "changed", 1))
	first.x.Apply(remove(8, "/b", 3))
	first.x.Apply(over(9, 1))
	if !tree.Same(second.x, want) {
		t.Error("two restored trees are one")
	}
	checkRestore(t, "once more", b, l, restored{want, voter(1, 0), 6, api.OK})
}

// TestAnyRows: against the words, with images of any kind and rows that may be wrong.
func TestAnyRows(t *testing.T) {
	next := testkit.Walk()
	counts := map[api.Errno]int{}
	for range 2000 {
		h := planned(next, 20)
		at := next(len(h.trees))
		from := h.zxid(at)
		b := put(t, h.trees[at].All(), h.trees[at].Sittings(), h.configs[at], from, max(from, h.zxid(next(len(h.trees)))))
		l := slices.Clone(h.deeds)
		l = l[next(len(l)):]
		l = l[:next(len(l)+1)]
		if len(l) > 1 && next(4) == 0 {
			i := 1 + next(len(l)-1)
			l[i-1], l[i] = l[i], l[i-1]
		}
		if next(10) == 0 {
			b[next(len(b))] ^= 1
		}
		want := restoreByWords(b, l)
		counts[want.errno]++
		checkRestore(t, "any", b, l, want)
		if want.errno != api.OK {
			checkNothing(t, "any", b, l, want.errno)
		}
	}
	for _, errno := range []api.Errno{api.OK, api.ErrShape, api.ErrArg, api.ErrNone} {
		if counts[errno] < 50 {
			t.Errorf("%v came %d times", errno, counts[errno])
		}
	}
}

// P13.5

// TestWholeOfAllSteps: a short row of deeds, and all ways to take steps of none, one, two or all nodes among them.
func TestWholeOfAllSteps(t *testing.T) {
	h := newHistory()
	h.add(open(1, 5), create(2, "/a", 1), create(3, "/b", 2))
	for _, d := range []api.Deed{remove(4, "/a", 3), create(5, "/a0", 4), set(6, "/b", "x", 1), over(7, 1), create(8, "/b/c", 1)} {
		h.add(d)
	}
	sizes := []int{0, 1, 2, 9}
	const places = 6
	mixed := 0
	for way := range 1 << (2 * places) {
		w := fuzzy.New(3, h.configs[3])
		ended := -1
		for place := range places {
			if w.Step(h.trees[3+place], sizes[way>>(2*place)&3]) && ended < 0 {
				ended = 3 + place
			}
		}
		if ended < 0 && w.Step(h.trees[8], 9) {
			ended = 8
		}
		if ended < 0 {
			t.Fatalf("way %d: never through", way)
		}
		b, errno := w.Done(h.zxid(ended))
		if errno != api.OK {
			t.Fatalf("way %d: %v", way, errno)
		}
		if h.isMixed(b) {
			mixed++
		}
		h.checkWhole(t, fmt.Sprintf("way %d", way), b, 3, ended)
		if t.Failed() {
			return
		}
	}
	if mixed < 100 {
		t.Errorf("%d images are of more than one moment", mixed)
	}
}

// TestWholeOfAnyPlan: many planned deeds of all kinds.
func TestWholeOfAnyPlan(t *testing.T) {
	next := testkit.Walk()
	mixed, kinds := 0, [10]int{}
	for walk := range 400 {
		h := planned(next, 60)
		for _, d := range h.deeds {
			if !deed.Right(d) {
				t.Fatalf("%s is not right", short(d))
			}
			kinds[d.Kind]++
		}
		begun := next(50)
		w := fuzzy.New(h.zxid(begun), h.configs[begun])
		ended, most := begun, 1+next(3)
		for steps := 0; !w.Step(h.trees[ended], next(most)+next(2)); steps++ {
			if steps > 1000 {
				t.Fatalf("walk %d: never through", walk)
			}
			ended = min(ended+next(4), len(h.deeds))
		}
		b, errno := w.Done(h.zxid(ended))
		if errno != api.OK {
			t.Fatalf("walk %d: %v", walk, errno)
		}
		if h.isMixed(b) {
			mixed++
		}
		h.checkWhole(t, fmt.Sprintf("walk %d", walk), b, begun, ended)
		if t.Failed() {
			return
		}
	}
	if mixed < 200 {
		t.Errorf("%d images are of more than one moment", mixed)
	}
	for kind := api.DeedCreate; kind <= api.DeedError; kind++ {
		if kinds[kind] < 100 {
			t.Errorf("the kind %d came %d times", kind, kinds[kind])
		}
	}
}

// TestImageOfAnImage: a tree that was restored goes on, and is taken again.
func TestImageOfAnImage(t *testing.T) {
	next := testkit.Walk()
	for range 100 {
		h := planned(next, 60)
		x, last := tree.New(), 0
		for last < len(h.deeds) {
			w := fuzzy.New(h.zxid(last), h.configs[last])
			for steps, through := 0, false; !through && steps < 1000; steps++ {
				if last < len(h.deeds) {
					x.Apply(h.deeds[last])
					last++
				}
				through = w.Step(x, 1+next(3))
			}
			b, errno := w.Done(h.zxid(last))
			if errno != api.OK {
				t.Fatal(errno)
			}
			got := restore(b, h.deeds[:last])
			if got.errno != api.OK || !tree.Same(got.x, h.trees[last]) || got.last != h.zxid(last) || !sameConfig(got.config, h.configs[last]) {
				t.Fatalf("behind %d: %s", last, tellRestored(got))
			}
			x = got.x
		}
	}
}

// R5

func TestNoWriter(t *testing.T) {
	x := grown("/a")
	for what, w := range map[string]*fuzzy.Writer{"nil": nil, "made by nobody": {}, "new": new(fuzzy.Writer)} {
		for range 2 {
			for _, n := range []int{math.MinInt, -1, 0, 1, 2, 9, math.MaxInt} {
				if w.Step(x, n) || w.Step(nil, n) || w.Step(tree.New(), n) {
					t.Errorf("%s: Step(%d) is through", what, n)
				}
			}
			for _, to := range []api.Zxid{math.MinInt64, -1, 0, 1, math.MaxInt64} {
				if b, errno := w.Done(to); b != nil || errno != api.ErrNil {
					t.Errorf("%s: Done(%d): %x, %v", what, to, b, errno)
				}
			}
		}
	}
}

// R3

func TestConfigHandedInIsNeitherKeptNorChanged(t *testing.T) {
	config := roomyConfig(voter(3, 4))
	before := fmt.Sprint(config.Members[:cap(config.Members)])
	w := fuzzy.New(1, config)
	w.Step(grown("/a"), 9)
	want, _ := w.Done(5)
	if after := fmt.Sprint(config.Members[:cap(config.Members)]); after != before {
		t.Errorf("the config was %s, is %s", before, after)
	}
	testkit.Spoil(config.Members, api.Member{Id: 99})
	if got, errno := w.Done(5); errno != api.OK || !bytes.Equal(got, want) {
		t.Errorf("the writer hangs on the config's memory: %s, %v", short(got), errno)
	}
}

func TestTreeHandedInIsNeitherKeptNorChanged(t *testing.T) {
	x := grown("/a", "/b", "/c")
	was := x.Copy()
	w := newTwin(t, "the tree", 0, voter(1, 0))
	for range 3 {
		w.step(x, 2)
		if !tree.Same(x, was) {
			t.Error("a step changes the tree")
		}
	}
	want, _ := w.w.Done(9)
	for i, p := range []string{"/", "/a", "/b", "/c"} {
		x.Apply(set(api.Zxid(i+20), p, "other", 9))
		x.Apply(remove(api.Zxid(i+30), p+"x", 9))
	}
	x.Apply(over(40, 1))
	x.Load([]api.Node{{Path: "/"}})
	x.Seat(nil)
	if got, errno := w.w.Done(9); errno != api.OK || !bytes.Equal(got, want) {
		t.Errorf("the writer hangs on the tree: %s, %v", short(got), errno)
	}
}

func TestDoneIsNew(t *testing.T) {
	w := newTwin(t, "new bytes", 0, voter(1, 0))
	w.step(grown("/a"), 9)
	first, _ := w.w.Done(5)
	want := slices.Clone(first)
	second, _ := w.w.Done(5)
	testkit.Spoil(first, 0xee)
	if third, _ := w.w.Done(5); !bytes.Equal(second, want) || !bytes.Equal(third, want) {
		t.Error("answers of Done share memory")
	}
}

func TestRestoreNeitherKeepsNorChanges(t *testing.T) {
	x := grown("/a")
	image := put(t, x.All(), x.Sittings(), voter(1, 0), 5, 5)
	multi := api.Deed{Zxid: 8, Kind: api.DeedMulti, Parts: []api.Deed{{Kind: api.DeedCreate, Path: "/m", Data: []byte("m"), Cversion: 3}, {Kind: api.DeedSet, Path: "/a", Data: []byte("n"), Version: 2}}}
	for end := range 5 {
		b := testkit.WithRoom(image, 0xdd)
		l := testkit.WithRoom([]api.Deed{create(6, "/b", 2), become(7, 3), multi, become(9, 4)}[:end], create(99, "/spare", 99))
		for i := range l {
			l[i] = roomyDeed(l[i])
		}
		tell := func() string {
			out := fmt.Sprint(b[:cap(b)])
			for _, d := range l[:cap(l)] {
				out += tellAll(d)
			}
			return out
		}
		before := tell()
		got := restore(b, l)
		other := restore(b, l)
		want := restoreByWords(image, []api.Deed{create(6, "/b", 2), become(7, 3), multi, become(9, 4)}[:end])
		testkit.Spoil(other.config.Members, api.Member{Id: 98})
		other.x.Apply(set(20, "/a", "other", 3))
		if after := tell(); after != before {
			t.Errorf("what was handed in was\n%s, is\n%s", before, after)
		}
		for _, d := range l {
			spoil(d)
		}
		testkit.Spoil(l, api.Deed{})
		testkit.Spoil(b, 0xee)
		if got.errno != api.OK || !tree.Same(got.x, want.x) || !sameConfig(got.config, want.config) || got.last != want.last {
			t.Errorf("with %d deeds: what is restored hangs on what was handed in: %s, want %s", end, tellRestored(got), tellRestored(want))
		}
	}
}

// TestSameStepsSameAnswers: what is told hangs on what was handed in alone (R4).
func TestSameStepsSameAnswers(t *testing.T) {
	tellAll := func() string {
		h := planned(testkit.Walk(), 60)
		w := fuzzy.New(h.zxid(20), h.configs[20])
		at := 20
		for at < len(h.deeds) && !w.Step(h.trees[at], 2) {
			at++
		}
		b, errno := w.Done(h.zxid(at))
		got := restore(b, h.deeds)
		return fmt.Sprint(b, errno, got.x.All(), got.x.Sittings(), got.config, got.last, got.errno)
	}
	first := tellAll()
	for range 50 {
		if again := tellAll(); again != first {
			t.Fatalf("%s, and %s", first, again)
		}
	}
}
