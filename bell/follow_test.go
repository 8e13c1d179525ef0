package bell_test

import (
	"fmt"
	"strconv"
	"testing"

	"beadle/api"
	"beadle/bell"
	"beadle/plan"
	"beadle/testkit"
	"beadle/tree"
)

// P19.4, by its own words: deeds that a plan makes, and what they make of a tree.

// order: a row of deeds, and the tree ahead of each and behind the last one, with that one's zxid.
type order struct {
	deeds []api.Deed
	trees []*tree.Tree
	last  []api.Zxid
}

var grounds = []string{"/", "/a", "/a/b", "/b", "/b/c"}

// anyOrder: what two sessions ask, now and then one after the other; most of it can be done.
func anyOrder(t *testing.T, next func(int) int, length int) order {
	t.Helper()
	x := tree.New()
	p := plan.New(x, api.Ensemble{Members: []api.Member{{Id: 1, Role: api.Voter, Weight: 1}}})
	o := order{trees: []*tree.Tree{x.Copy()}, last: []api.Zxid{0}}
	session := int64(0)
	for z := api.Zxid(1); len(o.deeds) < length; z++ {
		a := anyAsk(next)
		if session == 0 {
			a = api.Ask{Kind: api.AskOpen, Timeout: 10}
			session = int64(z)
		} else {
			a.Session, a.Turn, a.Xid = session, 1, int(z)
		}
		if a.Kind == api.AskClose {
			session = 0
		}
		d, errno := p.Make(a, z, int64(z))
		if errno != api.OK {
			t.Fatalf("%+v: %v", a, errno)
		}
		if d.Kind == api.DeedError && next(10) > 0 {
			continue
		}
		x.Apply(d)
		o.deeds = append(o.deeds, d)
		o.trees = append(o.trees, x.Copy())
		o.last = append(o.last, z)
	}
	return o
}

func anyAsk(next func(int) int) api.Ask {
	switch next(20) {
	case 0:
		return api.Ask{Kind: api.AskClose}
	case 1:
		return api.Ask{Kind: api.AskSync}
	case 2, 3, 4, 5:
		a := api.Ask{Kind: api.AskMulti}
		for range 1 + next(3) {
			a.Parts = append(a.Parts, anyChange(next))
		}
		return a
	}
	return anyChange(next)
}

func anyChange(next func(int) int) api.Ask {
	p := grounds[next(len(grounds))]
	switch next(6) {
	case 0, 1, 2:
		return api.Ask{Kind: api.AskCreate, Path: p, Flags: []int{0, 0, api.Ephemeral}[next(3)]}
	case 3, 4:
		return api.Ask{Kind: api.AskDelete, Path: p, Version: -1}
	}
	return api.Ask{Kind: api.AskSet, Path: p, Data: []byte(strconv.Itoa(next(2))), Version: -1}
}

// look: what a watch of that sort looks at, of a tree: a node's making and its data, or its making and its children's coming and going.
func look(x *tree.Tree, w watch) string {
	n, ok := x.Get(w.path)
	if !ok {
		return "nothing"
	}
	if w.sort == list {
		return fmt.Sprint(n.Stat.Czxid, n.Stat.Pzxid, n.Stat.Cversion)
	}
	return fmt.Sprint(n.Stat.Czxid, n.Stat.Mzxid, n.Stat.Version)
}

// changesIt: whether d, done to x, changes what w looks at, be it in the midst of d alone.
func changesIt(x *tree.Tree, d api.Deed, w watch) bool {
	x = x.Copy()
	for _, part := range changes(d) {
		part.Zxid = d.Zxid
		before := look(x, w)
		x.Apply(part)
		if look(x, w) != before {
			return true
		}
	}
	return false
}

// firstBehind: the place of the first deed from place at on, ahead of place to, that changes what w looks at; to, if there is none.
func (o order) firstBehind(at, to int, w watch) int {
	for ; at < to; at++ {
		if changesIt(o.trees[at], o.deeds[at], w) {
			break
		}
	}
	return at
}

// TestAWatchRingsWithTheFirstDeedBehindIt: each watch that a reading at each place of the row may set.
func TestAWatchRingsWithTheFirstDeedBehindIt(t *testing.T) {
	next, rung := testkit.Walk(), 0
	for round := range 40 {
		o := anyOrder(t, next, 40)
		b, set := bell.New(), []watch{}
		due := map[int]int{} // by connections, each of which has one watch
		for at, d := range o.deeds {
			for _, w := range readings(o.trees[at], len(set)) {
				b.Add(w.conn, w.sort, w.path)
				set = append(set, w)
				due[w.conn] = o.firstBehind(at, len(o.deeds), w)
			}
			for _, r := range b.Ring(d) {
				w := set[r.Conn]
				if due[r.Conn] != at || r.Event.Sort != w.sort || r.Event.Path != w.path || r.Event.Zxid != d.Zxid {
					t.Fatalf("round %d, deed %d %+v: %+v, which is due at %d", round, at, d, r, due[r.Conn])
				}
				delete(due, r.Conn)
				rung++
			}
		}
		for conn, at := range due {
			if at < len(o.deeds) {
				t.Fatalf("round %d: %v was due with %+v", round, set[conn], o.deeds[at])
			}
		}
		wantCount(t, "left", b, len(due))
	}
	if rung < 1000 {
		t.Errorf("only %d watches rang", rung)
	}
}

// readings: the watches that readings of x set, the connections counted from first on: of a node that is there its data and its children, of others that they come.
func readings(x *tree.Tree, first int) []watch {
	var out []watch
	for _, p := range grounds {
		for _, sort := range sorts {
			if _, ok := x.Get(p); ok == (sort != there) {
				out = append(out, watch{first + len(out), sort, p})
			}
		}
	}
	return out
}

// TestAWatchThatIsSetAgain: set again at each place behind the one where its reading was, it tells just what has happened between, and rings no sooner and no later than one that stayed.
func TestAWatchThatIsSetAgain(t *testing.T) {
	next, told, quiet := testkit.Walk(), 0, 0
	for range 40 {
		o := anyOrder(t, next, 25)
		for at := range o.trees {
			for _, w := range readings(o.trees[at], 0) {
				for to := at; to < len(o.trees); to++ {
					if checkSetAgain(t, o, w, at, to) {
						told++
					} else {
						quiet++
					}
				}
			}
		}
	}
	if told < 10000 || quiet < 10000 {
		t.Errorf("%d tell, %d do not", told, quiet)
	}
}

// checkSetAgain: of w, whose reading was ahead of the deed at, set again ahead of the deed to: whether it tells an event.
func checkSetAgain(t *testing.T, o order, w watch, at, to int) bool {
	t.Helper()
	n, isThere := o.trees[to].Get(w.path)
	want := o.firstBehind(at, to, w) < to && (w.sort != there || isThere)
	b := bell.New()
	e, ok := b.Again(w.conn, w.sort, w.path, o.last[at], n, isThere)
	if ok != want || b.Count() == 1 == ok {
		t.Fatalf("%v, seen at %d, set again at %d: %v, %v, %d watches; %+v", w, o.last[at], o.last[to], e, ok, b.Count(), o.deeds[at:to])
	}
	if ok && e.Zxid != 0 && (e.Zxid <= o.last[at] || e.Zxid > o.last[to]) {
		t.Fatalf("%v, seen at %d, set again at %d: %v", w, o.last[at], o.last[to], e)
	}
	if ok {
		return true
	}
	due := o.firstBehind(to, len(o.deeds), w)
	for i, d := range o.deeds[to:] {
		if rings := b.Ring(d); len(rings) > 0 != (to+i == due) {
			t.Fatalf("%v, set again at %d: %v with deed %d, due with %d", w, o.last[to], rings, to+i, due)
		}
	}
	return false
}

// TestOrdersAreMixed: the rows above have all that they are to try.
func TestOrdersAreMixed(t *testing.T) {
	next := testkit.Walk()
	kinds, owned := map[api.DeedKind]int{}, 0
	for range 40 {
		for _, d := range anyOrder(t, next, 40).deeds {
			kinds[d.Kind]++
			if d.Kind == api.DeedClose {
				owned += len(d.Parts)
			}
		}
	}
	for _, kind := range []api.DeedKind{api.DeedCreate, api.DeedDelete, api.DeedSet, api.DeedOpen, api.DeedClose, api.DeedSync, api.DeedMulti, api.DeedError} {
		if kinds[kind] < 20 {
			t.Errorf("kind %d comes %d times", kind, kinds[kind])
		}
	}
	if owned < 10 {
		t.Errorf("closes have %d parts", owned)
	}
}
