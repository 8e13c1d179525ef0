package bell_test

import (
	"cmp"
	"fmt"
	"slices"
	"strings"
	"testing"

	"beadle/api"
	"beadle/bell"
	"beadle/deed"
	"beadle/path"
)

const (
	data  = api.WatchData
	there = api.WatchThere
	list  = api.WatchList
)

// watch: one of the model.
type watch struct {
	conn int
	sort api.WatchSort
	path string
}

// model: a tower as the chapter's Words tell it, its watches in a row; of each one is asked which change rings it first.
type model struct {
	watches []watch
}

func (w watch) mayBe() bool {
	return (w.sort == data || w.sort == there || w.sort == list) && path.Check(w.path)
}

func (m *model) remove(w watch) {
	m.watches = slices.DeleteFunc(m.watches, func(x watch) bool { return x == w })
}

func (m *model) add(w watch) {
	if w.mayBe() {
		m.remove(w)
		m.watches = append(m.watches, w)
	}
}

func (m *model) drop(conn int) {
	m.watches = slices.DeleteFunc(m.watches, func(x watch) bool { return x.conn == conn })
}

func (m *model) again(w watch, last api.Zxid, n api.Node, isThere bool) (api.Event, bool) {
	if !w.mayBe() {
		return api.Event{}, false
	}
	m.remove(w)
	for _, c := range cases(w.sort, last, n.Stat, isThere) {
		if c.so {
			return api.Event{Kind: c.kind, Sort: w.sort, Path: w.path, Zxid: c.z}, true
		}
	}
	m.add(w)
	return api.Event{}, false
}

// aCase: what P19.3 asks of a node, whether it is so, and what is told then.
type aCase struct {
	so   bool
	kind api.EventKind
	z    api.Zxid
}

// cases: the lines of P19.3 for that sort.
func cases(sort api.WatchSort, last api.Zxid, s api.Stat, isThere bool) []aCase {
	greater := s.Czxid
	if s.Pzxid > greater {
		greater = s.Pzxid
	}
	switch sort {
	case data:
		return []aCase{{!isThere, api.Deleted, 0}, {s.Mzxid > last, api.Changed, s.Mzxid}}
	case list:
		return []aCase{{!isThere, api.Deleted, 0}, {greater > last, api.Children, greater}}
	}
	return []aCase{{isThere && s.Czxid > last, api.Created, s.Czxid}, {isThere && s.Mzxid > last, api.Changed, s.Mzxid}}
}

// rung: a ring, and which change of the deed it is of.
type rung struct {
	at int
	bell.Ring
}

func (m *model) ring(d api.Deed) []bell.Ring {
	if !deed.Right(d) {
		return nil
	}
	var left []watch
	var all []rung
	for _, w := range m.watches {
		at, kind := w.first(changes(d))
		if kind == 0 {
			left = append(left, w)
		} else {
			all = append(all, rung{at, ring(w.conn, kind, w.sort, w.path, d.Zxid)})
		}
	}
	m.watches = left
	slices.SortFunc(all, func(a, b rung) int {
		return cmp.Or(cmp.Compare(a.at, b.at), cmp.Compare(a.Conn, b.Conn), cmp.Compare(a.Event.Sort, b.Event.Sort), cmp.Compare(a.Event.Path, b.Event.Path))
	})
	var out []bell.Ring
	for _, r := range all {
		out = append(out, r.Ring)
	}
	return out
}

// changes: those of a right deed.
func changes(d api.Deed) []api.Deed {
	switch d.Kind {
	case api.DeedCreate, api.DeedDelete, api.DeedSet:
		return []api.Deed{d}
	case api.DeedClose, api.DeedMulti:
		return d.Parts
	}
	return nil
}

// first: the first change that rings w, and how; the kind 0, if none does.
func (w watch) first(l []api.Deed) (int, api.EventKind) {
	for i, change := range l {
		if kind := w.rungBy(change); kind != 0 {
			return i, kind
		}
	}
	return 0, 0
}

// rungBy: the event's kind by the chapter's table; 0, if the change rings it not.
func (w watch) rungBy(change api.Deed) api.EventKind {
	its, above := w.path == change.Path, w.path == parent(change.Path)
	switch {
	case change.Kind == api.DeedCreate && its && w.sort == there:
		return api.Created
	case change.Kind == api.DeedCreate && above && w.sort == list:
		return api.Children
	case change.Kind == api.DeedDelete && its:
		return api.Deleted
	case change.Kind == api.DeedDelete && above && w.sort == list:
		return api.Children
	case change.Kind == api.DeedSet && its && w.sort != list:
		return api.Changed
	}
	return 0
}

// parent: that of a right path but /.
func parent(p string) string {
	if i := strings.LastIndex(p, "/"); i > 0 {
		return p[:i]
	}
	return "/"
}

func ring(conn int, kind api.EventKind, sort api.WatchSort, p string, z api.Zxid) bell.Ring {
	return bell.Ring{Conn: conn, Event: api.Event{Kind: kind, Sort: sort, Path: p, Zxid: z}}
}

func create(z api.Zxid, p string) api.Deed {
	return api.Deed{Zxid: z, Kind: api.DeedCreate, Path: p, Cversion: 1}
}

func remove(z api.Zxid, p string) api.Deed {
	return api.Deed{Zxid: z, Kind: api.DeedDelete, Path: p, Cversion: 2}
}

func set(z api.Zxid, p string) api.Deed {
	return api.Deed{Zxid: z, Kind: api.DeedSet, Path: p, Version: 1}
}

func multi(z api.Zxid, parts ...api.Deed) api.Deed {
	return api.Deed{Zxid: z, Kind: api.DeedMulti, Parts: parts}
}

func closing(z api.Zxid, paths ...string) api.Deed {
	d := api.Deed{Zxid: z, Kind: api.DeedClose, Owner: 3}
	for _, p := range paths {
		d.Parts = append(d.Parts, remove(0, p))
	}
	return d
}

// twin: a tower and its model, of which the same is asked.
type twin struct {
	*testing.T
	what string
	b    *bell.Tower
	m    *model
}

func newTwin(t *testing.T, what string, watches ...watch) twin {
	t.Helper()
	b := bell.New()
	if b == nil {
		t.Fatalf("%s: New is none", what)
	}
	x := twin{t, what, b, &model{}}
	x.count()
	for _, w := range watches {
		x.add(w)
	}
	return x
}

func (x twin) count() {
	x.Helper()
	if got, want := x.b.Count(), len(x.m.watches); got != want {
		x.Fatalf("%s: Count: %d, want %d: %v", x.what, got, want, x.m.watches)
	}
}

func (x twin) add(w watch) {
	x.Helper()
	x.m.add(w)
	x.b.Add(w.conn, w.sort, w.path)
	x.count()
}

func (x twin) drop(conn int) {
	x.Helper()
	x.m.drop(conn)
	x.b.Drop(conn)
	x.count()
}

func (x twin) again(w watch, last api.Zxid, n api.Node, isThere bool) (api.Event, bool) {
	x.Helper()
	want, wantOk := x.m.again(w, last, n, isThere)
	got, ok := x.b.Again(w.conn, w.sort, w.path, last, n, isThere)
	if got != want || ok != wantOk {
		x.Fatalf("%s: Again(%v, %d, %+v, %v): %v, %v, want %v, %v", x.what, w, last, n, there, got, ok, want, wantOk)
	}
	x.count()
	return got, ok
}

func (x twin) ring(d api.Deed) []bell.Ring {
	x.Helper()
	want := x.m.ring(d)
	got := x.b.Ring(d)
	if !slices.Equal(got, want) {
		x.Fatalf("%s: Ring(%.300s): %v, want %v", x.what, fmt.Sprintf("%+v", d), got, want)
	}
	x.count()
	return got
}

// drain rings each watch of the model; then none is left, of the tower neither.
func (x twin) drain() {
	x.Helper()
	var paths []string
	for _, w := range x.m.watches {
		paths = append(paths, w.path)
	}
	slices.Sort(paths)
	for i, p := range slices.Compact(paths) {
		z := api.Zxid(1000 + i)
		if p == "/" {
			x.ring(set(z, p))
			x.ring(create(z, "/drained"))
		} else {
			x.ring(remove(z, p))
		}
	}
	if x.b.Count() != 0 {
		x.Fatalf("%s: %d watches are left", x.what, x.b.Count())
	}
}

func wantRings(t *testing.T, what string, got []bell.Ring, want ...bell.Ring) {
	t.Helper()
	if !slices.Equal(got, want) {
		t.Errorf("%s: %v, want %v", what, got, want)
	}
}

func wantCount(t *testing.T, what string, b *bell.Tower, want int) {
	t.Helper()
	if got := b.Count(); got != want {
		t.Errorf("%s: Count: %d, want %d", what, got, want)
	}
}
