package fuzzy_test

import (
	"bytes"
	"fmt"
	"slices"
	"strings"
	"testing"

	"beadle/api"
	"beadle/deed"
	"beadle/fuzzy"
	"beadle/image"
	"beadle/testkit"
	"beadle/tree"
)

// shadow: what a writer should have taken, picked node by node.
type shadow struct {
	from     api.Zxid
	config   api.Ensemble
	nodes    []api.Node
	sittings []api.Sitting
	through  bool
}

func (s *shadow) step(x *tree.Tree, n int) bool {
	all := x.All()
	if len(all) == 0 || s.through || n < 1 {
		return len(all) > 0 && s.through
	}
	last := ""
	if len(s.nodes) > 0 {
		last = s.nodes[len(s.nodes)-1].Path
	}
	taken := 0
	for _, node := range all {
		if node.Path > last && taken < n {
			s.nodes = append(s.nodes, node)
			taken++
		}
	}
	if taken < n {
		s.sittings, s.through = x.Sittings(), true
	}
	return s.through
}

func (s *shadow) done(to api.Zxid) ([]byte, api.Errno) {
	if !s.through {
		return nil, api.ErrState
	}
	return image.Put(s.nodes, s.sittings, s.config, s.from, to)
}

// twin: a writer and its shadow, of which the same is asked.
type twin struct {
	*testing.T
	what string
	w    *fuzzy.Writer
	s    *shadow
}

func newTwin(t *testing.T, what string, from api.Zxid, config api.Ensemble) twin {
	t.Helper()
	w := fuzzy.New(from, config)
	if w == nil {
		t.Fatalf("%s: New is none", what)
	}
	return twin{t, what, w, &shadow{from: from, config: config}}
}

// step looks at what Step and then Done answer.
func (w twin) step(x *tree.Tree, n int) bool {
	w.Helper()
	want := w.s.step(x, n)
	if got := w.w.Step(x, n); got != want {
		w.Errorf("%s: Step(%d): %v, want %v, of %d nodes taken", w.what, n, got, want, len(w.s.nodes))
	}
	w.look(w.s.from)
	return want
}

// look looks at what Done answers.
func (w twin) look(to api.Zxid) {
	w.Helper()
	want, errno := w.s.done(to)
	if got, e := w.w.Done(to); e != errno || !bytes.Equal(got, want) || e != api.OK && got != nil {
		w.Errorf("%s: Done(%d): %s, %v, want %s, %v", w.what, to, short(got), e, short(want), errno)
	}
}

// taken looks at the paths that were taken, written out in one text.
func (w twin) taken(want string) {
	w.Helper()
	b, errno := w.w.Done(w.s.from)
	nodes, _, _, _, _, _ := image.Get(b)
	if got := pathsOf(nodes); errno != api.OK || got != want {
		w.Errorf("%s: it took %s, %v, want %s", w.what, got, errno, want)
	}
}

func pathsOf(l []api.Node) string {
	var paths []string
	for _, n := range l {
		paths = append(paths, n.Path)
	}
	return strings.Join(paths, " ")
}

// restored: all that Restore answers.
type restored struct {
	x      *tree.Tree
	config api.Ensemble
	last   api.Zxid
	errno  api.Errno
}

func restore(b []byte, l []api.Deed) restored {
	x, config, last, errno := fuzzy.Restore(b, l)
	return restored{x, config, last, errno}
}

// restoreByWords: by the words of the chapter, one behind the other.
func restoreByWords(b []byte, l []api.Deed) restored {
	nodes, sittings, config, from, to, errno := image.Get(b)
	if errno != api.OK {
		return restored{errno: errno}
	}
	for i := range l[:max(0, len(l)-1)] {
		if l[i].Zxid >= l[i+1].Zxid {
			return restored{errno: api.ErrArg}
		}
	}
	end := from
	if len(l) > 0 {
		end = l[len(l)-1].Zxid
	}
	if end < to && from < to {
		return restored{errno: api.ErrNone}
	}
	r := restored{tree.New(), config, from, api.OK}
	r.x.Load(nodes)
	r.x.Seat(sittings)
	for _, d := range l {
		if d.Zxid <= from {
			continue
		}
		r.x.Apply(d)
		r.last = d.Zxid
		if d.Kind == api.DeedConfig {
			r.config = d.Config
		}
	}
	return r
}

func checkRestore(t *testing.T, what string, b []byte, l []api.Deed, want restored) {
	t.Helper()
	got := restore(b, l)
	if got.errno != want.errno || got.last != want.last || !sameConfig(got.config, want.config) || !tree.Same(got.x, want.x) {
		t.Errorf("%s: Restore(.., %s): %s, want %s", what, tellDeeds(l), tellRestored(got), tellRestored(want))
	}
}

// checkNothing: the error, and nothing beside it.
func checkNothing(t *testing.T, what string, b []byte, l []api.Deed, want api.Errno) {
	t.Helper()
	got := restore(b, l)
	if got.errno != want || got.x != nil || got.last != 0 || got.config.Version != 0 || got.config.Members != nil {
		t.Errorf("%s: Restore(.., %s): %s, want %v", what, tellDeeds(l), tellRestored(got), want)
	}
}

func sameConfig(a, b api.Ensemble) bool {
	return a.Version == b.Version && slices.Equal(a.Members, b.Members)
}

func short(x any) string {
	s := fmt.Sprintf("%+v", x)
	if b, ok := x.([]byte); ok {
		s = fmt.Sprintf("%d bytes %x", len(b), b[:min(len(b), 100)])
	}
	return s[:min(len(s), 600)]
}

func tellRestored(r restored) string {
	return fmt.Sprintf("%v, config %v, last %d, nodes %s, sittings %s", r.errno, r.config, r.last, short(r.x.All()), short(r.x.Sittings()))
}

func tellDeeds(l []api.Deed) string {
	var out []string
	for _, d := range l {
		out = append(out, fmt.Sprintf("%d: kind %d %s", d.Zxid, d.Kind, d.Path))
	}
	return short(out)
}

// put: an image that may be.
func put(t *testing.T, nodes []api.Node, sittings []api.Sitting, config api.Ensemble, from, to api.Zxid) []byte {
	t.Helper()
	b, errno := image.Put(nodes, sittings, config, from, to)
	if errno != api.OK {
		t.Fatalf("no image: %v", errno)
	}
	return b
}

// Configs, trees and deeds, as short as may be.

func voter(id int, version api.Zxid) api.Ensemble {
	return api.Ensemble{Version: version, Members: []api.Member{{Id: id, Role: api.Voter, Weight: 1}}}
}

func create(z api.Zxid, p string, cversion int) api.Deed {
	return api.Deed{Zxid: z, Time: int64(z) * 10, Kind: api.DeedCreate, Path: p, Data: []byte("of " + p), Cversion: cversion}
}

func remove(z api.Zxid, p string, cversion int) api.Deed {
	return api.Deed{Zxid: z, Time: int64(z) * 10, Kind: api.DeedDelete, Path: p, Cversion: cversion}
}

func set(z api.Zxid, p, data string, version int) api.Deed {
	return api.Deed{Zxid: z, Time: int64(z) * 10, Kind: api.DeedSet, Path: p, Data: []byte(data), Version: version}
}

func open(z api.Zxid, timeout int) api.Deed {
	return api.Deed{Zxid: z, Kind: api.DeedOpen, Timeout: timeout}
}

func over(z api.Zxid, owner int64) api.Deed {
	return api.Deed{Zxid: z, Kind: api.DeedClose, Owner: owner}
}

func sync(z api.Zxid, session int64, turn int) api.Deed {
	return api.Deed{Zxid: z, Session: session, Turn: turn, Kind: api.DeedSync}
}

func become(z api.Zxid, id int) api.Deed {
	return api.Deed{Zxid: z, Kind: api.DeedConfig, Config: voter(id, z)}
}

func treeOf(deeds ...api.Deed) *tree.Tree {
	x := tree.New()
	for _, d := range deeds {
		x.Apply(d)
	}
	return x
}

// grown: a tree of the root and these paths, and two sittings.
func grown(paths ...string) *tree.Tree {
	x := treeOf(open(1, 10), open(2, 20))
	for i, p := range paths {
		x.Apply(create(api.Zxid(i+3), p, i+1))
	}
	return x
}

// wide: a tree of so many nodes.
func wide(count int) *tree.Tree {
	x := tree.New()
	for i := range count - 1 {
		x.Apply(create(api.Zxid(i+1), fmt.Sprintf("/n%04d", i), i+1))
	}
	return x
}

// planner makes deeds as a plan does (chapter 18): each of them can be done to the tree that those ahead of it make.
type planner struct {
	next  func(int) int
	x     *tree.Tree
	z     api.Zxid
	time  int64
	asker api.Sitting // the session whose call it is
}

// deed is the next one, done to the planner's tree.
func (p *planner) deed() api.Deed {
	p.z++
	if p.next(12) == 0 {
		p.z = deed.Make(deed.Epoch(p.z)+1, p.next(2))
	}
	p.time += int64(p.next(3))
	seats := p.x.Sittings()
	var d api.Deed
	if len(seats) == 0 || p.next(10) == 0 {
		d = api.Deed{Kind: api.DeedOpen, Timeout: 1 + p.next(9), Turn: p.next(3)}
	} else {
		p.asker = seats[p.next(len(seats))]
		d = p.call()
	}
	d.Zxid, d.Time = p.z, p.time
	p.x.Apply(d)
	return d
}

// call: the deed of a call of a session that there is.
func (p *planner) call() api.Deed {
	d := p.kind()
	if d.Kind == api.DeedClose && p.next(2) == 0 { // the leader's own
		return d
	}
	d.Session, d.Turn, d.Xid = p.asker.Session, p.asker.Turn+p.next(2), int(p.z&0xffff)
	return d
}

func (p *planner) kind() api.Deed {
	switch p.next(12) {
	case 0:
		return p.end()
	case 1:
		return api.Deed{Kind: api.DeedSync}
	case 2:
		return api.Deed{Kind: api.DeedConfig, Config: voter(1+p.next(7), p.z)}
	case 3, 4, 5:
		return p.multi()
	}
	d, ok := p.change(p.x)
	if !ok {
		return api.Deed{Kind: api.DeedError, Err: api.ErrNode}
	}
	return d
}

// end: a close, with a delete for each node that the session owns.
func (p *planner) end() api.Deed {
	d := api.Deed{Kind: api.DeedClose, Owner: p.asker.Session}
	x := p.x.Copy()
	for _, owned := range x.Owned(d.Owner) {
		d.Parts = append(d.Parts, p.part(x, api.Deed{Kind: api.DeedDelete, Path: owned, Cversion: marked(x, owned)}))
	}
	return d
}

func (p *planner) multi() api.Deed {
	d := api.Deed{Kind: api.DeedMulti}
	x := p.x.Copy()
	for range 1 + p.next(5) {
		if part, ok := p.change(x); ok {
			d.Parts = append(d.Parts, p.part(x, part))
		}
	}
	if len(d.Parts) == 0 {
		d.Kind = api.DeedSync
	}
	return d
}

// part is d, done to x as a part of the deed that is being made.
func (p *planner) part(x *tree.Tree, d api.Deed) api.Deed {
	whole := d
	whole.Zxid, whole.Time = p.z, p.time
	x.Apply(whole)
	return d
}

// change: a create, a delete or a set; and whether it can be done to x.
func (p *planner) change(x *tree.Tree) (api.Deed, bool) {
	all := x.All()
	n := all[p.next(len(all))]
	data := []byte(strings.Repeat("d", p.next(4)))
	switch p.next(7) {
	case 0, 1, 2:
		name := []string{"a", "a-", "a0", "b", "c", fmt.Sprintf("q-%010d", n.Stat.Cversion)}[p.next(6)]
		path := strings.TrimSuffix(n.Path, "/") + "/" + name
		_, there := x.Get(path)
		d := api.Deed{Kind: api.DeedCreate, Path: path, Data: data, Cversion: n.Stat.Cversion + 1}
		if p.next(3) == 0 {
			d.Owner = p.asker.Session
		}
		return d, !there && n.Stat.Owner == 0 && strings.Count(path, "/") < 4
	case 3, 4, 5:
		return api.Deed{Kind: api.DeedDelete, Path: n.Path, Cversion: marked(x, n.Path)}, n.Path != "/" && n.Stat.Children == 0
	}
	return api.Deed{Kind: api.DeedSet, Path: n.Path, Data: data, Version: n.Stat.Version + 1}, true
}

// marked: the Cversion of p's parent behind a deed that changes which children it has.
func marked(x *tree.Tree, p string) int {
	n, _ := x.Get(p[:max(1, strings.LastIndex(p, "/"))])
	return n.Stat.Cversion + 1
}

// history: deeds, and behind each of them (and ahead of the first one) what is so then.
type history struct {
	deeds   []api.Deed
	trees   []*tree.Tree
	configs []api.Ensemble
}

func newHistory() *history {
	return &history{trees: []*tree.Tree{tree.New()}, configs: []api.Ensemble{voter(1, 0)}}
}

func planned(next func(int) int, count int) *history {
	h, p := newHistory(), &planner{next: next, x: tree.New()}
	for range count {
		h.add(p.deed())
	}
	return h
}

func (h *history) add(deeds ...api.Deed) {
	for _, d := range deeds {
		x := h.trees[len(h.trees)-1].Copy()
		x.Apply(d)
		config := h.configs[len(h.configs)-1]
		if d.Kind == api.DeedConfig {
			config = d.Config
		}
		h.deeds, h.trees, h.configs = append(h.deeds, d), append(h.trees, x), append(h.configs, config)
	}
}

// zxid: that of the last of the first count deeds.
func (h *history) zxid(count int) api.Zxid {
	if count == 0 {
		return 0
	}
	return h.deeds[count-1].Zxid
}

// checkWhole: with each beginning that reaches to, an image that was taken between these two moments is what the deeds make; with no other.
func (h *history) checkWhole(t *testing.T, what string, b []byte, begun, ended int) {
	t.Helper()
	for count := range len(h.deeds) + 1 {
		at := fmt.Sprintf("%s, begun behind %d deeds, through behind %d, with %d", what, begun, ended, count)
		if count < ended && begun < ended {
			checkNothing(t, at, b, h.deeds[:count], api.ErrNone)
			continue
		}
		end := max(count, begun)
		want := restored{h.trees[end], h.configs[end], h.zxid(end), api.OK}
		checkRestore(t, at, b, h.deeds[:count], want)
		checkRestore(t, at+", from's on", b, h.deeds[min(begun, count):count], want)
	}
}

// isMixed: the image's nodes and sittings are those of no one moment.
func (h *history) isMixed(b []byte) bool {
	nodes, sittings, _, _, _, _ := image.Get(b)
	x := tree.New()
	x.Load(nodes)
	x.Seat(sittings)
	return !slices.ContainsFunc(h.trees, func(y *tree.Tree) bool { return tree.Same(x, y) })
}

// roomyConfig, roomyDeed: the same, each list with spare room.
func roomyConfig(e api.Ensemble) api.Ensemble {
	e.Members = testkit.WithRoom(e.Members, api.Member{Id: 77})
	return e
}

func roomyDeed(d api.Deed) api.Deed {
	d.Data = testkit.WithRoom(d.Data, '?')
	d.Config = roomyConfig(d.Config)
	d.Parts = testkit.WithRoom(d.Parts, create(77, "/spare", 77))
	for i := range d.Parts {
		d.Parts[i].Data = testkit.WithRoom(d.Parts[i].Data, '?')
	}
	return d
}

// tellAll: a deed as a text, with what stands in the spare room of its lists.
func tellAll(d api.Deed) string {
	out := fmt.Sprintf("%+v %+v %+v", d, d.Data[:cap(d.Data)], d.Config.Members[:cap(d.Config.Members)])
	for _, part := range d.Parts[:cap(d.Parts)] {
		out += tellAll(part)
	}
	return out
}

// spoil overwrites each list of a deed and its spare room.
func spoil(d api.Deed) {
	testkit.Spoil(d.Data, '!')
	testkit.Spoil(d.Config.Members, api.Member{Id: 99})
	for _, part := range d.Parts {
		testkit.Spoil(part.Data, '!')
	}
	testkit.Spoil(d.Parts, api.Deed{})
}
