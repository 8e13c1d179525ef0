package tree_test

import (
	"fmt"
	"slices"
	"strings"
	"testing"

	"beadle/api"
	"beadle/deed"
	"beadle/testkit"
	"beadle/tree"
)

// model: what was handed to a tree, in a row. What is told of a node or a session is found by going through that row with an eye on it alone.
type model struct {
	nodes   []api.Node    // loaded last
	changes []api.Deed    // behind that: creates, deletes and sets
	seats   []api.Sitting // seated last
	deeds   []api.Deed    // behind that
}

func newModel() *model {
	return &model{nodes: []api.Node{{Path: "/"}}}
}

func (m *model) apply(d api.Deed) {
	if !deed.Right(d) {
		return
	}
	m.changes = append(m.changes, changes(d)...)
	m.deeds = append(m.deeds, d)
}

// changes: what a deed does to nodes, one by one, each with the deed's number and time.
func changes(d api.Deed) []api.Deed {
	switch d.Kind {
	case api.DeedCreate, api.DeedDelete, api.DeedSet:
		return []api.Deed{d}
	}
	var out []api.Deed
	for _, part := range d.Parts {
		part.Zxid, part.Time = d.Zxid, d.Time
		out = append(out, part)
	}
	return out
}

func (m *model) load(l []api.Node) {
	m.nodes, m.changes = l, nil
}

func (m *model) seat(l []api.Sitting) {
	m.seats, m.deeds = l, nil
}

func (m *model) copy() *model {
	return &model{slices.Clone(m.nodes), slices.Clone(m.changes), slices.Clone(m.seats), slices.Clone(m.deeds)}
}

func parentOf(p string) string {
	if p == "/" {
		return ""
	}
	return p[:max(1, strings.LastIndex(p, "/"))]
}

// bare: the node p without how many children it has.
func (m *model) bare(p string) (api.Node, bool) {
	var n api.Node
	there := false
	for _, loaded := range m.nodes {
		if loaded.Path == p {
			n, there = loaded, true
		}
	}
	for _, c := range m.changes {
		switch {
		case c.Path == p && c.Kind == api.DeedDelete:
			there = false
		case c.Path == p && c.Kind == api.DeedCreate:
			there = true
			n = api.Node{Path: p, Data: c.Data, Stat: api.Stat{Czxid: c.Zxid, Mzxid: c.Zxid, Pzxid: c.Zxid, Ctime: c.Time, Mtime: c.Time, Owner: c.Owner}}
		case c.Path == p:
			n.Data, n.Stat.Mzxid, n.Stat.Mtime, n.Stat.Version = c.Data, c.Zxid, c.Time, c.Version
		case parentOf(c.Path) == p && c.Kind != api.DeedSet:
			n.Stat.Pzxid, n.Stat.Cversion = c.Zxid, c.Cversion
		}
	}
	n.Stat.Length = len(n.Data)
	return n, there
}

// all: by rising paths.
func (m *model) all() []api.Node {
	var paths []string
	for _, n := range m.nodes {
		paths = append(paths, n.Path)
	}
	for _, c := range m.changes {
		paths = append(paths, c.Path)
	}
	slices.Sort(paths)
	var out []api.Node
	for _, p := range slices.Compact(paths) {
		if n, there := m.bare(p); there {
			n.Stat.Children = 0
			out = append(out, n)
		}
	}
	for _, child := range out {
		for i := range out {
			if out[i].Path == parentOf(child.Path) {
				out[i].Stat.Children++
			}
		}
	}
	return out
}

func (m *model) sittings() []api.Sitting {
	var sessions []int64
	for _, s := range m.seats {
		sessions = append(sessions, s.Session)
	}
	for _, d := range m.deeds {
		sessions = append(sessions, int64(d.Zxid))
	}
	slices.Sort(sessions)
	var out []api.Sitting
	for _, session := range slices.Compact(sessions) {
		if s, there := m.sitting(session); there && session > 0 {
			out = append(out, s)
		}
	}
	return out
}

func (m *model) sitting(session int64) (api.Sitting, bool) {
	var s api.Sitting
	there := false
	for _, seat := range m.seats {
		if seat.Session == session {
			s, there = seat, true
		}
	}
	for _, d := range m.deeds {
		if d.Kind == api.DeedOpen && int64(d.Zxid) == session {
			s, there = api.Sitting{Session: session, Timeout: d.Timeout, Turn: d.Turn}, true
		}
		if d.Kind == api.DeedClose && d.Owner == session {
			there = false
		}
		if d.Session == session && d.Turn > s.Turn {
			s.Turn = d.Turn
		}
	}
	return s, there
}

// twin: a tree and its model, to which the same is done.
type twin struct {
	*testing.T
	what string
	x    *tree.Tree
	m    *model
}

func newTwin(t *testing.T, what string) twin {
	t.Helper()
	w := twin{t, what, tree.New(), newModel()}
	if w.x == nil {
		t.Fatalf("%s: New is none", what)
	}
	return w
}

// do applies deeds without looking.
func (w twin) do(deeds ...api.Deed) {
	w.Helper()
	for _, d := range deeds {
		w.x.Apply(d)
		w.m.apply(d)
	}
}

// apply looks behind each deed.
func (w twin) apply(deeds ...api.Deed) {
	w.Helper()
	for _, d := range deeds {
		w.do(d)
		w.look("behind " + tell(d))
	}
}

func (w twin) load(l []api.Node) {
	w.Helper()
	checkLoad(w.T, w.what, w.x, l, api.OK)
	w.m.load(l)
	w.look("loaded")
}

func (w twin) seat(l []api.Sitting) {
	w.Helper()
	w.x.Seat(l)
	w.m.seat(l)
	w.look("seated")
}

func (w twin) copy(what string) twin {
	w.Helper()
	return twin{w.T, what, w.x.Copy(), w.m.copy()}
}

// look: the tree tells what the model tells.
func (w twin) look(what string) {
	w.Helper()
	checkTree(w.T, w.what+", "+what, w.x, w.m.all(), w.m.sittings())
}

// checkTree: all calls that tell something of a tree tell of just these nodes and sittings.
func checkTree(t *testing.T, what string, x *tree.Tree, nodes []api.Node, sittings []api.Sitting) {
	t.Helper()
	if got := x.All(); !slices.EqualFunc(got, nodes, sameNode) {
		t.Errorf("%s: All:\n%s\nwant\n%s", what, tellNodes(got), tellNodes(nodes))
	}
	for _, n := range nodes {
		checkNode(t, what, x, n)
		checkList(t, what, x, n.Path, childrenOf(n.Path, nodes)...)
	}
	for _, p := range strangePaths() {
		if !slices.ContainsFunc(nodes, func(n api.Node) bool { return n.Path == p }) {
			checkNone(t, what, x, p)
		}
	}
	for session := int64(1); session < 10; session++ {
		checkOwned(t, what, x, session, ownedBy(session, nodes)...)
	}
	checkOwned(t, what, x, 0)
	checkOwned(t, what, x, -1)
	if got := x.Sittings(); !slices.Equal(got, sittings) {
		t.Errorf("%s: Sittings %v, want %v", what, got, sittings)
	}
}

func childrenOf(p string, nodes []api.Node) []string {
	var names []string
	for _, n := range nodes {
		if parentOf(n.Path) == p {
			names = append(names, n.Path[strings.LastIndex(n.Path, "/")+1:])
		}
	}
	slices.Sort(names)
	return names
}

func ownedBy(session int64, nodes []api.Node) []string {
	var paths []string
	for _, n := range nodes {
		if n.Stat.Owner == session {
			paths = append(paths, n.Path)
		}
	}
	return paths
}

// strangePaths: some that a tree of the tests may have, and some that none can have.
func strangePaths() []string {
	return []string{"/", "/a", "/a/b", "/a/b/c", "/b", "/none", "/a/none", "", "a", "/a/", "//", "//a", "/a//b", "/.", "/..", "/a/..", "/a b", " /a", "/a\x00", "/\xff", "/" + strings.Repeat("x", 200)}
}

func checkNode(t *testing.T, what string, x *tree.Tree, want api.Node) {
	t.Helper()
	if got, ok := x.Get(want.Path); !ok || !sameNode(got, want) {
		t.Errorf("%s: Get(%s): %s, %v, want %s", what, want.Path, tellNode(got), ok, tellNode(want))
	}
}

// checkNone: there is no such node, neither to get nor to list.
func checkNone(t *testing.T, what string, x *tree.Tree, p string) {
	t.Helper()
	if got, ok := x.Get(p); ok || got.Path != "" || got.Data != nil || got.Stat != (api.Stat{}) {
		t.Errorf("%s: Get(%.30q): %s, %v, want nothing", what, p, tellNode(got), ok)
	}
	if got, ok := x.List(p); ok || got != nil {
		t.Errorf("%s: List(%.30q): %q, %v, want nothing", what, p, got, ok)
	}
}

func checkList(t *testing.T, what string, x *tree.Tree, p string, want ...string) {
	t.Helper()
	if got, ok := x.List(p); !ok || !slices.Equal(got, want) {
		t.Errorf("%s: List(%s): %q, %v, want %q", what, p, got, ok, want)
	}
}

func checkOwned(t *testing.T, what string, x *tree.Tree, session int64, want ...string) {
	t.Helper()
	if got := x.Owned(session); !slices.Equal(got, want) {
		t.Errorf("%s: Owned(%d): %q, want %q", what, session, got, want)
	}
}

func checkSittings(t *testing.T, what string, x *tree.Tree, want ...api.Sitting) {
	t.Helper()
	if got := x.Sittings(); !slices.Equal(got, want) {
		t.Errorf("%s: Sittings %v, want %v", what, got, want)
	}
}

func checkLoad(t *testing.T, what string, x *tree.Tree, l []api.Node, want api.Errno) {
	t.Helper()
	if got := x.Load(l); got != want {
		t.Errorf("%s: Load: %v, want %v", what, got, want)
	}
}

// checkSame: whichever is asked of the other one, and each of itself.
func checkSame(t *testing.T, what string, a, b *tree.Tree, want bool) {
	t.Helper()
	if got, back := tree.Same(a, b), tree.Same(b, a); got != want || back != want {
		t.Errorf("%s: Same: %v, and the other way %v, want %v", what, got, back, want)
	}
	if !tree.Same(a, a) || !tree.Same(b, b) {
		t.Errorf("%s: one is not the same as itself", what)
	}
}

// sameNode: an empty row of bytes and none are one (R6).
func sameNode(a, b api.Node) bool {
	return a.Path == b.Path && string(a.Data) == string(b.Data) && a.Stat == b.Stat
}

func tellNode(n api.Node) string {
	return fmt.Sprintf("{%.30q, %d bytes %.20q, %+v}", n.Path, len(n.Data), n.Data, n.Stat)
}

func tellNodes(l []api.Node) string {
	var out []string
	for _, n := range l[:min(len(l), 20)] {
		out = append(out, tellNode(n))
	}
	return fmt.Sprintf("%d nodes: ", len(l)) + strings.Join(out, "\n")
}

func tell(d api.Deed) string {
	names := []string{"none", "create", "delete", "set", "open", "close", "sync", "config", "multi", "error"}
	out := fmt.Sprintf("%s %.20q by %d of %d/%d at %d (%.10q, owner %d, %d, %d, %d)", names[int(d.Kind)%len(names)], d.Path, d.Zxid, d.Session, d.Turn, d.Time, d.Data, d.Owner, d.Version, d.Cversion, d.Timeout)
	for _, part := range d.Parts[:min(len(d.Parts), 5)] {
		out += " [" + tell(part) + "]"
	}
	return out
}

// Deeds and parts, as short as may be.

func create(p, data string, owner int64, cversion int) api.Deed {
	return api.Deed{Kind: api.DeedCreate, Path: p, Data: []byte(data), Owner: owner, Cversion: cversion}
}

func remove(p string, cversion int) api.Deed {
	return api.Deed{Kind: api.DeedDelete, Path: p, Cversion: cversion}
}

func set(p, data string, version int) api.Deed {
	return api.Deed{Kind: api.DeedSet, Path: p, Data: []byte(data), Version: version}
}

func open(timeout int) api.Deed {
	return api.Deed{Kind: api.DeedOpen, Timeout: timeout}
}

func over(owner int64, parts ...api.Deed) api.Deed {
	return api.Deed{Kind: api.DeedClose, Owner: owner, Parts: parts}
}

func multi(parts ...api.Deed) api.Deed {
	return api.Deed{Kind: api.DeedMulti, Parts: parts}
}

// quiet: the kinds that do nothing to nodes and sittings of themselves.
func quiet(z api.Zxid) []api.Deed {
	config := api.Ensemble{Version: z, Members: []api.Member{{Id: 1, Role: api.Voter, Weight: 1}}}
	return []api.Deed{{Zxid: z, Kind: api.DeedSync}, {Zxid: z, Kind: api.DeedConfig, Config: config}, {Zxid: z, Kind: api.DeedError, Err: api.ErrNode}}
}

// at gives d its number and time.
func at(z api.Zxid, time int64, d api.Deed) api.Deed {
	d.Zxid, d.Time = z, time
	return d
}

// of gives d its session and turn.
func of(session int64, turn int, d api.Deed) api.Deed {
	d.Session, d.Turn = session, turn
	return d
}

// mixed: some deed, mostly right, of few paths and sessions, so that deeds often meet.
func mixed(next func(int) int, z api.Zxid) api.Deed {
	d := at(z, int64(next(50)), mixedKind(next))
	if next(3) == 0 {
		d = of(int64(next(9)), next(6), d)
	}
	switch next(30) {
	case 0:
		d.Xid = -1
	case 1:
		d.Err = 1
	}
	return d
}

func mixedKind(next func(int) int) api.Deed {
	switch next(10) {
	case 0:
		return open(1 + next(5))
	case 1:
		d := over(1 + int64(next(9)))
		for range next(3) {
			d.Parts = append(d.Parts, remove(mixedPath(next), next(9)))
		}
		return d
	case 2, 3:
		d := multi(mixedPart(next))
		for range next(4) {
			d.Parts = append(d.Parts, mixedPart(next))
		}
		return d
	case 4:
		return api.Deed{Kind: api.DeedSync}
	}
	return mixedPart(next)
}

func mixedPart(next func(int) int) api.Deed {
	switch next(7) {
	case 0, 1, 2:
		return create(mixedPath(next), strings.Repeat("d", next(4)), int64(next(9)), next(9))
	case 3, 4:
		return remove(mixedPath(next), next(9))
	case 5:
		return set("/", "root", next(9))
	}
	return set(mixedPath(next), strings.Repeat("s", next(4)), next(9))
}

func mixedPath(next func(int) int) string {
	l := []string{"/a", "/b", "/a/b", "/a/c", "/a-", "/a0", "/a/b/c", "/b/q-0000000007"}
	return l[next(len(l))]
}

// row: so many mixed deeds of rising numbers.
func row(next func(int) int, count int) []api.Deed {
	var out []api.Deed
	for i := range count {
		out = append(out, mixed(next, api.Zxid(i+1)))
	}
	return out
}

// spoilNodes overwrites a list of nodes and all that hangs on it.
func spoilNodes(l []api.Node) {
	for _, n := range l {
		testkit.Spoil(n.Data, '!')
	}
	testkit.Spoil(l, api.Node{Path: "/spoilt"})
}
