package plan_test

import (
	"fmt"
	"math"
	"slices"
	"strings"
	"testing"

	"beadle/api"
	"beadle/ask"
	"beadle/deed"
	"beadle/ensemble"
	"beadle/path"
	"beadle/plan"
	"beadle/testkit"
	"beadle/tree"
)

// node: what the model knows of one.
type node struct {
	version, cversion int
	owner             int64
}

type nodes map[string]node

// entry: a deed that was made, and whether it is done.
type entry struct {
	api.Deed
	done bool
}

// model: a plan as the chapter's Words tell it: nodes by their paths, sittings in a row, and the row of all deeds that were made; what else a plan knows is looked up there.
type model struct {
	nodes    nodes
	sittings []api.Sitting
	config   api.Ensemble
	waits    bool
	row      []entry
}

func newModel(x *tree.Tree, config api.Ensemble) *model {
	m := &model{nodes: nodes{}, sittings: x.Sittings(), config: config}
	for _, n := range x.All() {
		m.nodes[n.Path] = node{n.Stat.Version, n.Stat.Cversion, n.Stat.Owner}
	}
	return m
}

func (m *model) last() (api.Zxid, int64) {
	if len(m.row) == 0 {
		return 0, 0
	}
	d := m.row[len(m.row)-1]
	return d.Zxid, d.Time
}

func (m *model) sitting(session int64) (api.Sitting, bool) {
	for _, s := range m.sittings {
		if s.Session == session {
			return s, true
		}
	}
	return api.Sitting{}, false
}

// lastOf: the last deed that was made of a call of the session.
func (m *model) lastOf(session int64) (entry, bool) {
	for _, d := range slices.Backward(m.row) {
		if d.Session == session {
			return d, true
		}
	}
	return entry{}, false
}

func leaders(a api.Ask) bool { return a.Kind == api.AskClose && a.Turn == 0 && a.Xid == 0 }

// errno: why no deed is made of a.
func (m *model) errno(a api.Ask, z api.Zxid, time int64) api.Errno {
	changes := []api.AskKind{api.AskOpen, api.AskClose, api.AskCreate, api.AskDelete, api.AskSet, api.AskSync, api.AskMulti, api.AskConfig}
	last, lastTime := m.last()
	if !ask.Right(a) || !slices.Contains(changes, a.Kind) || a.Kind == api.AskOpen && a.Session != 0 {
		return api.ErrArg
	}
	if z <= last || z > testkit.LastZxid || time < lastTime || time > 4611686018427387904 {
		return api.ErrArg
	}
	if a.Kind == api.AskOpen {
		return api.OK
	}
	s, ok := m.sitting(a.Session)
	if !ok {
		return api.ErrSession
	}
	if leaders(a) {
		return api.OK
	}
	if d, ok := m.lastOf(a.Session); ok && (a.Turn < d.Turn || a.Turn == d.Turn && a.Xid <= d.Xid) {
		return api.ErrSession
	}
	if a.Turn < s.Turn {
		return api.ErrSession
	}
	return api.OK
}

func (m *model) make(a api.Ask, z api.Zxid, time int64) (api.Deed, api.Errno) {
	if errno := m.errno(a, z, time); errno != api.OK {
		return api.Deed{}, errno
	}
	d, errno := m.deed(a, z)
	if errno != api.OK {
		d = api.Deed{Kind: api.DeedError, Err: errno}
	}
	return m.made(d, a, z, time), api.OK
}

func (m *model) refuse(a api.Ask, z api.Zxid, time int64, why api.Errno) (api.Deed, api.Errno) {
	errno := m.errno(a, z, time)
	if why <= 0 {
		errno = api.ErrArg
	}
	if errno != api.OK {
		return api.Deed{}, errno
	}
	return m.made(api.Deed{Kind: api.DeedError, Err: why}, a, z, time), api.OK
}

func (m *model) made(d api.Deed, a api.Ask, z api.Zxid, time int64) api.Deed {
	d.Zxid, d.Time, d.Session, d.Turn, d.Xid = z, time, a.Session, a.Turn, a.Xid
	if leaders(a) {
		d.Session = 0
	}
	m.row = append(m.row, entry{Deed: d})
	m.apply(d)
	return d
}

// apply: what d makes of nodes, sittings and config.
func (m *model) apply(d api.Deed) {
	if !deed.Right(d) {
		return
	}
	m.nodes.do(d)
	switch d.Kind {
	case api.DeedOpen:
		m.leave(int64(d.Zxid))
		m.sittings = append(m.sittings, api.Sitting{Session: int64(d.Zxid), Timeout: d.Timeout, Turn: d.Turn})
	case api.DeedClose:
		m.leave(d.Owner)
	case api.DeedConfig:
		m.config, m.waits = d.Config, true
	}
	for i, s := range m.sittings {
		if s.Session == d.Session {
			m.sittings[i].Turn = max(s.Turn, d.Turn)
		}
	}
}

func (m *model) leave(session int64) {
	m.sittings = slices.DeleteFunc(m.sittings, func(s api.Sitting) bool { return s.Session == session })
}

func (m *model) done(d api.Deed) {
	for i := range m.row {
		if m.row[i].Zxid <= d.Zxid {
			m.row[i].done = true
		}
	}
	if d.Kind == api.DeedConfig && d.Config.Version == m.config.Version {
		m.waits = false
	}
}

func (m *model) pending() int {
	count := 0
	for _, d := range m.row {
		if !d.done {
			count++
		}
	}
	return count
}

// deed: what P18.3 says of a, or its error.
func (m *model) deed(a api.Ask, z api.Zxid) (api.Deed, api.Errno) {
	switch a.Kind {
	case api.AskOpen:
		if len(m.sittings) >= 200 {
			return api.Deed{}, api.ErrBusy
		}
		return api.Deed{Kind: api.DeedOpen, Timeout: a.Timeout}, api.OK
	case api.AskClose:
		return m.nodes.close(a.Session), api.OK
	case api.AskSync:
		return api.Deed{Kind: api.DeedSync}, api.OK
	case api.AskConfig:
		return m.reformed(a, z)
	case api.AskMulti:
		return m.nodes.multi(a)
	}
	return m.nodes.change(a, a.Session)
}

func (m *model) reformed(a api.Ask, z api.Zxid) (api.Deed, api.Errno) {
	if m.waits {
		return api.Deed{}, api.ErrPending
	}
	if a.From != 0 && a.From != m.config.Version {
		return api.Deed{}, api.ErrVersion
	}
	e := api.Ensemble{Version: z, Members: a.Members}
	if ensemble.Check(e) != api.OK {
		return api.Deed{}, api.ErrConfig
	}
	return api.Deed{Kind: api.DeedConfig, Config: e}, api.OK
}

func (n nodes) clone() nodes {
	out := nodes{}
	for p, x := range n {
		out[p] = x
	}
	return out
}

// do: what d, or a part, makes of the nodes, as far as versions and owners go.
func (n nodes) do(d api.Deed) {
	for _, part := range d.Parts {
		n.do(part)
	}
	x, there := n[d.Path]
	switch d.Kind {
	case api.DeedSet:
		if there {
			x.version = d.Version
			n[d.Path] = x
		}
		return
	case api.DeedCreate:
		n[d.Path] = node{owner: d.Owner}
	case api.DeedDelete:
		delete(n, d.Path)
	default:
		return
	}
	if parent, ok := n[above(d.Path)]; ok {
		parent.cversion = d.Cversion
		n[above(d.Path)] = parent
	}
}

// above: the parent of a right path but /.
func above(p string) string {
	if i := strings.LastIndex(p, "/"); i > 0 {
		return p[:i]
	}
	return "/"
}

func (n nodes) childless(p string) bool {
	for child := range n {
		if child != "/" && above(child) == p {
			return false
		}
	}
	return true
}

func (n nodes) close(session int64) api.Deed {
	d := api.Deed{Kind: api.DeedClose, Owner: session}
	count := map[string]int{}
	var own []string
	for p, x := range n {
		if x.owner == session {
			own = append(own, p)
		}
	}
	slices.Sort(own)
	for _, p := range own {
		count[above(p)]++
		d.Parts = append(d.Parts, api.Deed{Kind: api.DeedDelete, Path: p, Cversion: n[above(p)].cversion + count[above(p)]})
	}
	return d
}

func (n nodes) multi(a api.Ask) (api.Deed, api.Errno) {
	d, then := api.Deed{Kind: api.DeedMulti}, n.clone()
	for _, part := range a.Parts {
		one, errno := then.change(part, a.Session)
		if errno != api.OK {
			return api.Deed{}, errno
		}
		if part.Kind != api.AskCheck {
			then.do(one)
			d.Parts = append(d.Parts, one)
		}
	}
	if len(d.Parts) == 0 {
		d.Kind = api.DeedSync
	}
	return d, api.OK
}

func (n nodes) change(a api.Ask, session int64) (api.Deed, api.Errno) {
	if a.Kind == api.AskCreate {
		return n.create(a, session)
	}
	x, there := n[a.Path]
	switch {
	case !path.Check(a.Path), a.Kind == api.AskDelete && a.Path == "/":
		return api.Deed{}, api.ErrPath
	case !there:
		return api.Deed{}, api.ErrNode
	case a.Version != -1 && a.Version != x.version:
		return api.Deed{}, api.ErrVersion
	case a.Kind == api.AskDelete && !n.childless(a.Path):
		return api.Deed{}, api.ErrChildren
	case a.Kind == api.AskDelete:
		return api.Deed{Kind: api.DeedDelete, Path: a.Path, Cversion: n[above(a.Path)].cversion + 1}, api.OK
	case a.Kind == api.AskSet:
		return api.Deed{Kind: api.DeedSet, Path: a.Path, Data: a.Data, Version: x.version + 1}, api.OK
	}
	return api.Deed{}, api.OK
}

func (n nodes) create(a api.Ask, session int64) (api.Deed, api.Errno) {
	p := a.Path
	if a.Flags == 2 || a.Flags == 3 {
		if !path.Check(p + "z") {
			return api.Deed{}, api.ErrPath
		}
		next := n[above(p)].cversion
		if next > math.MaxInt32 {
			return api.Deed{}, api.ErrPath
		}
		p = fmt.Sprintf("%s%010d", p, next)
	}
	if !path.Check(p) || p == "/" {
		return api.Deed{}, api.ErrPath
	}
	parent, there := n[above(p)]
	_, taken := n[p]
	switch {
	case !there:
		return api.Deed{}, api.ErrNode
	case parent.owner > 0:
		return api.Deed{}, api.ErrEphemeral
	case taken:
		return api.Deed{}, api.ErrThere
	case len(n) >= 500:
		return api.Deed{}, api.ErrBusy
	}
	d := api.Deed{Kind: api.DeedCreate, Path: p, Data: a.Data, Cversion: parent.cversion + 1}
	if a.Flags == 1 || a.Flags == 3 {
		d.Owner = session
	}
	return d, api.OK
}

// twin: a plan and its model, of which the same is asked; and the tree that the plan began with, to which its deeds are done, each of them twice.
type twin struct {
	*testing.T
	what string
	p    *plan.Plan
	m    *model
	x    *tree.Tree
	log  *[]string // all that was asked and answered
}

func newTwin(t *testing.T, what string, x *tree.Tree, config api.Ensemble) twin {
	t.Helper()
	p := plan.New(x, config)
	if p == nil {
		t.Fatalf("%s: New is none", what)
	}
	w := twin{t, what, p, newModel(x, config), x.Copy(), new([]string)}
	w.look()
	return w
}

// tell is the same of deeds that are the same, lists that are empty or none alike.
func tell(d api.Deed) string { return fmt.Sprintf("%+v", d) }

func (w twin) make(a api.Ask, z api.Zxid, time int64) api.Deed {
	w.Helper()
	want, errno := w.m.make(a, z, time)
	got, e := w.p.Make(a, z, time)
	w.check(fmt.Sprintf("Make(%+v, %d, %d)", a, z, time), got, e, want, errno)
	return got
}

func (w twin) refuse(a api.Ask, z api.Zxid, time int64, why api.Errno) api.Deed {
	w.Helper()
	want, errno := w.m.refuse(a, z, time, why)
	got, e := w.p.Refuse(a, z, time, why)
	w.check(fmt.Sprintf("Refuse(%+v, %d, %d, %d)", a, z, time, int(why)), got, e, want, errno)
	return got
}

func (w twin) check(call string, got api.Deed, e api.Errno, want api.Deed, errno api.Errno) {
	w.Helper()
	told := tell(got)
	if told != tell(want) || e != errno {
		w.Fatalf("%s: %s: %.600s, %d, want %.600s, %d", w.what, short(call), told, int(e), tell(want), int(errno))
	}
	*w.log = append(*w.log, call, told, errno.Error())
	w.x.Apply(got)
	w.x.Apply(got)
	w.look()
}

func short(call string) string {
	if len(call) > 600 {
		return call[:600] + ".."
	}
	return call
}

func (w twin) done(d api.Deed) {
	w.Helper()
	w.m.done(d)
	w.p.Done(d)
	*w.log = append(*w.log, "Done "+tell(d))
	w.look()
}

// look looks at all that a plan tells without being changed.
func (w twin) look() {
	w.Helper()
	if got := w.p.Pending(); got != w.m.pending() {
		w.Fatalf("%s: Pending: %d, want %d", w.what, got, w.m.pending())
	}
	config, waits := w.p.Config()
	if fmt.Sprint(config) != fmt.Sprint(w.m.config) || waits != w.m.waits {
		w.Fatalf("%s: Config: %v, %v, want %v, %v", w.what, config, waits, w.m.config, w.m.waits)
	}
	for _, session := range []int64{math.MinInt64, -1, 0, 1, 2, 3, math.MaxInt64} {
		w.sitting(session)
	}
	for _, s := range w.m.sittings {
		w.sitting(s.Session)
	}
}

func (w twin) sitting(session int64) {
	w.Helper()
	want, there := w.m.sitting(session)
	if got, ok := w.p.Sitting(session); got != want || ok != there {
		w.Fatalf("%s: Sitting(%d): %v, %v, want %v, %v", w.what, session, got, ok, want, there)
	}
}

// next: the zxid behind the last one that was made, its time, and the session's next call.
func (w twin) next(a api.Ask) (api.Ask, api.Zxid, int64) {
	z, time := w.m.last()
	s, _ := w.m.sitting(a.Session)
	d, _ := w.m.lastOf(a.Session)
	a.Turn, a.Xid = s.Turn, 1
	if d.Turn == s.Turn {
		a.Xid = d.Xid + 1
	}
	return a, z + 1, time
}

// call makes a deed of a, as that session's next call, a moment later.
func (w twin) call(session int64, a api.Ask) api.Deed {
	w.Helper()
	a.Session = session
	a, z, time := w.next(a)
	return w.make(a, z, time+1)
}

// want: the call is answered by that error.
func (w twin) want(session int64, a api.Ask, errno api.Errno) {
	w.Helper()
	d := w.call(session, a)
	if d.Kind != api.DeedError || d.Err != errno {
		w.Errorf("%s: %s: %s, want the error %d", w.what, short(fmt.Sprintf("%+v", a)), tell(d), int(errno))
	}
}

// kind: the call is answered by a deed of that kind.
func (w twin) kind(session int64, a api.Ask, kind api.DeedKind) api.Deed {
	w.Helper()
	d := w.call(session, a)
	if d.Kind != kind {
		w.Errorf("%s: %s: %s, want the kind %d", w.what, short(fmt.Sprintf("%+v", a)), tell(d), kind)
	}
	return d
}

// same: the tree that all deeds were done to has the nodes and sittings of the model.
func (w twin) same() {
	w.Helper()
	m := newModel(w.x, w.m.config)
	if fmt.Sprint(m.nodes) != fmt.Sprint(w.m.nodes) {
		w.Errorf("%s: the deeds make %v, want %v", w.what, m.nodes, w.m.nodes)
	}
	for _, s := range w.m.sittings {
		if got, ok := m.sitting(s.Session); got != s || !ok || len(m.sittings) != len(w.m.sittings) {
			w.Errorf("%s: the deeds make the sittings %v, want %v", w.what, m.sittings, w.m.sittings)
		}
	}
	w.sound()
}

// sound: each node of the tree has its parent, which nobody owns; and there are no more nodes and sittings than may be.
func (w twin) sound() {
	w.Helper()
	all := w.x.All()
	for _, n := range all {
		parent, ok := w.x.Get(path.Parent(n.Path))
		if n.Path != "/" && (!ok || parent.Stat.Owner != 0) {
			w.Errorf("%s: the parent of %s: %v, %v", w.what, n.Path, parent, ok)
		}
	}
	if len(all) > 500 || len(w.x.Sittings()) > 200 {
		w.Errorf("%s: %d nodes, %d sittings", w.what, len(all), len(w.x.Sittings()))
	}
}

// probe asks of the plan's own tree what only its deeds tell: of each path whether it is there, its Version, Cversion and owner.
func (w twin) probe(session int64, paths ...string) {
	w.Helper()
	for _, p := range paths {
		w.call(session, api.Ask{Kind: api.AskSet, Path: p, Version: -1})
		w.call(session, api.Ask{Kind: api.AskCreate, Path: p + "/", Flags: api.Sequence})
	}
	for _, p := range slices.Backward(paths) {
		w.call(session, api.Ask{Kind: api.AskDelete, Path: p, Version: -1})
	}
	w.same()
}

// grown: a tree with the sitting 1, of the turn 0, and these nodes.
func grown(paths ...string) *tree.Tree {
	x := tree.New()
	x.Apply(api.Deed{Zxid: 1, Kind: api.DeedOpen, Timeout: 30})
	for i, p := range paths {
		parent, _ := x.Get(above(p))
		x.Apply(api.Deed{Zxid: api.Zxid(i + 2), Kind: api.DeedCreate, Path: p, Cversion: parent.Stat.Cversion + 1})
	}
	return x
}

// seated: a tree with the root and these sittings.
func seated(l ...api.Sitting) *tree.Tree {
	x := tree.New()
	x.Seat(l)
	return x
}

func voters(version api.Zxid, ids ...int) api.Ensemble {
	e := api.Ensemble{Version: version}
	for _, id := range ids {
		e.Members = append(e.Members, api.Member{Id: id, Role: api.Voter, Weight: 1})
	}
	return e
}

// eachChange: a right call of each kind that may be made a deed, but AskOpen, of the session 1 and of its second call.
func eachChange() []api.Ask {
	l := []api.Ask{
		{Kind: api.AskClose},
		{Kind: api.AskCreate, Path: "/new", Data: []byte("data"), Flags: api.Ephemeral},
		{Kind: api.AskCreate, Path: "/new-", Flags: api.Sequence},
		{Kind: api.AskDelete, Path: "/a", Version: -1},
		{Kind: api.AskSet, Path: "/a", Data: []byte("data"), Version: -1},
		{Kind: api.AskSync},
		{Kind: api.AskMulti, Parts: []api.Ask{{Kind: api.AskSet, Path: "/a", Data: []byte("set")}, {Kind: api.AskCheck, Path: "/a", Version: 1}, {Kind: api.AskCreate, Path: "/a/b", Data: []byte("new")}}},
		{Kind: api.AskConfig, Members: voters(0, 2, 3).Members},
		{Kind: api.AskDelete, Path: "/none", Version: 3},
	}
	for i := range l {
		l[i].Session, l[i].Turn, l[i].Xid = 1, 1, 2
	}
	return l
}

// wide: a tree with so many nodes, the root with them, and the sitting 1.
func wide(count int) *tree.Tree {
	l := []api.Node{{Path: "/", Stat: api.Stat{Cversion: count - 1}}}
	for i := range count - 1 {
		l = append(l, api.Node{Path: fmt.Sprintf("/n%04d", i)})
	}
	x := grown()
	x.Load(l)
	return x
}

// copied: a plan of the twin's tree as it is now, that has made its last deed, too.
func (w twin) copied(t *testing.T) *plan.Plan {
	t.Helper()
	p := plan.New(w.x, w.m.config)
	if z, time := w.m.last(); z > 0 {
		if _, errno := p.Refuse(api.Ask{Kind: api.AskOpen, Timeout: 1}, z, time, 1); errno != api.OK {
			t.Fatal(errno)
		}
	}
	return p
}

// errno is what Make answers beside a deed.
func (w twin) errno(a api.Ask, z api.Zxid, time int64) api.Errno {
	w.Helper()
	want, errno := w.m.make(a, z, time)
	got, e := w.p.Make(a, z, time)
	w.check("Make", got, e, want, errno)
	return e
}

// sameNodes is same, of a tree that was not sound from the beginning on.
func (w twin) sameNodes() {
	w.Helper()
	if m := newModel(w.x, w.m.config); fmt.Sprint(m.nodes) != fmt.Sprint(w.m.nodes) {
		w.Errorf("%s: the deeds make other nodes", w.what)
	}
}

// roomyAsk is the same call, each list of it new and with spare room that holds junk.
func roomyAsk(a api.Ask) api.Ask {
	a.Data = testkit.WithRoom(a.Data, 0xee)
	a.Members = testkit.WithRoom(a.Members, api.Member{Id: 99})
	a.Parts = testkit.WithRoom(a.Parts, api.Ask{Xid: 99})
	for i := range a.Parts {
		a.Parts[i] = roomyAsk(a.Parts[i])
	}
	return a
}

// whole is a with the spare room of its lists.
func whole(a api.Ask) api.Ask {
	a.Data, a.Members, a.Parts = a.Data[:cap(a.Data)], a.Members[:cap(a.Members)], slices.Clone(a.Parts[:cap(a.Parts)])
	for i := range a.Parts {
		a.Parts[i] = whole(a.Parts[i])
	}
	return a
}

func spoilAsk(a api.Ask) {
	for _, part := range a.Parts {
		spoilAsk(part)
	}
	testkit.Spoil(a.Data, 0xdd)
	testkit.Spoil(a.Members, api.Member{Id: 77})
	testkit.Spoil(a.Parts, api.Ask{Xid: 77, Path: "spoilt"})
}

// walker makes calls of all kinds, most of them such as may be.
type walker struct {
	twin
	any   func(most int) int
	deeds []api.Deed
}

func newWalker(t *testing.T, what string, next func(int) int) *walker {
	return &walker{twin: newTwin(t, what, tree.New(), voters(0, 1)), any: next}
}

func pick[T any](next func(int) int, l ...T) T { return l[next(len(l))] }

func (w *walker) path() string {
	if w.any(12) == 0 {
		return pick(w.any, "", "/", "a", "/a/", "//", "/a/.", "/none/x", "/"+strings.Repeat("x", 189+w.any(12)))
	}
	p := ""
	for range 1 + w.any(3) {
		p += "/" + pick(w.any, "a", "a", "b", "c-")
	}
	return p
}

// change: a part, or what a call may ask of a node.
func (w *walker) change(kinds ...api.AskKind) api.Ask {
	a := api.Ask{Kind: pick(w.any, kinds...), Path: w.path(), Version: pick(w.any, -1, -1, -1, 0, 1, 2)}
	switch a.Kind {
	case api.AskCreate:
		a.Version, a.Flags, a.Data = 0, w.any(4), make([]byte, w.any(3))
		if a.Flags >= 2 && w.any(2) == 0 {
			a.Path = strings.TrimSuffix(a.Path, "/") + "/"
		}
	case api.AskSet:
		a.Data = make([]byte, w.any(3))
	}
	return a
}

func (w *walker) ask() api.Ask {
	switch w.any(16) {
	case 0, 1:
		return api.Ask{Kind: api.AskOpen, Timeout: w.any(4)}
	case 2:
		return api.Ask{Kind: pick(w.any, api.AskClose, api.AskSync, api.AskSync)}
	case 3:
		return api.Ask{Kind: api.AskConfig, From: pick(w.any, 0, 0, w.m.config.Version, 1), Members: voters(0, pick(w.any, []int{1}, []int{2, 3}, []int{3, 2}, nil)...).Members}
	case 4, 5, 6, 7:
		a := api.Ask{Kind: api.AskMulti}
		for range w.any(6) {
			a.Parts = append(a.Parts, w.change(api.AskCreate, api.AskCreate, api.AskDelete, api.AskSet, api.AskCheck))
		}
		return a
	}
	return w.change(api.AskCreate, api.AskCreate, api.AskCreate, api.AskDelete, api.AskSet)
}

// act is the next call, or something that happens to the plan beside calls; it tells the deed that was made.
func (w *walker) act() (api.Deed, bool) {
	w.Helper()
	if w.any(6) == 0 {
		w.doneSome()
	}
	a := w.ask()
	if a.Kind != api.AskOpen {
		a.Session = int64(w.any(3))
		if seats := w.m.sittings; len(seats) > 0 && w.any(8) > 0 {
			a.Session = seats[w.any(len(seats))].Session
		}
	}
	a, z, time := w.next(a)
	switch w.any(10) {
	case 0:
		a.Turn += w.any(3) - 1
	case 1:
		a.Xid -= w.any(2)
	case 2:
		a.Turn, a.Xid = 0, 0
	case 3:
		z = deed.Make(deed.Epoch(z)+w.any(2), deed.Counter(z)+w.any(3)-1)
	case 4:
		time += int64(w.any(4) - 1)
	}
	var d api.Deed
	if w.any(12) == 0 {
		d = w.refuse(a, z, time, api.Errno(w.any(3)))
	} else {
		d = w.make(a, z, time)
	}
	if d.Kind != 0 {
		w.deeds = append(w.deeds, d)
	}
	return d, d.Kind != 0
}

func (w *walker) doneSome() {
	w.Helper()
	if len(w.deeds) > 0 {
		w.done(w.deeds[max(0, len(w.deeds)-1-w.any(9))])
	}
	if z := w.m.config.Version; w.m.waits && w.any(4) == 0 {
		w.done(api.Deed{Zxid: z, Kind: api.DeedConfig, Config: w.m.config})
	}
}
