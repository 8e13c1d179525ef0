package attic_test

import (
	"bytes"
	"fmt"
	"regexp"
	"slices"
	"strconv"
	"strings"
	"testing"

	"beadle/api"
	"beadle/attic"
	"beadle/deed"
	"beadle/disk"
	"beadle/ensemble"
	"beadle/fuzzy"
	"beadle/image"
	"beadle/journal"
	"beadle/testkit"
	"beadle/tree"
	"beadle/wire"
)

// numbers: a paper's, in their order: generation, boots, accepted, current, image.
type numbers [5]int64

// paperOf: the bytes of a frame of these.
func paperOf(ints ...int64) []byte {
	w := wire.NewWriter()
	for _, n := range ints {
		w.Int(n)
	}
	b, _ := wire.Frame(w.Done())
	return b
}

// model: an attic as the chapter's words tell it. It knows its disk, what it was opened with and a journal, and reads its disk anew whenever it is asked.
type model struct {
	d    *disk.Disk
	boot api.Ensemble
	j    *journal.Journal
}

// openModel: as Open does it, to d itself.
func openModel(d *disk.Disk, boot api.Ensemble) (*model, api.Errno) {
	if d.Copy() == nil {
		return nil, api.ErrNil
	}
	if errno := ensemble.Check(boot); errno != api.OK {
		return nil, errno
	}
	m := &model{d: d, boot: boot}
	if b, errno := d.Read("now"); errno == api.OK && !isPaper(b) {
		return nil, api.ErrShape
	}
	if m.paper()[4] == 1 {
		if _, _, _, _, _, errno := image.Get(m.image()); errno != api.OK {
			return nil, api.ErrShape
		}
	}
	if errno := (&model{d: d.Copy(), boot: boot}).begin(); errno != api.OK {
		return nil, errno
	}
	return m, m.begin()
}

func isPaper(b []byte) bool {
	p, ok := numbersOf(b)
	return ok && bytes.Equal(b, paperOf(p[:]...)) && p[0] >= 0 && p[1] >= 0 && 0 <= p[3] && p[3] <= p[2] && p[2] <= 1<<30 && (p[4] == 0 || p[4] == 1)
}

func numbersOf(b []byte) (numbers, bool) {
	held, _, errno := wire.Unframe(b)
	r := wire.NewReader(held)
	var p numbers
	for i := range p {
		p[i] = r.Int()
	}
	return p, errno == api.OK && r.Whole()
}

var (
	journalForm = regexp.MustCompile(`^(g(?:a|[b-j][a-j]*))\.[0-9]{10}$`)
	imageForm   = regexp.MustCompile(`^i(?:0|[1-9][0-9]*)$`)
)

func (m *model) begin() api.Errno {
	p := m.paper()
	j, errno := journal.Open(m.d, m.journalName(p[0]))
	if errno != api.OK {
		return errno
	}
	m.j = j
	for _, name := range m.d.List() {
		form := journalForm.FindStringSubmatch(name)
		switch {
		case name == "next", name == "new":
			m.d.Remove(name)
		case form != nil && form[1] != m.journalName(p[0]):
			m.d.Remove(name)
		case imageForm.MatchString(name) && (p[4] == 0 || name != imageName(p[0])):
			m.d.Remove(name)
		}
	}
	p[1]++
	return m.writePaper(p)
}

func (m *model) paper() numbers {
	b, _ := m.d.Read("now")
	p, _ := numbersOf(b)
	return p
}

func (m *model) writePaper(p numbers) api.Errno {
	return m.writeFile("next", paperOf(p[:]...), "now")
}

// writeFile: to one file, which is renamed to another.
func (m *model) writeFile(name string, b []byte, to string) api.Errno {
	m.d.Remove(name)
	if errno := m.d.Append(name, b); errno != api.OK {
		return errno
	}
	m.d.Sync(name)
	return m.d.Rename(name, to)
}

func (m *model) journalName(generation int64) string {
	return "g" + strings.NewReplacer("0", "a", "1", "b", "2", "c", "3", "d", "4", "e", "5", "f", "6", "g", "7", "h", "8", "i", "9", "j").Replace(strconv.FormatInt(generation, 10))
}

func imageName(generation int64) string { return fmt.Sprint("i", generation) }

// tried: what do answers; if that is an error, it was done to a copy of the disk alone.
func (m *model) tried(do func(m *model) api.Errno) api.Errno {
	trial := &model{d: m.d.Copy(), boot: m.boot}
	trial.j, _ = journal.Open(trial.d, m.journalName(m.paper()[0]))
	if errno := do(trial); errno != api.OK {
		return errno
	}
	return do(m)
}

func (m *model) setEpochs(accepted, current int) api.Errno {
	p := m.paper()
	if current < 0 || current > accepted || accepted > 1<<30 || int64(accepted) < p[2] || int64(current) < p[3] {
		return api.ErrArg
	}
	p[2], p[3] = int64(accepted), int64(current)
	return m.tried(func(m *model) api.Errno { return m.writePaper(p) })
}

func (m *model) image() []byte {
	if m.paper()[4] == 0 {
		return nil
	}
	b, _ := m.d.Read(imageName(m.paper()[0]))
	return b
}

// head: what the image says of itself; the config is the one that the attic was opened with, if there is none.
func (m *model) head() (config api.Ensemble, from, to api.Zxid) {
	if m.paper()[4] == 0 {
		return m.boot, 0, 0
	}
	_, _, config, from, to, _ = image.Get(m.image())
	return config, from, to
}

func (m *model) base() api.Zxid {
	_, from, _ := m.head()
	return from
}

func (m *model) last() api.Zxid { return max(m.j.Last(), m.base()) }

func (m *model) append(x api.Deed) api.Errno {
	if x.Zxid <= m.base() {
		return api.ErrArg
	}
	return m.j.Append(x)
}

func (m *model) cut(z api.Zxid) api.Errno {
	if _, _, to := m.head(); m.paper()[4] == 1 && z < to {
		return api.ErrArg
	}
	return m.j.Cut(z)
}

func (m *model) deeds(z api.Zxid) []api.Deed {
	base := m.base()
	return slices.DeleteFunc(m.j.From(0), func(x api.Deed) bool { return x.Zxid <= z || x.Zxid <= base })
}

func (m *model) store(b []byte) api.Errno {
	_, _, _, from, to, errno := image.Get(b)
	if errno != api.OK {
		return api.ErrShape
	}
	if from < m.base() || to > m.last() {
		return api.ErrArg
	}
	return m.tried(func(m *model) api.Errno {
		m.j.Sync()
		p := m.paper()
		if errno := m.writeFile("new", b, imageName(p[0])); errno != api.OK {
			return errno
		}
		if p[4] == 0 {
			p[4] = 1
			if errno := m.writePaper(p); errno != api.OK {
				return errno
			}
		}
		return m.j.Purge(from)
	})
}

func (m *model) install(b []byte) api.Errno {
	if _, _, _, _, _, errno := image.Get(b); errno != api.OK {
		return api.ErrShape
	}
	return m.tried(func(m *model) api.Errno {
		old := m.paper()
		p := numbers{old[0] + 1, old[1], old[2], old[3], 1}
		m.d.Remove(imageName(p[0]))
		if errno := m.d.Append(imageName(p[0]), b); errno != api.OK {
			return errno
		}
		m.d.Sync(imageName(p[0]))
		if errno := m.writePaper(p); errno != api.OK {
			return errno
		}
		m.j.Cut(0)
		m.d.Remove(imageName(old[0]))
		m.j, _ = journal.Open(m.d, m.journalName(p[0]))
		return api.OK
	})
}

func (m *model) tree() (*tree.Tree, api.Zxid, api.Errno) {
	if m.paper()[4] == 0 {
		return tree.New(), 0, api.OK
	}
	_, _, to := m.head()
	x, _, z, errno := fuzzy.Restore(m.image(), slices.DeleteFunc(m.j.From(0), func(x api.Deed) bool { return x.Zxid > to }))
	return x, z, errno
}

func (m *model) configs() []api.Ensemble {
	config, _, _ := m.head()
	out := []api.Ensemble{config}
	for _, x := range m.deeds(0) {
		if x.Kind == api.DeedConfig {
			out = append(out, x.Config)
		}
	}
	return out
}

// voters: a config of these, of that version.
func voters(version api.Zxid, ids ...int) api.Ensemble {
	e := api.Ensemble{Version: version}
	for _, id := range ids {
		e.Members = append(e.Members, api.Member{Id: id, Role: api.Voter, Weight: 1})
	}
	return e
}

// boot: what tests open attics with.
func boot() api.Ensemble { return voters(0, 1, 2) }

// grown: the deed that makes a node, with so many bytes of data; its parent is the root, which had z-1 children made before.
func grown(z api.Zxid, size int) api.Deed {
	return api.Deed{Zxid: z, Time: int64(z), Kind: api.DeedCreate, Path: fmt.Sprintf("/n%03d", z), Data: bytes.Repeat([]byte{byte(z)}, size), Cversion: int(z)}
}

// becomes: the deed that makes a config.
func becomes(z api.Zxid, ids ...int) api.Deed {
	return api.Deed{Zxid: z, Kind: api.DeedConfig, Config: voters(z, ids...)}
}

// row: deeds from first to last, of some 300 bytes each, with a config at every fifth zxid; seven or eight make a file.
func row(first, last api.Zxid) []api.Deed {
	var out []api.Deed
	for z := first; z <= last; z++ {
		if z%5 == 0 {
			out = append(out, becomes(z, int(z)%7+1))
		} else {
			out = append(out, grown(z, 280+int(z)))
		}
	}
	return out
}

// treeOf: what these deeds make, up to z.
func treeOf(deeds []api.Deed, z api.Zxid) *tree.Tree {
	x := tree.New()
	for _, d := range deeds {
		if d.Zxid <= z {
			x.Apply(d)
		}
	}
	return x
}

// imageOf: an image of the tree that these deeds make, begun at from, ended at to, so that some nodes are older than others.
func imageOf(deeds []api.Deed, from, to api.Zxid) []byte {
	config := boot()
	for _, d := range deeds {
		if d.Kind == api.DeedConfig && d.Zxid <= from {
			config = d.Config
		}
	}
	w := fuzzy.New(from, config)
	w.Step(treeOf(deeds, from), 2)
	w.Step(treeOf(deeds, to), api.MaxNodes+1)
	return mustImage(w.Done(to))
}

// bare: an image of the root alone.
func bare(from, to api.Zxid, config api.Ensemble) []byte {
	return mustImage(image.Put(tree.New().All(), nil, config, from, to))
}

func mustImage(b []byte, errno api.Errno) []byte {
	if errno != api.OK {
		panic(errno)
	}
	return b
}

// noImages: bytes of which image.Get tells none.
func noImages() [][]byte {
	good := bare(1, 2, boot())
	turned := bytes.Clone(good)
	turned[len(turned)-1] ^= 1
	return [][]byte{nil, {}, {0}, good[1:], good[:len(good)-1], append(bytes.Clone(good), 0), turned, paperOf(0, 1, 0, 0, 0), []byte("no image")}
}

// put: a file of these bytes, synced.
func put(d *disk.Disk, name string, b []byte) {
	putLoose(d, name, b)
	d.Sync(name)
}

// putLoose: a file of these bytes, not synced.
func putLoose(d *disk.Disk, name string, b []byte) {
	if errno := d.Append(name, b); errno != api.OK {
		panic(fmt.Sprint(name, ": ", errno))
	}
}

// mustOpen: the attic on d.
func mustOpen(t *testing.T, d *disk.Disk) *attic.Attic {
	t.Helper()
	a, errno := attic.Open(d, boot())
	if errno != api.OK || a == nil {
		t.Fatalf("Open: %v, %v\n%.2000s", a, errno, testkit.TellDisk(d))
	}
	return a
}

// mustAppend: all these, none of them synced by name.
func mustAppend(t *testing.T, a *attic.Attic, deeds ...api.Deed) {
	t.Helper()
	for _, x := range deeds {
		checkErrno(t, fmt.Sprint("Append of ", x.Zxid), a.Append(x), api.OK)
	}
}

// atticOf: an attic on a new disk, with these deeds.
func atticOf(t *testing.T, deeds ...api.Deed) (*attic.Attic, *disk.Disk) {
	t.Helper()
	d := disk.New(1 << 24)
	a := mustOpen(t, d)
	mustAppend(t, a, deeds...)
	return a, d
}

func checkErrno(t *testing.T, what string, got, want api.Errno) {
	t.Helper()
	if got != want {
		t.Errorf("%s: %v, want %v", what, got, want)
	}
}

func checkList(t *testing.T, what string, d *disk.Disk, want ...string) {
	t.Helper()
	if got := d.List(); !slices.Equal(got, want) {
		t.Errorf("%s: files %q, want %q", what, got, want)
	}
}

// checkFile: the file has just these bytes, all synced.
func checkFile(t *testing.T, what string, d *disk.Disk, name string, want []byte) {
	t.Helper()
	other := d.Copy()
	other.Crash(0)
	if got, errno := other.Read(name); !bytes.Equal(got, want) || errno != api.OK {
		t.Errorf("%s: %s: %x synced, %v, want %x", what, name, got, errno, want)
	}
	if got, _ := d.Read(name); !bytes.Equal(got, want) {
		t.Errorf("%s: %s: %x, want %x", what, name, got, want)
	}
}

func checkSameDisk(t *testing.T, what string, got, want *disk.Disk) {
	t.Helper()
	if a, b := testkit.TellDisk(got), testkit.TellDisk(want); a != b {
		t.Fatalf("%s: the disk has\n%.3000s\nwant\n%.3000s", what, a, b)
	}
}

func zxids(deeds []api.Deed) []api.Zxid {
	var out []api.Zxid
	for _, x := range deeds {
		out = append(out, x.Zxid)
	}
	return out
}

func sameDeeds(a, b []api.Deed) bool {
	return slices.EqualFunc(a, b, func(x, y api.Deed) bool {
		one, _ := deed.Put(x)
		two, _ := deed.Put(y)
		return bytes.Equal(one, two)
	})
}

func checkDeeds(t *testing.T, what string, got, want []api.Deed) {
	t.Helper()
	if !sameDeeds(got, want) {
		t.Errorf("%s: deeds %v, want %v", what, zxids(got), zxids(want))
	}
}

func sameConfigs(a, b []api.Ensemble) bool {
	return slices.EqualFunc(a, b, func(x, y api.Ensemble) bool {
		return x.Version == y.Version && slices.Equal(x.Members, y.Members)
	})
}

func checkConfigs(t *testing.T, what string, a *attic.Attic, want ...api.Ensemble) {
	t.Helper()
	if got := a.Configs(); !sameConfigs(got, want) {
		t.Errorf("%s: configs %v, want %v", what, got, want)
	}
}

// checkTree: the attic's is as the other tree, and has met the deeds up to z.
func checkTree(t *testing.T, what string, a *attic.Attic, want *tree.Tree, z api.Zxid) {
	t.Helper()
	got, at, errno := a.Tree()
	if errno != api.OK || at != z || !tree.Same(got, want) {
		t.Errorf("%s: a tree of %d nodes at %d, %v, want %d nodes at %d", what, len(got.All()), at, errno, len(want.All()), z)
	}
}

// tellPaper: the numbers that an attic tells.
func tellPaper(a *attic.Attic) [3]int { return [3]int{a.Boots(), a.Accepted(), a.Current()} }

// checkLike: the attic, which works on d, is as the model is, which works on its own disk.
func checkLike(t *testing.T, what string, a *attic.Attic, d *disk.Disk, m *model) {
	t.Helper()
	checkSameDisk(t, what, d, m.d)
	p := m.paper()
	if got, want := tellPaper(a), [3]int{int(p[1]), int(p[2]), int(p[3])}; got != want {
		t.Errorf("%s: boots, accepted, current: %v, want %v", what, got, want)
	}
	if a.Last() != m.last() || a.Base() != m.base() {
		t.Errorf("%s: Last %d, Base %d, want %d, %d", what, a.Last(), a.Base(), m.last(), m.base())
	}
	if !bytes.Equal(a.Image(), m.image()) {
		t.Errorf("%s: the image is another one", what)
	}
	checkConfigs(t, what, a, m.configs()...)
	middle := (m.base() + m.last()) / 2
	for _, z := range []api.Zxid{-1, 0, m.base() - 1, m.base(), m.base() + 1, middle, m.last() - 1, m.last()} {
		checkDeeds(t, fmt.Sprint(what, ", Deeds of ", z), a.Deeds(z), m.deeds(z))
	}
	want, z, errno := m.tree()
	if errno == api.OK {
		checkTree(t, what, a, want, z)
	} else if x, z, got := a.Tree(); x != nil || z != 0 || got != errno {
		t.Errorf("%s: a tree at %d, %v, want %v", what, z, got, errno)
	}
}

// checkOpen: opened on a copy of d, whatever it has, an attic is as the model is; it tells the attic, the copy and the error.
func checkOpen(t *testing.T, what string, d *disk.Disk) (*attic.Attic, *disk.Disk, api.Errno) {
	t.Helper()
	real, like := d.Copy(), d.Copy()
	a, errno := attic.Open(real, boot())
	m, want := openModel(like, boot())
	checkErrno(t, what, errno, want)
	if errno != api.OK {
		if a != nil {
			t.Errorf("%s: an attic beside %v", what, errno)
		}
		checkSameDisk(t, what+": beside an error", real, d)
		return nil, real, errno
	}
	checkLike(t, what, a, real, m)
	return a, real, api.OK
}
