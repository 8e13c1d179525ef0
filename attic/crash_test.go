package attic_test

import (
	"bytes"
	"fmt"
	"math"
	"slices"
	"strings"
	"testing"

	"beadle/api"
	"beadle/attic"
	"beadle/disk"
	"beadle/journal"
	"beadle/testkit"
	"beadle/tree"
)

// P16.7, P9

// keeps: how many bytes crashes leave.
func keeps() []int {
	return []int{math.MinInt, -1, 0, 1, 7, 8, 12, 13, 14, 15, 20, 100, 300, 330, 700, 1500, 2047, 2048, 3000, math.MaxInt}
}

// truth: what is known of an attic, and how much of it stays.
type truth struct {
	boots, accepted, current int
	image                    []byte
	base, to                 api.Zxid
	all                      []api.Deed // appended, and not cut, those below the base too
	synced                   api.Zxid   // up to here
}

// above: the deeds above the base, up to z.
func (k truth) above(z api.Zxid) []api.Deed {
	var out []api.Deed
	for _, x := range k.all {
		if x.Zxid > k.base && x.Zxid <= z {
			out = append(out, x)
		}
	}
	return out
}

func (k truth) last() api.Zxid {
	if len(k.all) == 0 {
		return k.base
	}
	return max(k.base, k.all[len(k.all)-1].Zxid)
}

// fault: what of the attic on d, which is opened anew, is not so; none, if all is.
func (k truth) fault(d *disk.Disk) string {
	a, errno := attic.Open(d, boot())
	if errno != api.OK {
		return fmt.Sprint("Open: ", errno)
	}
	if got, want := tellPaper(a), [3]int{k.boots + 1, k.accepted, k.current}; got != want {
		return fmt.Sprintf("boots, accepted, current: %v, want %v", got, want)
	}
	if !bytes.Equal(a.Image(), k.image) || a.Base() != k.base {
		return fmt.Sprintf("another image, from %d, want %d", a.Base(), k.base)
	}
	got, must := a.Deeds(0), k.above(k.synced)
	all := k.above(math.MaxInt64)
	if len(got) < len(must) || len(got) > len(all) || !sameDeeds(got, all[:len(got)]) {
		return fmt.Sprintf("deeds %v of %v, of which %v are synced", zxids(got), zxids(all), zxids(must))
	}
	if want := max(k.base, lastOf(got)); a.Last() != want {
		return fmt.Sprintf("Last is %d, want %d", a.Last(), want)
	}
	x, z, errno := a.Tree()
	if whole := len(k.image) == 0 || a.Last() >= k.to; whole && (errno != api.OK || z != k.to || !tree.Same(x, k.tree())) {
		return fmt.Sprintf("a tree at %d, %v, want one at %d", z, errno, k.to)
	}
	return ""
}

// tree: that of the image, which all deeds of the row make. (What the image stands for may be purged.)
func (k truth) tree() *tree.Tree {
	if len(k.image) == 0 {
		return tree.New()
	}
	return treeOf(row(1, k.to), k.to)
}

func lastOf(deeds []api.Deed) api.Zxid {
	if len(deeds) == 0 {
		return 0
	}
	return deeds[len(deeds)-1].Zxid
}

// begun: an attic with epochs, deeds 1 to 20 of which 1 to 10 are synced by name, and an image, if has; its disk, and what is known of it.
func begun(t *testing.T, has bool) (*attic.Attic, *disk.Disk, truth) {
	t.Helper()
	deeds := row(1, 20)
	a, d := atticOf(t, deeds[:10]...)
	a.SetEpochs(3, 2)
	k := truth{boots: 1, accepted: 3, current: 2, synced: 10, all: deeds}
	if has {
		k.base, k.to = 2, 4
		k.image = imageOf(deeds, 2, 4)
		checkErrno(t, "Store", a.Store(k.image), api.OK)
	}
	a.Sync()
	mustAppend(t, a, deeds[10:]...)
	return a, d, k
}

// act: one of the steps that a call takes.
type act func(d *disk.Disk)

// writing: the acts that put b to the file name and rename it to another.
func writing(name string, b []byte, to string) []act {
	return []act{
		func(d *disk.Disk) { d.Remove(name) },
		func(d *disk.Disk) { d.Append(name, b) },
		func(d *disk.Disk) { d.Sync(name) },
		func(d *disk.Disk) { d.Rename(name, to) },
	}
}

func syncing(names ...string) []act {
	var out []act
	for _, name := range names {
		out = append(out, func(d *disk.Disk) { d.Sync(name) })
	}
	return out
}

func removing(names ...string) []act {
	var out []act
	for _, name := range names {
		out = append(out, func(d *disk.Disk) { d.Remove(name) })
	}
	return out
}

// crashing: after each of the acts, done to a copy of d, with each number of bytes kept, the attic is one of those that may be; behind the last act it is the last of them, and the disk is as want is.
func crashing(t *testing.T, what string, d *disk.Disk, acts []act, want *disk.Disk, may ...truth) {
	t.Helper()
	now := d.Copy()
	for i := range len(acts) + 1 {
		if i > 0 {
			acts[i-1](now)
		}
		if i == len(acts) {
			checkSameDisk(t, what+": all acts", now, want)
			may = may[len(may)-1:]
		}
		for _, keep := range keeps() {
			checkOneOf(t, fmt.Sprintf("%s: %d acts of %d, %d bytes kept", what, i, len(acts), keep), now, keep, may...)
		}
	}
}

// checkOneOf: crashed so, what is on d is one of those that may be, and it stays so, if it crashes again.
func checkOneOf(t *testing.T, what string, d *disk.Disk, keep int, may ...truth) {
	t.Helper()
	faults := ""
	for _, k := range may {
		crashed := d.Copy()
		crashed.Crash(keep)
		fault := k.fault(crashed)
		if fault == "" {
			crashed.Crash(0)
			k.boots++
			if again := k.fault(crashed); again != "" {
				t.Errorf("%s, and once more: %s", what, again)
			}
			return
		}
		faults += "\n" + fault
	}
	t.Fatalf("%s:%s", what, faults)
}

// journalFiles: those that d has.
func journalFiles(d *disk.Disk) []string {
	return slices.DeleteFunc(d.List(), func(name string) bool { return !strings.Contains(name, ".") })
}

func TestCrashesInSetEpochs(t *testing.T) {
	for _, has := range []bool{false, true} {
		a, d, old := begun(t, has)
		before := d.Copy()
		checkErrno(t, "SetEpochs", a.SetEpochs(7, 5), api.OK)
		next := old
		next.accepted, next.current = 7, 5
		image := int64(0)
		if has {
			image = 1
		}
		crashing(t, fmt.Sprint("an image: ", has), before, writing("next", paperOf(0, 1, 7, 5, image), "now"), d, old, next)
	}
}

// TestCrashesInStore: in the order that the chapter tells, and in that in which all is written ahead of all renames.
func TestCrashesInStore(t *testing.T) {
	for _, has := range []bool{false, true} {
		for _, to := range []api.Zxid{8, 13, 20} {
			a, d, old := begun(t, has)
			before := d.Copy()
			next := old
			next.image, next.base, next.to, next.synced = imageOf(old.all, 8, to), 8, to, 20
			checkErrno(t, "Store", a.Store(next.image), api.OK)
			sync := syncing(journalFiles(before)...)
			image := writing("new", next.image, "i0")
			purge := removing(journalFiles(before)[:len(journalFiles(before))-len(journalFiles(d))]...)
			var paper []act
			if !has {
				paper = writing("next", paperOf(0, 1, 3, 2, 1), "now")
			}
			what := fmt.Sprintf("an image: %v, to %d", has, to)
			crashing(t, what, before, slices.Concat(sync, image, paper, purge), d, old, next)
			ahead, behind := image[:3:3], image[3:]
			if !has {
				ahead, behind = slices.Concat(ahead, paper[:3]), slices.Concat(behind, paper[3:])
			}
			crashing(t, what, before, slices.Concat(ahead, sync, behind, purge), d, old, next)
		}
	}
}

func TestCrashesInInstall(t *testing.T) {
	for _, has := range []bool{false, true} {
		a, d, old := begun(t, has)
		before := d.Copy()
		next := old
		next.image, next.base, next.to, next.synced, next.all = imageOf(row(1, 30), 25, 28), 25, 28, 0, nil
		checkErrno(t, "Install", a.Install(next.image), api.OK)
		direct := []act{func(d *disk.Disk) { d.Append("i1", next.image) }, func(d *disk.Disk) { d.Sync("i1") }}
		image := writing("new", next.image, "i1")
		paper := writing("next", paperOf(1, 1, 3, 2, 1), "now")
		gone := removing(append(journalFiles(before), "i0")...)
		what := fmt.Sprint("an image: ", has)
		crashing(t, what, before, slices.Concat(direct, paper, gone), d, old, next)
		crashing(t, what, before, slices.Concat(image[:3], paper[:3], image[3:], paper[3:], gone), d, old, next)
		slices.Reverse(gone)
		crashing(t, what, before, slices.Concat(image, paper, gone), d, old, next)
	}
}

// TestCrashesInOpen: till the paper is renamed boots is as it was.
func TestCrashesInOpen(t *testing.T) {
	for _, has := range []bool{false, true} {
		_, d, old := begun(t, has)
		left := []string{"gb.0000000000", "gc.0000000001", "i7", "new"}
		for _, name := range left {
			putLoose(d, name, bare(1, 1, boot()))
		}
		d.Crash(100)
		before := d.Copy()
		a := mustOpen(t, d)
		old.synced = a.Last()
		next := old
		next.boots++
		image := int64(0)
		if has {
			image = 1
		}
		mend := func(d *disk.Disk) { journal.Open(d, "ga") }
		paper := writing("next", paperOf(0, 2, 3, 2, image), "now")
		crashing(t, fmt.Sprint("an image: ", has), before, slices.Concat([]act{mend}, removing(left...), paper), d, old, next)
	}
}

// TestCrashesInCut: it changes one file at a time.
func TestCrashesInCut(t *testing.T) {
	for _, z := range []api.Zxid{4, 7, 8, 12, 16, 19} {
		a, d, old := begun(t, true)
		before := d.Copy()
		checkErrno(t, "Cut", a.Cut(z), api.OK)
		left := len(journalFiles(d))
		gone := journalFiles(before)[left:]
		slices.Reverse(gone)
		end := d.List()[left-1]
		b, _ := d.Read(end)
		acts := removing(gone...)
		if whole, _ := before.Read(end); len(whole) != len(b) {
			acts = append(acts, func(d *disk.Disk) { d.Cut(end, len(b)) })
		}
		next := old
		next.all = old.all[:z]
		next.synced = min(z, old.synced)
		old.synced = next.synced
		crashing(t, fmt.Sprintf("Cut(%d)", z), before, acts, d, old, next)
	}
}

// tour: an attic on its disk, the model on another one, and what is known of it.
type tour struct {
	t *testing.T
	d *disk.Disk
	a *attic.Attic
	m *model
	truth
	said map[api.Errno]int
}

func newTour(t *testing.T, room int) *tour {
	r := &tour{t: t, d: disk.New(room), said: map[api.Errno]int{}}
	r.a = mustOpen(t, r.d)
	r.m, _ = openModel(disk.New(room), boot())
	r.boots = 1
	return r
}

// told: both answered the same; it tells whether that is OK.
func (r *tour) told(what string, got, want api.Errno) bool {
	r.t.Helper()
	checkErrno(r.t, what, got, want)
	r.said[got]++
	return got == api.OK
}

func (r *tour) append(x api.Deed) {
	r.t.Helper()
	if r.told(fmt.Sprint("Append of ", x.Zxid), r.a.Append(x), r.m.append(x)) {
		r.all = append(r.all[:len(r.all):len(r.all)], x)
	}
}

func (r *tour) sync() {
	r.told("Sync", r.a.Sync(), r.m.j.Sync())
	r.synced = r.last()
}

func (r *tour) cut(z api.Zxid) {
	if r.told(fmt.Sprintf("Cut(%d)", z), r.a.Cut(z), r.m.cut(z)) {
		r.all = slices.DeleteFunc(slices.Clone(r.all), func(x api.Deed) bool { return x.Zxid > z })
		r.synced = min(r.synced, r.last())
	}
}

func (r *tour) setEpochs(accepted, current int) {
	if r.told("SetEpochs", r.a.SetEpochs(accepted, current), r.m.setEpochs(accepted, current)) {
		r.accepted, r.current = accepted, current
	}
}

func (r *tour) store(from, to api.Zxid) {
	b := imageOf(row(1, to), from, to)
	if r.told("Store", r.a.Store(b), r.m.store(b)) {
		r.image, r.base, r.to, r.synced = b, from, to, r.last()
	}
}

func (r *tour) install(from, to api.Zxid) {
	b := imageOf(row(1, to), from, to)
	if r.told("Install", r.a.Install(b), r.m.install(b)) {
		r.image, r.base, r.to, r.synced, r.all = b, from, to, 0, nil
	}
}

// reopen: whether there was room for it. What could not be opened is as it was.
func (r *tour) reopen() bool {
	a, errno := attic.Open(r.d, boot())
	m, want := openModel(r.m.d, boot())
	if !r.told("Open", errno, want) {
		checkSameDisk(r.t, "Open: full", r.d, r.m.d)
		return false
	}
	r.a, r.m = a, m
	r.boots++
	return true
}

// crash: whether the attic could be opened again; what it has then is synced.
func (r *tour) crash(keep int) bool {
	r.d.Crash(keep)
	r.m.d.Crash(keep)
	if !r.reopen() {
		return false
	}
	r.all = r.a.Deeds(0)
	r.synced = r.last()
	return true
}

// step: one act of many, chosen by next; whether the attic is open still.
func (r *tour) step(next func(int) int) (string, bool) {
	z := r.last() + 2 - api.Zxid(next(12)*next(3))
	switch next(20) {
	case 0, 1:
		r.sync()
		return "Sync", true
	case 2:
		r.cut(z)
		return "Cut", true
	case 3:
		return "Open", r.reopen()
	case 4, 5:
		keep := keeps()[next(len(keeps()))]
		return fmt.Sprint("Crash ", keep), r.crash(keep)
	case 6:
		r.append(testkit.WrongDeeds()[next(len(testkit.WrongDeeds()))])
		return "Append of a wrong deed", true
	case 7:
		near := r.base + 1 - api.Zxid(next(3))
		r.append(row(near, near)[0])
		return "Append near the base", true
	case 8:
		r.setEpochs(r.accepted+next(4)-1, r.current+next(4)-1)
		return "SetEpochs", true
	case 9:
		from := max(z-api.Zxid(next(9)), 0)
		r.install(from, from+api.Zxid(next(3)))
		return "Install", true
	case 10, 11, 12:
		from := max(z-api.Zxid(next(5)), 0)
		r.store(from, max(z, from))
		return "Store", true
	}
	for range 1 + next(5) {
		r.append(row(r.last()+1, r.last()+1)[0])
	}
	return "Append", true
}

// check: the attic is as the model is, and copies of its disk that crash are what they may be.
func (r *tour) check(what string, keeps ...int) {
	r.t.Helper()
	checkLike(r.t, what, r.a, r.d, r.m)
	for _, keep := range keeps {
		crashed := r.d.Copy()
		crashed.Crash(keep)
		if fault := r.fault(crashed); fault != "" && !strings.HasSuffix(fault, api.ErrFull.Error()) {
			r.t.Fatalf("%s, crashed with %d bytes kept: %s", what, keep, fault)
		}
	}
}

// TestManySteps: long mixed rows of acts, on disks that have room and on such that have little.
func TestManySteps(t *testing.T) {
	next := testkit.Walk()
	said := map[api.Errno]int{}
	files, generations := 0, int64(0)
	for round := range 24 {
		r := newTour(t, []int{1 << 20, 12000, 6000, 3000}[round%4])
		for i := range 80 {
			act, open := r.step(next)
			if !open {
				break
			}
			r.check(fmt.Sprintf("round %d, step %d: %s", round, i, act), next(1000), keeps()[next(len(keeps()))])
			files = max(files, len(r.d.List()))
			generations = max(generations, r.m.paper()[0])
			if t.Failed() {
				return
			}
		}
		for errno, times := range r.said {
			said[errno] += times
		}
	}
	if said[api.OK] < 1000 || said[api.ErrArg] < 200 || said[api.ErrFull] < 100 || files < 6 || generations < 5 {
		t.Errorf("what was answered: %v; %d files, %d generations at the most", said, files, generations)
	}
}

// TestSyncedIsThereAfterAnyCrashes: P9, for a row that grows between crashes.
func TestSyncedIsThereAfterAnyCrashes(t *testing.T) {
	for _, keep := range keeps() {
		a, d := atticOf(t)
		for z := api.Zxid(1); z < 60; z += 3 {
			what := fmt.Sprintf("%d bytes kept, synced up to %d", keep, z)
			mustAppend(t, a, row(a.Last()+1, z)...)
			a.SetEpochs(int(z), int(z)-1)
			a.Sync()
			mustAppend(t, a, row(z+1, z+2)...)
			d.Crash(keep)
			a = mustOpen(t, d)
			if a.Last() < z || a.Last() > z+2 || a.Accepted() != int(z) || a.Current() != int(z)-1 {
				t.Fatalf("%s: Last %d, %v", what, a.Last(), tellPaper(a))
			}
			checkDeeds(t, what, a.Deeds(0), row(1, a.Last()))
		}
	}
}

// R1

// TestFilesThatOthersChange: nothing is promised of an attic then, but that its calls end without a panic, and that one that is opened again is as its disk is.
func TestFilesThatOthersChange(t *testing.T) {
	next := testkit.Walk()
	for range 200 {
		a, d, _ := begun(t, next(2) == 1)
		for range 1 + next(6) {
			names := append(d.List(), "new", "next", "i0", "i1", "gb.0000000000")
			name := names[next(len(names))]
			switch next(5) {
			case 0:
				d.Remove(name)
			case 1:
				b, _ := d.Read(name)
				d.Cut(name, next(len(b)+1))
			case 2:
				d.Append(name, []byte("others'"))
			case 3:
				d.Rename(name, names[next(len(names))])
			case 4:
				d.Crash(next(1000))
			}
			a.Append(grown(a.Last()+1, next(900)))
			a.Sync()
			a.SetEpochs(a.Accepted()+1, a.Current()+1)
			a.Tree()
			a.Configs()
			a.Cut(a.Last() - api.Zxid(next(5)))
			from := max(a.Last()-api.Zxid(next(5)), 0)
			a.Store(bare(from, from, boot()))
			if next(3) == 0 {
				a.Install(bare(from, from+1, boot()))
			}
		}
		checkOpen(t, "opened again", d)
	}
}
