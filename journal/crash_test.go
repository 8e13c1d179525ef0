package journal_test

import (
	"fmt"
	"math"
	"slices"
	"testing"

	"beadle/api"
	"beadle/disk"
	"beadle/journal"
	"beadle/testkit"
)

// P15.5

// keeps: how many bytes crashes leave.
func keeps() []int {
	return []int{math.MinInt, -1, 0, 1, 13, 14, 15, 20, 99, 100, 101, 500, 900, 1000, 1800, 2000, 2047, 2048, 2100, 3000, math.MaxInt}
}

// tour: a journal on its disk, the model on another one, and what the promise says of crashes: all deeds, and how many of them must stay.
type tour struct {
	t      *testing.T
	d      *disk.Disk
	j      *journal.Journal
	m      *model
	all    []api.Deed
	synced int
	time   int64 // makes each deed another one, though its zxid has been there
	said   map[api.Errno]int
}

func newTour(t *testing.T, room int) *tour {
	r := &tour{t: t, d: disk.New(room), said: map[api.Errno]int{}}
	r.j = mustOpen(t, r.d)
	r.m = openModel(disk.New(room), "x")
	return r
}

func (r *tour) last() api.Zxid {
	if len(r.all) == 0 {
		return 0
	}
	return r.all[len(r.all)-1].Zxid
}

func (r *tour) append(x api.Deed) {
	r.t.Helper()
	r.time++
	x.Time = r.time
	errno := r.j.Append(x)
	checkErrno(r.t, fmt.Sprint("Append of ", x.Zxid), errno, r.m.append(x))
	r.said[errno]++
	if errno == api.OK {
		r.all = append(r.all, x)
	}
}

func (r *tour) sync() {
	checkErrno(r.t, "Sync", r.j.Sync(), api.OK)
	r.m.sync()
	r.synced = len(r.all)
}

func (r *tour) cut(z api.Zxid) {
	checkErrno(r.t, "Cut", r.j.Cut(z), api.OK)
	r.m.cut(z)
	r.all = slices.DeleteFunc(r.all, func(x api.Deed) bool { return x.Zxid > z })
	r.synced = min(r.synced, len(r.all))
}

func (r *tour) purge(z api.Zxid) {
	checkErrno(r.t, "Purge", r.j.Purge(z), api.OK)
	r.m.purge(z)
	for len(r.all) > 0 && r.all[0].Zxid < r.j.First() {
		if r.all[0].Zxid > z {
			r.t.Errorf("Purge(%d): %d is gone", z, r.all[0].Zxid)
		}
		r.all = r.all[1:]
		r.synced = max(r.synced-1, 0)
	}
}

func (r *tour) reopen() {
	r.j = mustOpen(r.t, r.d)
	r.m = openModel(r.m.d, "x")
}

func (r *tour) crash(keep int) {
	r.d.Crash(keep)
	r.m.d.Crash(keep)
	r.reopen()
	r.all = r.j.From(0)
	r.synced = len(r.all)
}

// check: all is as it should be, and copies that crash are, too.
func (r *tour) check(what string, keeps ...int) {
	r.t.Helper()
	checkLike(r.t, what, r.j, r.d, r.m)
	checkDeeds(r.t, what, r.j, r.all...)
	checkDeeds(r.t, what+", opened again", mustOpen(r.t, r.d.Copy()), r.all...)
	for _, keep := range keeps {
		other := r.d.Copy()
		other.Crash(keep)
		got := mustOpen(r.t, other).From(0)
		if !isBeginning(got, r.all) || len(got) < r.synced {
			r.t.Errorf("%s, crashed with %d bytes kept: %v, had %v, the first %d synced", what, keep, zxids(got), zxids(r.all), r.synced)
		}
		again := mustOpen(r.t, other)
		checkDeeds(r.t, what+", crashed and opened twice", again, got...)
		other.Crash(0)
		checkDeeds(r.t, what+", crashed twice", mustOpen(r.t, other), got...)
	}
}

// TestCrashesOfARow: after each append, with each number of bytes kept, and a sync somewhere.
func TestCrashesOfARow(t *testing.T) {
	row := longRow()
	for synced := range len(row) + 1 {
		r := newTour(t, 1<<20)
		for i, x := range row {
			if i == synced {
				r.sync()
			}
			r.append(x)
			r.check(fmt.Sprintf("%d deeds, synced behind %d", i+1, synced), keeps()...)
		}
	}
}

// TestCrashesBehindCuts: what was cut or purged stays gone; what was put in its place is as any other.
func TestCrashesBehindCuts(t *testing.T) {
	for _, synced := range []bool{false, true} {
		for _, z := range []api.Zxid{0, 2, 7, 8, 9, 16, 17, 20, 28, 29, 30, 32} {
			for _, purged := range []bool{false, true} {
				r := newTour(t, 1<<20)
				for _, x := range longRow() {
					r.append(x)
				}
				if synced {
					r.sync()
				}
				what := fmt.Sprintf("at %d, synced: %v, purged: %v", z, synced, purged)
				if purged {
					r.purge(z)
				} else {
					r.cut(z)
				}
				r.check(what, keeps()...)
				for _, size := range []int{100, 1000, 900, 300, 14} {
					x := small(r.last() + 1)[0]
					if size > 14 {
						x = sized(r.last()+1, size)
					}
					r.append(x)
					r.check(what+", and on", keeps()...)
				}
			}
		}
	}
}

// step: one act of many, chosen by next.
func (r *tour) step(next func(int) int) string {
	around := func() api.Zxid { return r.last() + 2 - api.Zxid(next(12)*next(3)) }
	switch next(16) {
	case 0:
		r.sync()
		return "Sync"
	case 1:
		r.cut(around())
		return "Cut"
	case 2:
		r.purge(around())
		return "Purge"
	case 3:
		r.reopen()
		return "Open"
	case 4:
		keep := keeps()[next(len(keeps()))]
		r.crash(keep)
		return fmt.Sprint("Crash ", keep)
	case 5:
		r.append(small(r.last() - api.Zxid(next(3)))[0])
		return "Append of a zxid that is not above"
	case 6:
		r.append(testkit.WrongDeeds()[next(len(testkit.WrongDeeds()))])
		return "Append of a wrong deed"
	case 7, 8:
		r.append(testkit.AnyDeed(next, r.last()+1+api.Zxid(next(3))))
		return "Append of any deed"
	}
	r.append(sized(r.last()+1+api.Zxid(next(2)), 100+next(900)))
	return "Append"
}

// TestManySteps: long mixed rows of acts, on disks that have room and on such that have little.
func TestManySteps(t *testing.T) {
	next := testkit.Walk()
	said := map[api.Errno]int{}
	files := 0
	for round := range 20 {
		r := newTour(t, []int{1 << 20, 9000, 5000, 2500}[round%4])
		for i := range 150 {
			what := fmt.Sprintf("round %d, step %d: %s", round, i, r.step(next))
			r.check(what, next(3000), next(100), keeps()[next(len(keeps()))])
			files = max(files, len(r.d.List()))
			if t.Failed() {
				return
			}
		}
		for errno, times := range r.said {
			said[errno] += times
		}
	}
	if said[api.OK] < 800 || said[api.ErrArg] < 100 || said[api.ErrFull] < 100 || files < 4 {
		t.Errorf("what was answered: %v; %d files at the most", said, files)
	}
}

// TestMidstOfACut: files go one at a time, from the last one on, then one is cut: whatever stands between is a beginning, with all that shall stay.
func TestMidstOfACut(t *testing.T) {
	_, whole := journalOf(t, longRow()...)
	files := whole.List()
	for crashed := range 2 {
		for left := len(files); left >= 0; left-- {
			d := whole.Copy()
			for _, file := range files[left:] {
				d.Remove(file)
			}
			if crashed == 1 {
				d.Crash(0)
			}
			got := checkOpen(t, fmt.Sprint(left, " files are left"), d)
			want := []int{0, 3, 6, 10, 11}[left]
			if left == 4 && crashed == 1 {
				want = 10
			}
			if !isBeginning(got, longRow()) || len(got) != want {
				t.Errorf("%d files are left: %v", left, zxids(got))
			}
		}
	}
}

// TestMidstOfAPurge: files go one at a time, from the first one on.
func TestMidstOfAPurge(t *testing.T) {
	_, whole := journalOf(t, longRow()...)
	files := whole.List()
	for gone := range files {
		d := whole.Copy()
		for _, file := range files[:gone] {
			d.Remove(file)
		}
		got := checkOpen(t, fmt.Sprint(gone, " files are gone"), d)
		if want := longRow()[[]int{0, 3, 6, 10}[gone]:]; !slices.Equal(zxids(got), zxids(want)) {
			t.Errorf("%d files are gone: %v, want %v", gone, zxids(got), zxids(want))
		}
	}
}

// R1

// TestFilesThatOthersChange: nothing is promised of a journal then, but that its calls end without a panic, and that one that is opened again is as its disk is.
func TestFilesThatOthersChange(t *testing.T) {
	next := testkit.Walk()
	for range 300 {
		j, d := journalOf(t, longRow()...)
		for range 1 + next(6) {
			file := fileName("x", next(6))
			switch next(5) {
			case 0:
				d.Remove(file)
			case 1:
				b, _ := d.Read(file)
				d.Cut(file, next(len(b)+1))
			case 2:
				d.Append(file, []byte("others'"))
			case 3:
				d.Rename(file, fileName("x", next(6)))
			case 4:
				d.Crash(next(1000))
			}
			j.Append(sized(j.Last()+1, 100+next(900)))
			j.Sync()
			j.Purge(api.Zxid(next(40)))
			j.Cut(api.Zxid(next(60)))
			j.Cut(j.Last() - 1)
			if got := j.From(0); len(got) > 0 && (got[0].Zxid != j.First() || got[len(got)-1].Zxid != j.Last()) {
				t.Errorf("%v, First %d, Last %d", zxids(got), j.First(), j.Last())
			}
		}
		checkOpen(t, "opened again", d)
	}
}
