package journal_test

import (
	"bytes"
	"fmt"
	"regexp"
	"slices"
	"strconv"
	"testing"

	"beadle/api"
	"beadle/deed"
	"beadle/disk"
	"beadle/journal"
	"beadle/segment"
	"beadle/testkit"
)

const (
	segSize   = 2048
	maxNumber = 9999999999
)

// model: a journal as the chapter's words tell it. It knows its disk and its name alone, and reads all files anew whenever it is asked.
type model struct {
	d    *disk.Disk
	name string
}

// openModel: as Open does it, to d itself.
func openModel(d *disk.Disk, name string) *model {
	m := &model{d, name}
	last := api.Zxid(0)
	files := m.files()
	for i, file := range files {
		b, _ := d.Read(file)
		deeds, ends, _ := segment.Scan(b)
		taken := 0
		for k, x := range deeds {
			if x.Zxid <= last {
				break
			}
			last, taken = x.Zxid, ends[k]
		}
		if taken > 0 && taken == len(b) {
			continue
		}
		for _, behind := range files[i+1:] {
			d.Remove(behind)
		}
		if taken == 0 {
			d.Remove(file)
		} else {
			d.Cut(file, taken)
		}
		break
	}
	return m
}

func (m *model) files() []string {
	var out []string
	form := regexp.MustCompile("^" + m.name + `\.[0-9]{10}$`)
	for _, file := range m.d.List() {
		if form.MatchString(file) {
			out = append(out, file)
		}
	}
	return out
}

func (m *model) deedsOf(file string) []api.Deed {
	b, _ := m.d.Read(file)
	deeds, _, _ := segment.Scan(b)
	return deeds
}

func (m *model) from(z api.Zxid) []api.Deed {
	var out []api.Deed
	for _, file := range m.files() {
		for _, x := range m.deedsOf(file) {
			if x.Zxid > z {
				out = append(out, x)
			}
		}
	}
	return out
}

func (m *model) ends() (first, last api.Zxid) {
	if all := m.from(0); len(all) > 0 {
		return all[0].Zxid, all[len(all)-1].Zxid
	}
	return 0, 0
}

func (m *model) append(x api.Deed) api.Errno {
	if _, last := m.ends(); !deed.Right(x) || x.Zxid <= last {
		return api.ErrArg
	}
	files := m.files()
	to := fileName(m.name, 0)
	if len(files) > 0 {
		to = files[len(files)-1]
		if b, _ := m.d.Read(to); len(b) >= segSize {
			number, _ := strconv.Atoi(to[len(m.name)+1:])
			if number == maxNumber {
				return api.ErrFull
			}
			to = fileName(m.name, number+1)
		}
	}
	if m.d.Append(to, framed(x)) != api.OK {
		return api.ErrFull
	}
	if len(files) > 0 && files[len(files)-1] != to {
		m.d.Sync(files[len(files)-1])
	}
	return api.OK
}

func (m *model) sync() {
	for _, file := range m.files() {
		m.d.Sync(file)
	}
}

func (m *model) cut(z api.Zxid) {
	for _, file := range m.files() {
		var left []byte
		all := m.deedsOf(file)
		for _, x := range all {
			if x.Zxid <= z {
				left = append(left, framed(x)...)
			}
		}
		switch {
		case len(left) == 0:
			m.d.Remove(file)
		case all[len(all)-1].Zxid > z:
			m.d.Cut(file, len(left))
		}
	}
}

func (m *model) purge(z api.Zxid) {
	files := m.files()
	for i, file := range files {
		above := slices.ContainsFunc(m.deedsOf(file), func(x api.Deed) bool { return x.Zxid > z })
		if !above && i < len(files)-1 {
			m.d.Remove(file)
		}
	}
}

func fileName(name string, number int) string { return fmt.Sprintf("%s.%010d", name, number) }

// framed: the bytes of a right deed.
func framed(x api.Deed) []byte {
	b, errno := segment.Put(x)
	if errno != api.OK {
		panic(fmt.Sprintf("%+v: %v", x, errno))
	}
	return b
}

// rowOf: the bytes of right deeds, one behind the other.
func rowOf(deeds ...api.Deed) []byte {
	var b []byte
	for _, x := range deeds {
		b = append(b, framed(x)...)
	}
	return b
}

// small: deeds of 14 bytes each, as long as zxids are below 64.
func small(zxids ...api.Zxid) []api.Deed {
	var out []api.Deed
	for _, z := range zxids {
		out = append(out, api.Deed{Zxid: z, Kind: api.DeedSync})
	}
	return out
}

// sized: a deed of so many bytes, from 20 to 1000.
func sized(z api.Zxid, size int) api.Deed {
	x := api.Deed{Zxid: z, Kind: api.DeedSet, Path: "/"}
	most := size - len(framed(x))
	// How long the data is, takes two bytes if there is much of it.
	for _, length := range []int{most, most - 1} {
		x.Data = bytes.Repeat([]byte{byte(z)}, length)
		if len(framed(x)) == size {
			return x
		}
	}
	panic(fmt.Sprintf("there is no deed %d of %d bytes", z, size))
}

// put: a file of these bytes, synced.
func put(d *disk.Disk, file string, b []byte) {
	putLoose(d, file, b)
	d.Sync(file)
}

// putLoose: a file of these bytes, not synced.
func putLoose(d *disk.Disk, file string, b []byte) {
	if errno := d.Append(file, b); errno != api.OK {
		panic(fmt.Sprint(file, ": ", errno))
	}
}

func zxids(deeds []api.Deed) []api.Zxid {
	var out []api.Zxid
	for _, x := range deeds {
		out = append(out, x.Zxid)
	}
	return out
}

// upTo: the zxids from a to b.
func upTo(a, b api.Zxid) []api.Zxid {
	var out []api.Zxid
	for z := a; z <= b; z++ {
		out = append(out, z)
	}
	return out
}

// isBeginning: of all deeds these are the first.
func isBeginning(deeds, all []api.Deed) bool {
	return len(deeds) <= len(all) && bytes.Equal(rowOf(deeds...), rowOf(all[:len(deeds)]...))
}

// mustOpen: the journal x.
func mustOpen(t *testing.T, d *disk.Disk) *journal.Journal {
	t.Helper()
	j, errno := journal.Open(d, "x")
	if errno != api.OK || j == nil {
		t.Fatalf("Open: %v, %v", j, errno)
	}
	return j
}

// journalOf: the journal x on a new disk, with these deeds, none of them synced by name.
func journalOf(t *testing.T, deeds ...api.Deed) (*journal.Journal, *disk.Disk) {
	t.Helper()
	d := disk.New(1 << 24)
	j := mustOpen(t, d)
	appendAll(t, j, deeds...)
	return j, d
}

func appendAll(t *testing.T, j *journal.Journal, deeds ...api.Deed) {
	t.Helper()
	for _, x := range deeds {
		checkErrno(t, fmt.Sprint("Append of ", x.Zxid), j.Append(x), api.OK)
	}
}

func checkErrno(t *testing.T, what string, got, want api.Errno) {
	t.Helper()
	if got != want {
		t.Errorf("%s: %v, want %v", what, got, want)
	}
}

// checkDeeds: the journal has just these, and tells them by all its calls.
func checkDeeds(t *testing.T, what string, j *journal.Journal, want ...api.Deed) {
	t.Helper()
	if got := j.From(0); !bytes.Equal(rowOf(got...), rowOf(want...)) {
		t.Errorf("%s: %v, want %v", what, zxids(got), zxids(want))
	}
	first, last := api.Zxid(0), api.Zxid(0)
	if len(want) > 0 {
		first, last = want[0].Zxid, want[len(want)-1].Zxid
	}
	if j.First() != first || j.Last() != last {
		t.Errorf("%s: First %d, Last %d, want %d, %d", what, j.First(), j.Last(), first, last)
	}
}

func checkList(t *testing.T, what string, d *disk.Disk, want ...string) {
	t.Helper()
	if got := d.List(); !slices.Equal(got, want) {
		t.Errorf("%s: files %q, want %q", what, got, want)
	}
}

// checkFile: the file has just these bytes, so many of them synced.
func checkFile(t *testing.T, what string, d *disk.Disk, file string, want []byte, synced int) {
	t.Helper()
	if got, errno := d.Read(file); !bytes.Equal(got, want) || errno != api.OK {
		t.Errorf("%s: %s: %d bytes, %v, want %d", what, file, len(got), errno, len(want))
	}
	if got := syncedOf(d, file); got != synced {
		t.Errorf("%s: %s: %d bytes are synced, want %d", what, file, got, synced)
	}
}

// syncedOf: how many bytes of a file are synced, told by a crash of a copy.
func syncedOf(d *disk.Disk, file string) int {
	other := d.Copy()
	other.Crash(0)
	b, _ := other.Read(file)
	return len(b)
}

func checkSameDisk(t *testing.T, what string, got, want *disk.Disk) {
	t.Helper()
	if a, b := testkit.TellDisk(got), testkit.TellDisk(want); a != b {
		t.Fatalf("%s: the disk has\n%.2000s\nwant\n%.2000s", what, a, b)
	}
}

// checkLike: the journal, which works on d, is as the model is, which works on its own disk.
func checkLike(t *testing.T, what string, j *journal.Journal, d *disk.Disk, m *model) {
	t.Helper()
	checkSameDisk(t, what, d, m.d)
	checkDeeds(t, what, j, m.from(0)...)
}

// checkOpen: opened on d, whatever it has, a journal is as the model is; d stays as it is. It tells the journal's deeds.
func checkOpen(t *testing.T, what string, d *disk.Disk) []api.Deed {
	t.Helper()
	real, like := d.Copy(), d.Copy()
	j := mustOpen(t, real)
	checkLike(t, what, j, real, openModel(like, "x"))
	checkLike(t, what+", once more", mustOpen(t, real), real, openModel(like, "x"))
	return j.From(0)
}

// tellAll: all of a deed, the spare room of its lists too.
func tellAll(x api.Deed) string {
	text := fmt.Sprintf("%+v %v %v %+v\n", x, x.Data[:cap(x.Data)], x.Config.Members[:cap(x.Config.Members)], x.Parts[:cap(x.Parts)])
	for _, part := range x.Parts {
		text += tellAll(part)
	}
	return text
}
