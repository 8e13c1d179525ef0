package disk_test

import (
	"bytes"
	"slices"
	"testing"

	"beadle/api"
	"beadle/disk"
)

// cell: a byte of a file, and whether it is synced.
type cell struct {
	b      byte
	synced bool
}

// sheet: a file of the model.
type sheet struct {
	name  string
	cells []cell
}

// model: a disk as the chapter's Words tell it, its files in no order, each byte with a mark of its own.
type model struct {
	room   int
	sheets []sheet
}

func isModelName(s string) bool {
	for _, x := range []byte(s) {
		if bytes.IndexByte([]byte("abcdefghijklmnopqrstuvwxyz0123456789.-"), x) < 0 {
			return false
		}
	}
	return s != "" && len(s) < 31
}

func (m *model) at(name string) int {
	return slices.IndexFunc(m.sheets, func(s sheet) bool { return s.name == name })
}

func (m *model) used() int {
	n := 0
	for _, s := range m.sheets {
		n += len(s.cells)
	}
	return n
}

func (m *model) append(name string, b []byte) api.Errno {
	if !isModelName(name) {
		return api.ErrArg
	}
	i, had := m.at(name), 0
	if i >= 0 {
		had = len(m.sheets[i].cells)
	}
	if had+len(b) > 4194304 {
		return api.ErrLong
	}
	if m.used()+len(b) > max(m.room, 0) {
		return api.ErrFull
	}
	if i < 0 {
		i = len(m.sheets)
		m.sheets = append(m.sheets, sheet{name: name})
	}
	for _, x := range b {
		m.sheets[i].cells = append(m.sheets[i].cells, cell{b: x})
	}
	return api.OK
}

// shorten leaves a file's first n bytes, and marks them as synced.
func (m *model) shorten(i, n int) {
	var left []cell
	for _, c := range m.sheets[i].cells[:n] {
		left = append(left, cell{c.b, true})
	}
	m.sheets[i].cells = left
}

func (m *model) sync(name string) api.Errno {
	i := m.at(name)
	if i < 0 {
		return api.ErrNone
	}
	m.shorten(i, len(m.sheets[i].cells))
	return api.OK
}

func (m *model) cut(name string, n int) api.Errno {
	i := m.at(name)
	if i < 0 {
		return api.ErrNone
	}
	if n < 0 || n > len(m.sheets[i].cells) {
		return api.ErrArg
	}
	m.shorten(i, n)
	return api.OK
}

func (m *model) rename(from, to string) api.Errno {
	if !isModelName(from) || !isModelName(to) {
		return api.ErrArg
	}
	if m.at(from) < 0 {
		return api.ErrNone
	}
	if from == to {
		return api.OK
	}
	m.remove(to)
	m.sheets[m.at(from)].name = to
	return api.OK
}

func (m *model) remove(name string) api.Errno {
	i := m.at(name)
	if i < 0 {
		return api.ErrNone
	}
	m.sheets = slices.Delete(m.sheets, i, i+1)
	return api.OK
}

func (m *model) crash(keep int) {
	for i, s := range m.sheets {
		n, left := 0, keep
		for _, c := range s.cells {
			if !c.synced {
				if left < 1 {
					break
				}
				left--
			}
			n++
		}
		m.shorten(i, n)
	}
}

func (m *model) copy() *model {
	other := &model{room: m.room}
	for _, s := range m.sheets {
		other.sheets = append(other.sheets, sheet{s.name, slices.Clone(s.cells)})
	}
	return other
}

func (m *model) bytes(name string) ([]byte, api.Errno) {
	i := m.at(name)
	if i < 0 {
		return nil, api.ErrNone
	}
	var out []byte
	for _, c := range m.sheets[i].cells {
		out = append(out, c.b)
	}
	return out, api.OK
}

func (m *model) names() []string {
	var out []string
	for _, s := range m.sheets {
		out = append(out, s.name)
	}
	slices.Sort(out)
	return out
}

// checkFiles: the disk tells what the model tells.
func checkFiles(t *testing.T, what string, d *disk.Disk, m *model) {
	t.Helper()
	if got := d.List(); !slices.Equal(got, m.names()) {
		t.Errorf("%s: List %q, want %q", what, got, m.names())
	}
	if got := d.Used(); got != m.used() {
		t.Errorf("%s: Used %d, want %d", what, got, m.used())
	}
	for _, name := range append(m.names(), "a", "b", "c", "none", "", "A") {
		got, errno := d.Read(name)
		want, wantErrno := m.bytes(name)
		if !bytes.Equal(got, want) || errno != wantErrno {
			t.Errorf("%s: Read(%q): %d bytes %.40x, %v; want %d bytes %.40x, %v", what, name, len(got), got, errno, len(want), want, wantErrno)
		}
	}
}

// checkDisk: the disk is as the model is, in what no call tells, too: how far it is synced (told by crashes of copies) and its room (told by filling copies up).
func checkDisk(t *testing.T, what string, d *disk.Disk, m *model) {
	t.Helper()
	checkFiles(t, what, d, m)
	for _, keep := range []int{0, 1} {
		other, otherModel := d.Copy(), m.copy()
		other.Crash(keep)
		otherModel.crash(keep)
		checkFiles(t, what+", a copy crashed", other, otherModel)
	}
	if left := max(m.room, 0) - m.used(); left < 1000 {
		if errno := d.Copy().Append("left", make([]byte, left+1)); errno != api.ErrFull {
			t.Errorf("%s: a byte above the room of a copy: %v", what, errno)
		}
		if errno := d.Copy().Append("left", make([]byte, left)); errno != api.OK {
			t.Errorf("%s: the rest of the room of a copy: %v", what, errno)
		}
	}
	checkFiles(t, what+", after copies were changed", d, m)
}

func checkErrno(t *testing.T, what string, got, want api.Errno) {
	t.Helper()
	if got != want {
		t.Errorf("%s: %v, want %v", what, got, want)
	}
}

// checkRead: the file is there with these bytes.
func checkRead(t *testing.T, what string, d *disk.Disk, name, want string) {
	t.Helper()
	if got, errno := d.Read(name); string(got) != want || errno != api.OK {
		t.Errorf("%s: Read(%q): %.60q, %v; want %.60q", what, name, got, errno, want)
	}
}

// checkGone: there is no such file.
func checkGone(t *testing.T, what string, d *disk.Disk, name string) {
	t.Helper()
	if got, errno := d.Read(name); got != nil || errno != api.ErrNone {
		t.Errorf("%s: Read(%q): %.60q, %v; want ErrNone", what, name, got, errno)
	}
}

func checkList(t *testing.T, what string, d *disk.Disk, want ...string) {
	t.Helper()
	if got := d.List(); !slices.Equal(got, want) {
		t.Errorf("%s: List %q, want %q", what, got, want)
	}
}

func checkUsed(t *testing.T, what string, d *disk.Disk, want int) {
	t.Helper()
	if got := d.Used(); got != want {
		t.Errorf("%s: Used %d, want %d", what, got, want)
	}
}
