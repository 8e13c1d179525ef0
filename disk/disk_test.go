package disk_test

import (
	"bytes"
	"fmt"
	"math"
	"slices"
	"strings"
	"testing"

	"beadle/api"
	"beadle/disk"
	"beadle/testkit"
)

const maxFile = 1 << 22

// made: a disk of some room with a file of the name a, the first bytes of it synced.
func made(t *testing.T, room int, synced, loose string) *disk.Disk {
	t.Helper()
	d := disk.New(room)
	checkErrno(t, "Append", d.Append("a", []byte(synced)), api.OK)
	checkErrno(t, "Sync", d.Sync("a"), api.OK)
	checkErrno(t, "Append", d.Append("a", []byte(loose)), api.OK)
	return d
}

// The chapter's examples.

func TestExampleOfACrash(t *testing.T) {
	d := made(t, 10, "abcd", "efg")
	d.Crash(1)
	checkRead(t, "crashed", d, "a", "abcde")
	checkUsed(t, "crashed", d, 5)
	checkErrno(t, "Append(b, 6 bytes)", d.Append("b", make([]byte, 6)), api.ErrFull)
	checkErrno(t, "Append(b, none)", d.Append("b", nil), api.OK)
	checkList(t, "then", d, "a", "b")
}

func TestExampleOfARename(t *testing.T) {
	d := disk.New(10)
	d.Append("a", []byte("x"))
	d.Append("b", []byte("yz"))
	d.Sync("b")
	checkErrno(t, "Rename(a, b)", d.Rename("a", "b"), api.OK)
	d.Crash(0)
	checkRead(t, "crashed", d, "b", "")
	checkList(t, "crashed", d, "b")
}

func TestExampleOfErrors(t *testing.T) {
	d := made(t, 10, "x", "")
	checkErrno(t, "Append(A, x)", d.Append("A", []byte("x")), api.ErrArg)
	checkGone(t, "none", d, "none")
	checkErrno(t, "Cut(a, -1)", d.Cut("a", -1), api.ErrArg)
	var none *disk.Disk
	checkErrno(t, "Append of nil", none.Append("a", []byte("x")), api.ErrNil)
}

// P8.1

func TestNewDiskHasItsRoomAndNoFiles(t *testing.T) {
	for _, x := range []struct{ room, holds int }{
		{math.MinInt, 0}, {-1 << 31, 0}, {-2, 0}, {-1, 0}, {0, 0}, {1, 1}, {2, 2}, {10, 10}, {1000, 1000}, {maxFile, maxFile},
	} {
		what := fmt.Sprintf("a room of %d", x.room)
		d := disk.New(x.room)
		if d == nil {
			t.Errorf("%s: no disk", what)
			continue
		}
		checkDisk(t, what, d, &model{room: x.room})
		if x.holds < maxFile {
			checkErrno(t, what+", one byte more", d.Append("a", make([]byte, x.holds+1)), api.ErrFull)
			checkList(t, what+", refused", d)
		}
		checkErrno(t, what+", nothing", d.Append("b", nil), api.OK)
		checkErrno(t, what+", all", d.Append("a", make([]byte, x.holds)), api.OK)
		checkErrno(t, what+", one byte more in another file", d.Append("b", []byte{1}), api.ErrFull)
		checkUsed(t, what, d, x.holds)
		checkList(t, what, d, "a", "b")
	}
}

func TestGreatestRoom(t *testing.T) {
	d := disk.New(math.MaxInt)
	for _, name := range []string{"a", "b", "c"} {
		checkErrno(t, name, d.Append(name, make([]byte, maxFile)), api.OK)
	}
	checkUsed(t, "three", d, 3*maxFile)
}

func TestDisksAreTheirOwn(t *testing.T) {
	a, b := disk.New(5), disk.New(5)
	a.Append("x", []byte("12345"))
	checkList(t, "the other one", b)
	checkErrno(t, "the other one", b.Append("y", []byte("12345")), api.OK)
}

// P8.2

// names: texts, and whether they are names.
func names() map[string]bool {
	out := map[string]bool{
		"": false, ".": true, "-": true, "..": true, "a": true, "z": true, "0": true, "9": true,
		strings.Repeat("a", 29): true, strings.Repeat("a", 30): true, strings.Repeat("a", 31): false,
		strings.Repeat("-", 30): true, strings.Repeat(".", 31): false, strings.Repeat("9", 1000): false,
		"az09.-": true, "ga.0000000012": true, "A": false, "a b": false, " a": false, "a ": false, "a/b": false, "a_b": false,
		"\x00": false, "a\x00": false, "ä": false, "aé": false, "\u212a": false, "\uff41": false, strings.Repeat("ä", 15): false,
	}
	for x := range 256 {
		ok := bytes.IndexByte([]byte("abcdefghijklmnopqrstuvwxyz0123456789.-"), byte(x)) >= 0
		s := string([]byte{byte(x)})
		for _, name := range []string{s, s + "bcd", "b" + s + "d", "bcd" + s, strings.Repeat("b", 29) + s, s + strings.Repeat("b", 29)} {
			out[name] = ok
		}
		out[s+strings.Repeat("b", 30)] = false
		out[strings.Repeat("b", 30)+s] = false
	}
	return out
}

func TestNamesOfFiles(t *testing.T) {
	for name, ok := range names() {
		if ok != isModelName(name) {
			t.Fatalf("the test's own model is wrong of %q", name)
		}
		d, want := disk.New(10), api.ErrArg
		var list []string
		if ok {
			want, list = api.OK, []string{name}
		}
		checkErrno(t, fmt.Sprintf("Append(%q)", name), d.Append(name, []byte("x")), want)
		checkList(t, "then", d, list...)
		checkUsed(t, "then", d, len(list))
	}
}

func TestNamesToRename(t *testing.T) {
	for name, ok := range names() {
		d, want := made(t, 10, "x", "y"), api.ErrArg
		if ok {
			want = api.OK
		}
		what := fmt.Sprintf("%q", name)
		checkErrno(t, "Rename to "+what, d.Rename("a", name), want)
		if !ok {
			checkErrno(t, "Rename of "+what, d.Rename(name, "a"), api.ErrArg)
			checkErrno(t, "Rename of and to "+what, d.Rename(name, name), api.ErrArg)
			checkList(t, what, d, "a")
			continue
		}
		checkList(t, what, d, name)
		checkErrno(t, "Rename back of "+what, d.Rename(name, "a"), api.OK)
		checkRead(t, what, d, "a", "xy")
	}
}

func TestNoFileOfANoName(t *testing.T) {
	for name := range names() {
		if name == "a" {
			continue
		}
		d := made(t, 10, "x", "y")
		checkErrno(t, fmt.Sprintf("Sync(%q)", name), d.Sync(name), api.ErrNone)
		checkErrno(t, fmt.Sprintf("Cut(%q)", name), d.Cut(name, 0), api.ErrNone)
		checkErrno(t, fmt.Sprintf("Cut(%q, -1)", name), d.Cut(name, -1), api.ErrNone)
		checkErrno(t, fmt.Sprintf("Remove(%q)", name), d.Remove(name), api.ErrNone)
		checkGone(t, "no file", d, name)
		checkList(t, "no file", d, "a")
		checkRead(t, "no file", d, "a", "xy")
	}
}

func TestAppendStandsBehind(t *testing.T) {
	d, m := disk.New(100), &model{room: 100}
	for _, x := range []struct{ name, b string }{{"a", "one"}, {"b", "\x00\xff"}, {"a", "two"}, {"a", ""}, {"c", ""}, {"c", "x"}, {"b", "three"}, {"a", "\n"}} {
		checkErrno(t, "Append", d.Append(x.name, []byte(x.b)), m.append(x.name, []byte(x.b)))
		checkDisk(t, "appended", d, m)
	}
	checkRead(t, "all", d, "a", "onetwo\n")
	checkRead(t, "all", d, "b", "\x00\xffthree")
	checkRead(t, "all", d, "c", "x")
	d.Crash(0)
	for _, name := range []string{"a", "b", "c"} {
		checkRead(t, "never synced", d, name, "")
	}
}

func TestAppendOfNothing(t *testing.T) {
	for _, b := range [][]byte{nil, {}, make([]byte, 0, 8)} {
		d := disk.New(2)
		checkErrno(t, "to a file that is not there", d.Append("a", b), api.OK)
		checkList(t, "made", d, "a")
		checkRead(t, "made", d, "a", "")
		checkUsed(t, "made", d, 0)
		d.Append("a", []byte("x"))
		d.Sync("a")
		d.Append("a", []byte("y"))
		checkErrno(t, "to a file that is there, on a full disk", d.Append("a", b), api.OK)
		checkErrno(t, "to a file that is not there, on a full disk", d.Append("b", b), api.OK)
		checkDisk(t, "full", d, &model{room: 2, sheets: []sheet{{"a", []cell{{'x', true}, {'y', false}}}, {"b", nil}}})
		d.Crash(0)
		checkRead(t, "crashed", d, "a", "x")
		checkList(t, "crashed", d, "a", "b")
	}
}

func TestGreatestFile(t *testing.T) {
	for _, steps := range [][]int{{maxFile}, {maxFile - 1, 1}, {1, maxFile - 1}, {maxFile / 2, maxFile / 2}, {0, maxFile}, {maxFile, 0}} {
		what := fmt.Sprint(steps)
		d := disk.New(2*maxFile + 1)
		for _, n := range steps {
			checkErrno(t, what, d.Append("a", make([]byte, n)), api.OK)
		}
		checkErrno(t, what+", one more", d.Append("a", []byte{1}), api.ErrLong)
		checkErrno(t, what+", none more", d.Append("a", nil), api.OK)
		checkUsed(t, what, d, maxFile)
		checkErrno(t, what+", another file, too long", d.Append("b", make([]byte, maxFile+1)), api.ErrLong)
		checkList(t, what+", refused", d, "a")
		checkErrno(t, what+", another file", d.Append("b", make([]byte, maxFile)), api.OK)
		checkUsed(t, what, d, 2*maxFile)
		checkErrno(t, what+", cut", d.Cut("a", maxFile-1), api.OK)
		checkErrno(t, what+", too long again", d.Append("a", []byte{1, 2}), api.ErrLong)
		checkErrno(t, what+", long again", d.Append("a", []byte{1}), api.OK)
	}
}

func TestJustRoom(t *testing.T) {
	for had := range 5 {
		for n := range 6 {
			for short := range 2 {
				room, want := had+n-short, api.OK
				if short == 1 {
					want = api.ErrFull
				}
				if room < had {
					continue // no room for what was there ahead
				}
				for _, name := range []string{"a", "b"} {
					d, m := disk.New(room), &model{room: room}
					checkErrno(t, "ahead", d.Append("a", bytes.Repeat([]byte{1}, had)), m.append("a", bytes.Repeat([]byte{1}, had)))
					checkErrno(t, fmt.Sprintf("%d and %d bytes in a room of %d", had, n, room), d.Append(name, make([]byte, n)), want)
					if want == api.OK {
						m.append(name, make([]byte, n))
					}
					checkDisk(t, fmt.Sprintf("%d and %d bytes in a room of %d", had, n, room), d, m)
				}
			}
		}
	}
}

func TestRoomComesBack(t *testing.T) {
	for what, free := range map[string]func(*disk.Disk){
		"Cut":          func(d *disk.Disk) { d.Cut("a", 1) },
		"Remove":       func(d *disk.Disk) { d.Remove("b") },
		"Rename":       func(d *disk.Disk) { d.Rename("c", "a") },
		"Crash":        func(d *disk.Disk) { d.Crash(1) },
		"Copy and Cut": func(d *disk.Disk) { d.Copy().Cut("a", 0); d.Cut("a", 1) },
	} {
		d := disk.New(9)
		d.Append("a", []byte("123"))
		d.Append("b", []byte("456"))
		d.Append("c", []byte("789"))
		checkErrno(t, what+": full", d.Append("d", []byte("x")), api.ErrFull)
		free(d)
		left := 9 - d.Used()
		if left < 2 {
			t.Errorf("%s: only %d bytes are free", what, left)
		}
		checkErrno(t, what+": a byte too many", d.Append("d", make([]byte, left+1)), api.ErrFull)
		checkErrno(t, what+": all", d.Append("d", make([]byte, left)), api.OK)
		checkUsed(t, what, d, 9)
	}
}

func TestOrderOfErrors(t *testing.T) {
	long := make([]byte, maxFile+1)
	for _, d := range []*disk.Disk{disk.New(-1), disk.New(0), made(t, 2, "x", "y"), disk.New(2 * maxFile)} {
		m := &model{}
		if d.Used() > 0 {
			m = &model{room: 2, sheets: []sheet{{"a", []cell{{'x', true}, {'y', false}}}}}
		}
		checkErrno(t, "no name, too long", d.Append("A", long), api.ErrArg)
		checkErrno(t, "no name", d.Append("", []byte("123")), api.ErrArg)
		checkErrno(t, "too long", d.Append("a", long), api.ErrLong)
		checkErrno(t, "too long", d.Append("new", long), api.ErrLong)
		checkErrno(t, "no file, no place", d.Cut("b", -1), api.ErrNone)
		checkErrno(t, "no file, no place", d.Cut("", 1), api.ErrNone)
		checkErrno(t, "no file, no name", d.Rename("b", "B"), api.ErrArg)
		checkErrno(t, "no name, no file", d.Rename("B", "b"), api.ErrArg)
		checkErrno(t, "no file", d.Rename("b", "c"), api.ErrNone)
		checkErrno(t, "no file", d.Rename("b", "b"), api.ErrNone)
		checkErrno(t, "no file", d.Rename("b", "a"), api.ErrNone)
		checkFiles(t, "behind errors", d, m)
	}
	d := made(t, 2, "x", "y")
	checkErrno(t, "to what is no name", d.Rename("a", "a "), api.ErrArg)
	checkErrno(t, "full", d.Append("a", make([]byte, maxFile-2)), api.ErrFull)
	checkErrno(t, "too long and full", d.Append("a", make([]byte, maxFile-1)), api.ErrLong)
	checkErrno(t, "full, of a new file", d.Append("new", make([]byte, maxFile)), api.ErrFull)
	checkDisk(t, "behind errors", d, &model{room: 2, sheets: []sheet{{"a", []cell{{'x', true}, {'y', false}}}}})
}

func TestSync(t *testing.T) {
	d := disk.New(20)
	checkErrno(t, "none yet", d.Sync("a"), api.ErrNone)
	checkList(t, "none yet", d)
	d.Append("a", []byte("abc"))
	d.Append("b", []byte("xy"))
	checkErrno(t, "a", d.Sync("a"), api.OK)
	checkErrno(t, "a again", d.Sync("a"), api.OK)
	checkDisk(t, "a", d, &model{room: 20, sheets: []sheet{{"a", []cell{{'a', true}, {'b', true}, {'c', true}}}, {"b", []cell{{'x', false}, {'y', false}}}}})
	d.Append("a", []byte("de"))
	checkErrno(t, "a at last", d.Sync("a"), api.OK)
	d.Append("c", nil)
	checkErrno(t, "no bytes", d.Sync("c"), api.OK)
	d.Crash(0)
	checkRead(t, "crashed", d, "a", "abcde")
	checkRead(t, "crashed", d, "b", "")
	checkRead(t, "crashed", d, "c", "")
}

// P8.3

func TestListRises(t *testing.T) {
	want := []string{"-", "-a", ".", ".-", "0", "00", "1", "10", "2", "9", "a", "a-", "a.", "a.0", "a0", "aa", "ab", "b", "ba", "z", "zz", strings.Repeat("z", 30)}
	if !slices.IsSorted(want) {
		t.Fatal("the test's own list does not rise")
	}
	next := testkit.Walk()
	for range 30 {
		d, left := disk.New(0), slices.Clone(want)
		for len(left) > 0 {
			i := next(len(left))
			d.Append(left[i], nil)
			left = slices.Delete(left, i, i+1)
		}
		for range 3 {
			checkList(t, "all", d, want...)
			checkList(t, "of a copy", d.Copy(), want...)
		}
	}
}

func TestReadTellsAll(t *testing.T) {
	d := made(t, 10, "ab", "cd")
	checkRead(t, "in part synced", d, "a", "abcd")
	checkGone(t, "another one", d, "b")
	checkGone(t, "another one", d, "aa")
	checkGone(t, "no name", d, "")
	d.Sync("a")
	checkRead(t, "synced", d, "a", "abcd")
	checkUsed(t, "synced", d, 4)
}

// P8.4

func TestCut(t *testing.T) {
	for _, n := range []int{math.MinInt, -2, -1, 0, 1, 2, 3, 4, 5, 6, maxFile, math.MaxInt} {
		for synced := range 5 {
			what := fmt.Sprintf("Cut(a, %d), %d synced of 4", n, synced)
			d := made(t, 10, "abcd"[:synced], "abcd"[synced:])
			d.Append("b", []byte("xy"))
			if n < 0 || n > 4 {
				checkErrno(t, what, d.Cut("a", n), api.ErrArg)
				checkRead(t, what, d, "a", "abcd")
				d.Crash(0)
				checkRead(t, what+", crashed", d, "a", "abcd"[:synced])
				continue
			}
			checkErrno(t, what, d.Cut("a", n), api.OK)
			checkRead(t, what, d, "a", "abcd"[:n])
			checkUsed(t, what, d, n+2)
			checkRead(t, what, d, "b", "xy")
			other := d.Copy()
			other.Crash(0)
			checkRead(t, what+", crashed", other, "a", "abcd"[:n])
			checkRead(t, what+", crashed", other, "b", "")
			d.Append("a", []byte("ZZ"))
			checkRead(t, what+", appended", d, "a", "abcd"[:n]+"ZZ")
			d.Crash(1)
			checkRead(t, what+", appended, crashed", d, "a", "abcd"[:n]+"Z")
		}
	}
}

func TestCutOfNoBytes(t *testing.T) {
	d := disk.New(1)
	d.Append("a", nil)
	checkErrno(t, "Cut(a, 0)", d.Cut("a", 0), api.OK)
	checkErrno(t, "Cut(a, 1)", d.Cut("a", 1), api.ErrArg)
	checkList(t, "cut", d, "a")
}

func TestRename(t *testing.T) {
	for synced := range 4 {
		what := fmt.Sprintf("%d synced of 3", synced)
		d := made(t, 10, "abc"[:synced], "abc"[synced:])
		d.Append("other", []byte("1"))
		d.Append("b", []byte("wxyz"))
		if synced%2 == 0 {
			d.Sync("b")
		}
		before := d.Copy()
		checkErrno(t, what+", one name twice", d.Rename("a", "a"), api.OK)
		checkList(t, what+", one name twice", d, before.List()...)
		checkRead(t, what+", one name twice", d, "a", "abc")
		checkErrno(t, what+", another one", d.Rename("a", "c"), api.OK)
		checkGone(t, what+", another one", d, "a")
		checkRead(t, what+", another one", d, "c", "abc")
		checkUsed(t, what+", another one", d, 8)
		checkErrno(t, what+", gone", d.Rename("a", "b"), api.ErrNone)
		checkRead(t, what+", gone", d, "b", "wxyz")
		checkErrno(t, what+", over another one", d.Rename("c", "b"), api.OK)
		checkList(t, what+", over another one", d, "b", "other")
		checkRead(t, what+", over another one", d, "b", "abc")
		checkUsed(t, what+", over another one", d, 4)
		other := d.Copy()
		other.Crash(1)
		checkRead(t, what+", crashed by 1", other, "b", "abc"[:min(synced+1, 3)])
		d.Crash(0)
		checkRead(t, what+", crashed", d, "b", "abc"[:synced])
		checkList(t, what+", crashed", d, "b", "other")
		before.Rename("a", "a")
		before.Crash(0)
		checkRead(t, what+", one name twice, crashed", before, "a", "abc"[:synced])
	}
}

func TestRemove(t *testing.T) {
	d := made(t, 10, "ab", "c")
	d.Append("b", []byte("x"))
	d.Sync("b")
	checkErrno(t, "b", d.Remove("b"), api.OK)
	checkErrno(t, "b again", d.Remove("b"), api.ErrNone)
	checkGone(t, "b", d, "b")
	checkUsed(t, "b", d, 3)
	d.Crash(5)
	checkGone(t, "crashed", d, "b")
	checkErrno(t, "a", d.Remove("a"), api.OK)
	checkList(t, "all gone", d)
	checkUsed(t, "all gone", d, 0)
	d.Append("a", []byte("12"))
	checkRead(t, "made anew", d, "a", "12")
	d.Crash(0)
	checkRead(t, "made anew, crashed", d, "a", "")
}

// P8.5, P8.7 and DOC.md's P9

func TestCrash(t *testing.T) {
	for _, keep := range []int{math.MinInt, -1, 0, 1, 2, 3, 4, 5, 6, 100, math.MaxInt - 1, math.MaxInt} {
		what := fmt.Sprintf("Crash(%d)", keep)
		d, m := disk.New(1000), &model{room: 1000}
		for synced := range 6 {
			for loose := range 6 {
				name := fmt.Sprintf("f%d.%d", synced, loose)
				d.Append(name, []byte("abcde")[:synced])
				d.Sync(name)
				d.Append(name, []byte("ABCDE")[:loose])
				m.append(name, []byte("abcde")[:synced])
				m.sync(name)
				m.append(name, []byte("ABCDE")[:loose])
			}
		}
		d.Crash(keep)
		m.crash(keep)
		checkDisk(t, what, d, m)
		for synced := range 6 {
			for loose := range 6 {
				checkRead(t, what, d, fmt.Sprintf("f%d.%d", synced, loose), "abcde"[:synced]+"ABCDE"[:min(max(keep, 0), loose)])
			}
		}
		for _, again := range []int{math.MaxInt, 1, 0, -1} {
			d.Crash(again)
			checkDisk(t, what+" and again", d, m)
		}
	}
}

func TestCrashOfNoFiles(t *testing.T) {
	d := disk.New(3)
	d.Crash(1)
	checkList(t, "crashed", d)
	checkErrno(t, "then", d.Append("a", []byte("123")), api.OK)
}

func TestWhatWasSyncedStays(t *testing.T) {
	next := testkit.Walk()
	for range 300 {
		d := disk.New(1000)
		var all, synced []byte
		for range 30 {
			switch next(4) {
			case 0, 1:
				b := []byte(fmt.Sprint(next(1000)))
				d.Append("a", b)
				all = append(all, b...)
			case 2:
				if d.Sync("a") == api.OK {
					synced = slices.Clone(all)
				}
			case 3:
				d.Crash(next(6) - 1)
				got, _ := d.Read("a")
				if !bytes.HasPrefix(all, got) || !bytes.HasPrefix(got, synced) {
					t.Fatalf("of %q, %q synced, a crash has left %q", all, synced, got)
				}
				all, synced = got, slices.Clone(got)
			}
		}
	}
}

// P8.6

func TestCopyIsOfItsOwn(t *testing.T) {
	start := func() (*disk.Disk, *model) {
		d, m := made(t, 12, "abc", "de"), &model{room: 12}
		m.append("a", []byte("abc"))
		m.sync("a")
		m.append("a", []byte("de"))
		for _, name := range []string{"b", "c"} {
			d.Append(name, []byte("x"+name))
			m.append(name, []byte("x"+name))
		}
		d.Sync("c")
		m.sync("c")
		return d, m
	}
	for what, change := range map[string]func(*disk.Disk){
		"Append":        func(d *disk.Disk) { d.Append("a", []byte("Z")) },
		"Append anew":   func(d *disk.Disk) { d.Append("d", []byte("Z")) },
		"Append to all": func(d *disk.Disk) { d.Append("a", []byte("Z")); d.Append("b", []byte("Z")); d.Append("c", []byte("Z")) },
		"Sync":          func(d *disk.Disk) { d.Sync("a"); d.Sync("b") },
		"Cut":           func(d *disk.Disk) { d.Cut("a", 1); d.Append("a", []byte("ZZZZ")) },
		"Rename":        func(d *disk.Disk) { d.Rename("a", "b"); d.Rename("c", "d") },
		"Remove":        func(d *disk.Disk) { d.Remove("a"); d.Remove("c") },
		"Crash":         func(d *disk.Disk) { d.Crash(0); d.Append("a", []byte("ZZ")) },
	} {
		d, m := start()
		other := d.Copy()
		checkDisk(t, what+": a copy", other, m)
		change(d)
		checkDisk(t, what+": a copy of what was changed", other, m)
		d, m = start()
		change(d.Copy())
		checkDisk(t, what+": of what a copy was changed", d, m)
		changed := d.Copy()
		change(changed)
		change(d)
		again := d.Copy()
		for _, name := range d.List() {
			want, _ := d.Read(name)
			checkRead(t, what+": changed alike", changed, name, string(want))
			checkRead(t, what+": a copy behind", again, name, string(want))
		}
		checkList(t, what+": changed alike", changed, d.List()...)
	}
}

func TestCopyOfNoFilesHasTheRoom(t *testing.T) {
	for _, room := range []int{-1, 0, 1, 5} {
		other := disk.New(room).Copy()
		if other == nil {
			t.Fatalf("a copy of a disk of room %d is none", room)
		}
		checkDisk(t, "a copy", other, &model{room: room})
	}
}

func TestAppendsToTwoCopiesShareNothing(t *testing.T) {
	for n := range 70 {
		d := disk.New(1000)
		d.Append("a", bytes.Repeat([]byte("."), n))
		d.Append("a", []byte("!"))
		one, two := d.Copy(), d.Copy()
		want := strings.Repeat(".", n) + "!"
		one.Append("a", []byte("one"))
		two.Append("a", []byte("two"))
		d.Append("a", []byte("all"))
		checkRead(t, "one", one, "a", want+"one")
		checkRead(t, "two", two, "a", want+"two")
		checkRead(t, "all", d, "a", want+"all")
	}
}

// R5

func TestNoDisk(t *testing.T) {
	var none *disk.Disk
	for what, d := range map[string]*disk.Disk{"nil": none, "one that nobody made": {}, "new": new(disk.Disk)} {
		for range 2 {
			for _, name := range []string{"a", "", "A", strings.Repeat("a", 31)} {
				checkErrno(t, what+": Append", d.Append(name, []byte("x")), api.ErrNil)
				checkErrno(t, what+": Append, long", d.Append(name, make([]byte, maxFile+1)), api.ErrNil)
				checkErrno(t, what+": Append of none", d.Append(name, nil), api.ErrNil)
				checkErrno(t, what+": Sync", d.Sync(name), api.ErrNil)
				checkErrno(t, what+": Cut", d.Cut(name, 0), api.ErrNil)
				checkErrno(t, what+": Cut", d.Cut(name, -1), api.ErrNil)
				checkErrno(t, what+": Rename", d.Rename(name, name), api.ErrNil)
				checkErrno(t, what+": Rename", d.Rename(name, "b"), api.ErrNil)
				checkErrno(t, what+": Rename", d.Rename("b", name), api.ErrNil)
				checkErrno(t, what+": Remove", d.Remove(name), api.ErrNil)
				if b, errno := d.Read(name); b != nil || errno != api.ErrNil {
					t.Errorf("%s: Read: %x, %v", what, b, errno)
				}
			}
			d.Crash(-1)
			d.Crash(0)
			d.Crash(math.MaxInt)
			checkList(t, what, d)
			checkUsed(t, what, d, 0)
			if d.Copy() != nil {
				t.Errorf("%s: Copy is a disk", what)
			}
		}
	}
}

// R3

func TestBytesHandedInAreNeitherKeptNorChanged(t *testing.T) {
	for n := range 40 {
		for _, had := range []string{"", "x", "123456789"} {
			d := disk.New(1000)
			d.Append("a", []byte(had))
			full := bytes.Repeat([]byte("b"), n+20)
			b := full[:n]
			checkErrno(t, "Append", d.Append("a", b), api.OK)
			checkErrno(t, "Append anew", d.Append("new", b), api.OK)
			d.Append("a", []byte("more"))
			d.Append("new", []byte("more"))
			if !bytes.Equal(full, bytes.Repeat([]byte("b"), n+20)) {
				t.Errorf("%d bytes handed in are changed, or the room behind them: %s", n, full)
			}
			for i := range full {
				full[i] = 'Z'
			}
			checkRead(t, "changed afterwards", d, "a", had+strings.Repeat("b", n)+"more")
			checkRead(t, "changed afterwards", d, "new", strings.Repeat("b", n)+"more")
		}
	}
}

func TestBytesHandedOutAreNew(t *testing.T) {
	for n := range 40 {
		what := fmt.Sprintf("%d bytes", n)
		want := strings.Repeat("b", n)
		for when, change := range map[string]func(*disk.Disk){
			"appended": func(*disk.Disk) {},
			"synced":   func(d *disk.Disk) { d.Sync("a") },
			"cut":      func(d *disk.Disk) { d.Append("a", []byte("tail")); d.Cut("a", n) },
			"crashed":  func(d *disk.Disk) { d.Sync("a"); d.Append("a", []byte("tail")); d.Crash(0) },
			"renamed":  func(d *disk.Disk) { d.Rename("a", "b"); d.Rename("b", "a") },
		} {
			d := disk.New(1000)
			d.Append("a", []byte(want))
			change(d)
			other := d.Copy()
			one, _ := d.Read("a")
			two, _ := d.Read("a")
			testkit.Spoil(one, 'Z')
			if string(two) != want {
				t.Errorf("%s, %s: two answers share memory", what, when)
			}
			testkit.Spoil(two, 'Z')
			checkRead(t, what+", "+when, d, "a", want)
			checkRead(t, what+", "+when+", a copy", other, "a", want)
			three, _ := other.Read("a")
			kept := append(three, "more"...)
			d.Append("a", []byte("else"))
			other.Append("a", []byte("also"))
			if string(kept) != want+"more" {
				t.Errorf("%s, %s: an answer changes with the disk", what, when)
			}
			checkRead(t, what+", "+when+", appended", d, "a", want+"else")
			checkRead(t, what+", "+when+", a copy appended", other, "a", want+"also")
		}
	}
}

func TestAnswersStayAsTheDiskGoesOn(t *testing.T) {
	d := made(t, 100, "abc", "def")
	got, _ := d.Read("a")
	list := d.List()
	d.Cut("a", 1)
	d.Append("a", []byte("ZZZZZ"))
	d.Crash(3)
	d.Rename("a", "b")
	if string(got) != "abcdef" || !slices.Equal(list, []string{"a"}) {
		t.Errorf("answers have changed: %s, %q", got, list)
	}
}

func TestListIsNew(t *testing.T) {
	d := disk.New(10)
	for _, name := range []string{"c", "a", "b"} {
		d.Append(name, nil)
	}
	one, two := d.List(), d.List()
	for i := range one[:cap(one)] {
		one[:cap(one)][i] = "Z"
	}
	if !slices.Equal(two, []string{"a", "b", "c"}) {
		t.Errorf("two lists share memory: %q", two)
	}
	checkList(t, "then", d, "a", "b", "c")
}

// All promises at once.

// act: one thing done to a disk and to its model, whose answers must agree.
type act struct {
	what string
	do   func(*disk.Disk) api.Errno
	like func(*model) api.Errno
}

func appends(name, b string) act {
	return act{fmt.Sprintf("Append(%q, %q)", name, b),
		func(d *disk.Disk) api.Errno { return d.Append(name, []byte(b)) },
		func(m *model) api.Errno { return m.append(name, []byte(b)) }}
}

func syncs(name string) act {
	return act{fmt.Sprintf("Sync(%q)", name),
		func(d *disk.Disk) api.Errno { return d.Sync(name) },
		func(m *model) api.Errno { return m.sync(name) }}
}

func cuts(name string, n int) act {
	return act{fmt.Sprintf("Cut(%q, %d)", name, n),
		func(d *disk.Disk) api.Errno { return d.Cut(name, n) },
		func(m *model) api.Errno { return m.cut(name, n) }}
}

func renames(from, to string) act {
	return act{fmt.Sprintf("Rename(%q, %q)", from, to),
		func(d *disk.Disk) api.Errno { return d.Rename(from, to) },
		func(m *model) api.Errno { return m.rename(from, to) }}
}

func removes(name string) act {
	return act{fmt.Sprintf("Remove(%q)", name),
		func(d *disk.Disk) api.Errno { return d.Remove(name) },
		func(m *model) api.Errno { return m.remove(name) }}
}

func crashes(keep int) act {
	return act{fmt.Sprintf("Crash(%d)", keep),
		func(d *disk.Disk) api.Errno { d.Crash(keep); return api.OK },
		func(m *model) api.Errno { m.crash(keep); return api.OK }}
}

func run(t *testing.T, d *disk.Disk, m *model, past string, x act) {
	t.Helper()
	want := x.like(m)
	if got := x.do(d); got != want {
		t.Fatalf("%s %s: %v, want %v", past, x.what, got, want)
	}
}

// TestAllShortRows goes through all rows of a few acts on a small disk.
func TestAllShortRows(t *testing.T) {
	all := []act{
		appends("a", ""), appends("a", "xy"), appends("b", "z"), appends("B", "z"),
		syncs("a"), syncs("b"),
		cuts("a", 1), cuts("a", 2), cuts("b", 0), cuts("b", -1),
		renames("a", "b"), renames("b", "a"), renames("a", "a"), renames("a", "c"), renames("b", ""),
		removes("a"), removes("b"), crashes(0), crashes(1), crashes(math.MaxInt),
	}
	var goOn func(d *disk.Disk, m *model, past string, left int)
	goOn = func(d *disk.Disk, m *model, past string, left int) {
		for _, x := range all {
			nextDisk, nextModel := d.Copy(), m.copy()
			run(t, nextDisk, nextModel, past, x)
			checkDisk(t, past+" "+x.what, nextDisk, nextModel)
			if t.Failed() {
				t.FailNow()
			}
			if left > 1 {
				goOn(nextDisk, nextModel, past+" "+x.what, left-1)
			}
		}
	}
	goOn(disk.New(4), &model{room: 4}, "", 3)
}

// TestLongRows goes on with one disk, and sometimes with a copy of it, for long, without copies between.
func TestLongRows(t *testing.T) {
	next := testkit.Walk()
	names := []string{"a", "b", "c", "a.0", "-", "", "A", strings.Repeat("n", 30), strings.Repeat("n", 31)}
	name := func() string { return names[next(len(names))] }
	for round := range 60 {
		room := []int{-1, 0, 1, 7, 30, 200}[round%6]
		d, m := disk.New(room), &model{room: room}
		for step := range 400 {
			past := fmt.Sprintf("round %d, step %d:", round, step)
			switch next(8) {
			case 0, 1, 2:
				run(t, d, m, past, appends(name(), strings.Repeat(string(rune('a'+next(26))), next(12))))
			case 3:
				run(t, d, m, past, syncs(name()))
			case 4:
				run(t, d, m, past, cuts(name(), next(20)-2))
			case 5:
				run(t, d, m, past, renames(name(), name()))
			case 6:
				run(t, d, m, past, removes(name()))
			case 7:
				run(t, d, m, past, crashes(next(8)-2))
			}
			checkFiles(t, past, d, m)
			if step%50 == 49 {
				checkDisk(t, past, d, m)
				d = d.Copy()
			}
			if t.Failed() {
				t.FailNow()
			}
		}
	}
}

// TestSameStepsSameAnswers: what a disk tells hangs on its own past alone (R4).
func TestSameStepsSameAnswers(t *testing.T) {
	tell := func() string {
		d := disk.New(50)
		for i := range 20 {
			d.Append(fmt.Sprintf("f%d", i*7%20), bytes.Repeat([]byte("x"), i%4))
		}
		full := d.Append("last", make([]byte, 40))
		d.Crash(1)
		return fmt.Sprint(d.List(), d.Used(), full)
	}
	first := tell()
	for range 50 {
		if again := tell(); again != first {
			t.Fatalf("%s, and %s", first, again)
		}
	}
}
