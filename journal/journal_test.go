package journal_test

import (
	"bytes"
	"fmt"
	"math"
	"slices"
	"strings"
	"testing"

	"beadle/api"
	"beadle/disk"
	"beadle/journal"
	"beadle/testkit"
)

// The chapter's examples.

func TestExampleOfCuts(t *testing.T) {
	d := disk.New(1000)
	j := mustOpen(t, d)
	row := small(1, 2)
	appendAll(t, j, row...)
	checkList(t, "two deeds", d, "x.0000000000")
	checkErrno(t, "Cut(1)", j.Cut(1), api.OK)
	checkDeeds(t, "Cut(1)", j, row[0])
	checkErrno(t, "Cut(0)", j.Cut(0), api.OK)
	checkList(t, "Cut(0)", d)
	checkDeeds(t, "Cut(0)", j)
	checkErrno(t, "Append of 1", j.Append(row[0]), api.OK)
	checkErrno(t, "Append of 1 again", j.Append(row[0]), api.ErrArg)
}

func TestExampleOfATornFile(t *testing.T) {
	row := small(1, 2, 3)
	j, d := journalOf(t, row[:1]...)
	j.Sync()
	appendAll(t, j, row[1:]...)
	d.Crash(14 + 13)
	checkFile(t, "torn", d, "x.0000000000", rowOf(row...)[:41], 41)
	checkDeeds(t, "opened again", mustOpen(t, d), row[:2]...)
	checkFile(t, "opened again", d, "x.0000000000", rowOf(row[:2]...), 28)
}

// P15.1

func TestOpenOfNoDisk(t *testing.T) {
	for _, d := range []*disk.Disk{nil, {}} {
		for _, name := range []string{"x", "", "X", strings.Repeat("x", 20)} {
			if j, errno := journal.Open(d, name); j != nil || errno != api.ErrNil {
				t.Errorf("%q: %v, %v", name, j, errno)
			}
		}
	}
}

func TestNamesOfJournals(t *testing.T) {
	names := map[string]bool{
		"": false, "a": true, "z": true, "az": true, "abcdefghijklmnopqrs": true, "tuvwxyz": true,
		strings.Repeat("a", 18): true, strings.Repeat("z", 19): true, strings.Repeat("z", 20): false, strings.Repeat("a", 1000): false,
		"ä": false, "\u212a": false, "x.0000000000": false, "x.": false, ".": false,
	}
	for x := range 256 {
		c := string([]byte{byte(x)})
		for _, name := range []string{c, c + "bcd", "b" + c + "d", "bcd" + c, c + strings.Repeat("b", 18), strings.Repeat("b", 18) + c} {
			names[name] = 'a' <= x && x <= 'z'
		}
		names[c+strings.Repeat("b", 19)] = false
		names[strings.Repeat("b", 19)+c] = false
	}
	for name, ok := range names {
		d := disk.New(100)
		putLoose(d, "x.0000000000", []byte("torn"))
		before := testkit.TellDisk(d)
		j, errno := journal.Open(d, name)
		if !ok {
			if j != nil || errno != api.ErrArg || testkit.TellDisk(d) != before {
				t.Errorf("%q: %v, %v", name, j, errno)
			}
			continue
		}
		if j == nil || errno != api.OK {
			t.Errorf("%q: %v, %v", name, j, errno)
			continue
		}
		appendAll(t, j, small(1)...)
		checkFile(t, name, d, name+".0000000000", rowOf(small(1)...), 0)
	}
}

// othersFiles: on a disk of the journal x these are none of its files.
func othersFiles() []string {
	return []string{
		"x", "x.", "x.1", "x.000000001", "x.00000000000", "x.00000000001", "x.000000000a", "x.a000000000", "x.-000000001", "x.000000000-",
		"x.0000000000.", "x.0000000000.0000000000", "x..0000000000", "x-0000000000", "x0000000000", "x.000000.000", "y.0000000000", "xx.0000000000", "xx.0000000001",
		"ax.0000000000", "w.9999999999", "0000000000", ".0000000000", "now", "next", "x.abcdefghij", "x.0000000000x", "x.99999999999",
	}
}

func TestOtherFilesAreLeftAlone(t *testing.T) {
	d, others := disk.New(1<<20), disk.New(1<<20)
	for i, file := range othersFiles() {
		for _, it := range []*disk.Disk{d, others} {
			put(it, file, rowOf(small(api.Zxid(40+i))...))
			putLoose(it, file, []byte("torn"))
		}
	}
	check := func(what string) {
		t.Helper()
		rest := d.Copy()
		for _, file := range (&model{rest, "x"}).files() {
			rest.Remove(file)
		}
		checkSameDisk(t, what, rest, others)
	}
	put(d, fileName("x", 5), rowOf(small(5)...))
	putLoose(d, fileName("x", 7), []byte("torn"))
	j := mustOpen(t, d)
	check("opened")
	checkDeeds(t, "opened", j, small(5)...)
	for z := api.Zxid(6); z < 12; z++ {
		appendAll(t, j, sized(z, 1000))
	}
	check("appended")
	j.Sync()
	check("synced")
	j.Purge(5)
	check("purged")
	j.Cut(7)
	check("cut")
	checkDeeds(t, "cut", j, small(5)[0], sized(6, 1000), sized(7, 1000))
	j.Cut(0)
	check("cut off")
	checkSameDisk(t, "cut off", d, others)
}

func TestOpenOfNothing(t *testing.T) {
	d := disk.New(0)
	checkDeeds(t, "no files", mustOpen(t, d))
	checkList(t, "no files", d)
}

// TestJournalsAreTheirOwn: two names, and two disks.
func TestJournalsAreTheirOwn(t *testing.T) {
	d, e := disk.New(1000), disk.New(1000)
	x, _ := journal.Open(d, "x")
	xx, _ := journal.Open(d, "xx")
	other, _ := journal.Open(e, "x")
	appendAll(t, x, small(1, 2)...)
	appendAll(t, xx, small(3)...)
	appendAll(t, other, small(4)...)
	checkDeeds(t, "x", x, small(1, 2)...)
	checkDeeds(t, "xx", xx, small(3)...)
	checkDeeds(t, "the other disk's", other, small(4)...)
	checkList(t, "both", d, "x.0000000000", "xx.0000000000")
	xx.Cut(0)
	checkDeeds(t, "x again", mustOpen(t, d), small(1, 2)...)
	checkDeeds(t, "the other disk's again", mustOpen(t, e), small(4)...)
}

func TestFilesNeedNotBeNumberedOneByOne(t *testing.T) {
	for _, numbers := range [][]int{{0, 1, 2}, {3, 7, 20}, {9, 10, 11}, {99, 100, 1000000000}, {0, 5, maxNumber}, {123456789, 1234567890, 9876543210}, {maxNumber - 2, maxNumber - 1, maxNumber}} {
		d := disk.New(1000)
		// Put the last one first: the order in which they came is not theirs.
		for i := 2; i >= 0; i-- {
			z := api.Zxid(10 * i)
			put(d, fileName("x", numbers[i]), rowOf(small(z+1, z+2)...))
		}
		what := fmt.Sprint(numbers)
		j := mustOpen(t, d)
		checkDeeds(t, what, j, small(1, 2, 11, 12, 21, 22)...)
		checkOpen(t, what, d)
		appendAll(t, j, small(23)...)
		checkFile(t, what, d, fileName("x", numbers[2]), rowOf(small(21, 22, 23)...), 28)
		checkErrno(t, what, j.Purge(12), api.OK)
		checkList(t, what, d, fileName("x", numbers[2]))
		checkErrno(t, what, j.Cut(0), api.OK)
		checkList(t, what, d)
	}
}

// threeFiles: as bytes, and all their deeds.
func threeFiles() ([3][]byte, []api.Deed) {
	row := small(upTo(1, 9)...)
	return [3][]byte{rowOf(row[:3]...), rowOf(row[3:6]...), rowOf(row[6:]...)}, row
}

// diskOf: a disk with these files of the journal x.
func diskOf(files ...[]byte) *disk.Disk {
	d := disk.New(1 << 24)
	for i, b := range files {
		put(d, fileName("x", i), b)
	}
	return d
}

// TestTornAnywhere: whichever file is torn wherever, the journal ends there.
func TestTornAnywhere(t *testing.T) {
	whole, row := threeFiles()
	for i := range whole {
		for end := range whole[i] {
			files := whole
			files[i] = whole[i][:end]
			d := diskOf(files[:]...)
			what := fmt.Sprintf("%d bytes of file %d", end, i)
			checkOpen(t, what, d)
			left := 3*i + end/14
			// Torn just behind a deed a file is whole, and those behind it are taken.
			if end > 0 && end%14 == 0 {
				checkDeeds(t, what, mustOpen(t, d), slices.Concat(row[:left], row[3*i+3:])...)
				continue
			}
			checkDeeds(t, what, mustOpen(t, d), row[:left]...)
			var want []string
			for number := range (left + 2) / 3 {
				want = append(want, fileName("x", number))
			}
			checkList(t, what, d, want...)
		}
	}
}

func TestBitsTurned(t *testing.T) {
	whole, row := threeFiles()
	for i := range whole {
		for at := range whole[i] {
			files := whole
			files[i] = bytes.Clone(whole[i])
			files[i][at] ^= 1 << (at % 8)
			d := diskOf(files[:]...)
			what := fmt.Sprintf("byte %d of file %d", at, i)
			checkOpen(t, what, d)
			checkDeeds(t, what, mustOpen(t, d), row[:3*i+at/14]...)
		}
	}
}

// TestBytesBehind: what stands behind a file's deeds is cut off, and the files behind it go.
func TestBytesBehind(t *testing.T) {
	whole, row := threeFiles()
	for i := range whole {
		for _, junk := range [][]byte{{0}, {7}, make([]byte, 8), make([]byte, 5000), []byte("no deed"), framed(row[0]), framed(row[3*i+2])[:13]} {
			files := whole
			files[i] = slices.Concat(whole[i], junk)
			d := diskOf(files[:]...)
			what := fmt.Sprintf("%d bytes behind file %d", len(junk), i)
			checkOpen(t, what, d)
			checkDeeds(t, what, mustOpen(t, d), row[:3*i+3]...)
			checkFile(t, what, d, fileName("x", i), whole[i], 42)
		}
	}
}

// TestFilesOfWhichNothingIsTaken: they go, and those behind them.
func TestFilesOfWhichNothingIsTaken(t *testing.T) {
	whole, row := threeFiles()
	for i := range whole {
		for what, bad := range map[string][]byte{"no bytes": nil, "a byte": {1}, "noughts": make([]byte, 100), "a torn deed": framed(row[3*i])[:13], "other bytes": []byte("nothing of a deed")} {
			files := whole
			files[i] = bad
			d := diskOf(files[:]...)
			checkOpen(t, what, d)
			checkDeeds(t, what, mustOpen(t, d), row[:3*i]...)
			checkList(t, what, d, []string{"x.0000000000", "x.0000000001", "x.0000000002"}[:i]...)
		}
	}
}

// TestZxidsOverFiles: all rows of three files, each of up to two deeds of four zxids.
func TestZxidsOverFiles(t *testing.T) {
	var contents [][]api.Zxid
	for a := range api.Zxid(5) {
		for b := range api.Zxid(5) {
			contents = append(contents, slices.DeleteFunc([]api.Zxid{a, b}, func(z api.Zxid) bool { return z == 0 }))
		}
	}
	for _, one := range contents {
		for _, two := range contents {
			for _, three := range contents {
				files := [][]api.Zxid{one, two, three}
				d := disk.New(1000)
				for i, l := range files {
					put(d, fileName("x", i), rowOf(small(l...)...))
				}
				what := fmt.Sprint(files)
				got := checkOpen(t, what, d)
				if want := taken(files); !slices.Equal(zxids(got), want) {
					t.Fatalf("%s: %v, want %v", what, zxids(got), want)
				}
			}
		}
	}
}

// taken: the zxids that are taken of files, up to the first that does not rise and the first file without any.
func taken(files [][]api.Zxid) []api.Zxid {
	var out []api.Zxid
	for _, l := range files {
		if len(l) == 0 {
			break
		}
		for _, z := range l {
			if len(out) > 0 && z <= out[len(out)-1] {
				return out
			}
			out = append(out, z)
		}
	}
	return out
}

// TestOpenSyncsNothing: but what it cuts, as the disk does so.
func TestOpenSyncsNothing(t *testing.T) {
	row := small(1, 2, 3, 4)
	d := disk.New(1000)
	put(d, fileName("x", 0), rowOf(row[0]))
	putLoose(d, fileName("x", 1), rowOf(row[1]))
	put(d, fileName("x", 2), rowOf(row[2]))
	putLoose(d, fileName("x", 2), rowOf(row[3]))
	before := testkit.TellDisk(d)
	mustOpen(t, d)
	if testkit.TellDisk(d) != before {
		t.Errorf("%s, was %s", testkit.TellDisk(d), before)
	}
	putLoose(d, fileName("x", 2), []byte("torn"))
	checkOpen(t, "torn", d)
	mustOpen(t, d)
	checkFile(t, "torn", d, fileName("x", 1), rowOf(row[1]), 0)
	checkFile(t, "torn", d, fileName("x", 2), rowOf(row[2:]...), 28)
}

// P15.2

func TestAppendStandsBehind(t *testing.T) {
	d, like := disk.New(1<<24), disk.New(1<<24)
	j, m := mustOpen(t, d), openModel(like, "x")
	for _, x := range slices.Concat(testkit.EachDeed()[:12], testkit.LongestDeeds(), testkit.EachDeed()[12:]) {
		checkErrno(t, fmt.Sprint(x.Zxid), j.Append(x), api.OK)
		checkErrno(t, "the model's", m.append(x), api.OK)
		checkLike(t, fmt.Sprint(x.Zxid), j, d, m)
		checkOpen(t, fmt.Sprint(x.Zxid), d)
	}
	if len(d.List()) < 3 {
		t.Errorf("%q", d.List())
	}
}

func TestWrongDeedsAreRefused(t *testing.T) {
	for _, had := range [][]api.Deed{nil, small(1)[:0], testkit.EachDeed()[:4]} {
		j, d := journalOf(t, had...)
		before := testkit.TellDisk(d)
		for i, x := range testkit.WrongDeeds() {
			if x.Zxid > 0 {
				x.Zxid += 100
			}
			checkErrno(t, fmt.Sprint(i), j.Append(x), api.ErrArg)
		}
		checkDeeds(t, "refused", j, had...)
		if testkit.TellDisk(d) != before {
			t.Error("the disk has changed")
		}
	}
}

// TestZxidsThatAreNotAbove: of a journal whose last file is full, too: nothing is synced then.
func TestZxidsThatAreNotAbove(t *testing.T) {
	for _, row := range [][]api.Deed{small(5, 9), {sized(5, 1000), sized(8, 1000), sized(9, 48)}} {
		j, d := journalOf(t, row...)
		before := testkit.TellDisk(d)
		for z := api.Zxid(1); z <= 9; z++ {
			checkErrno(t, fmt.Sprint(z), j.Append(small(z)[0]), api.ErrArg)
		}
		checkDeeds(t, "refused", j, row...)
		if testkit.TellDisk(d) != before {
			t.Error("the disk has changed")
		}
		appendAll(t, j, small(10)...)
		checkErrno(t, "the last zxid", j.Append(small(testkit.LastZxid)[0]), api.OK)
		checkErrno(t, "the last zxid again", j.Append(small(testkit.LastZxid)[0]), api.ErrArg)
	}
}

// TestWrongAheadOfFull: ErrArg is named first.
func TestWrongAheadOfFull(t *testing.T) {
	d := disk.New(14)
	j := mustOpen(t, d)
	appendAll(t, j, small(1)...)
	checkErrno(t, "a wrong deed", j.Append(api.Deed{}), api.ErrArg)
	checkErrno(t, "the same deed", j.Append(small(1)[0]), api.ErrArg)
	checkErrno(t, "a right one", j.Append(small(2)[0]), api.ErrFull)
}

// TestFullFiles: from 2048 bytes on.
func TestFullFiles(t *testing.T) {
	for _, x := range []struct{ size, files int }{{2000, 1}, {2046, 1}, {2047, 1}, {2048, 2}, {2049, 2}, {2100, 2}} {
		row := []api.Deed{sized(1, 1000), sized(2, 900), sized(3, x.size-1900), sized(4, 500), small(5)[0]}
		what := fmt.Sprint(x.size, " bytes")
		j, d := journalOf(t, row[:3]...)
		checkFile(t, what, d, fileName("x", 0), rowOf(row[:3]...), 0)
		// One that is opened again goes on alike.
		for _, j := range []*journal.Journal{mustOpen(t, d.Copy()), j} {
			appendAll(t, j, row[3:4]...)
			checkDeeds(t, what, j, row[:4]...)
		}
		if x.files == 1 {
			checkList(t, what, d, "x.0000000000")
			checkFile(t, what, d, "x.0000000000", rowOf(row[:4]...), 0)
			appendAll(t, j, row[4])
			checkFile(t, what, d, "x.0000000000", rowOf(row[:4]...), x.size+500)
			checkFile(t, what, d, "x.0000000001", rowOf(row[4]), 0)
			continue
		}
		checkList(t, what, d, "x.0000000000", "x.0000000001")
		checkFile(t, what, d, "x.0000000000", rowOf(row[:3]...), x.size)
		checkFile(t, what, d, "x.0000000001", rowOf(row[3]), 0)
	}
}

// TestNoRoom: with just room a deed is put, with a byte less nothing changes, and what is not synced is not synced.
func TestNoRoom(t *testing.T) {
	for _, had := range [][]api.Deed{nil, small(1), {sized(1, 1000), sized(2, 1000), sized(3, 47)}, {sized(1, 1000), sized(2, 1000), sized(3, 48)}, {sized(1, 1000), sized(2, 1000), sized(3, 500), sized(4, 100)}} {
		x := sized(9, 100)
		size := len(rowOf(had...))
		for _, less := range []int{0, 1, 50, 100} {
			what := fmt.Sprintf("%d deeds, %d bytes less", len(had), less)
			d := disk.New(size + 100 - less)
			j := mustOpen(t, d)
			appendAll(t, j, had...)
			like := d.Copy()
			m := openModel(like, "x")
			want := api.OK
			if less > 0 {
				want = api.ErrFull
			}
			checkErrno(t, what, j.Append(x), want)
			checkErrno(t, what+", the model's", m.append(x), want)
			checkLike(t, what, j, d, m)
			if less == 50 {
				appendAll(t, j, sized(9, 50))
				checkErrno(t, what, m.append(sized(9, 50)), api.OK)
				checkLike(t, what+", a shorter one", j, d, m)
			}
		}
	}
}

// TestRoomTriedLeavesNothing: of an append that is refused no file stays, and room that others have taken is not the journal's.
func TestRoomTriedLeavesNothing(t *testing.T) {
	d := disk.New(3000)
	j := mustOpen(t, d)
	appendAll(t, j, sized(1, 1000), sized(2, 1000), sized(3, 100))
	putLoose(d, "other", make([]byte, 801))
	checkErrno(t, "no room", j.Append(sized(4, 100)), api.ErrFull)
	checkList(t, "no room", d, "other", "x.0000000000")
	if d.Used() != 2901 || syncedOf(d, "x.0000000000") != 0 {
		t.Errorf("%d bytes used, %d synced", d.Used(), syncedOf(d, "x.0000000000"))
	}
	d.Crash(0)
	checkDeeds(t, "crashed", mustOpen(t, d))
}

func TestNumbersEnd(t *testing.T) {
	full := []api.Deed{sized(1, 1000), sized(2, 1000), sized(3, 48)}
	for _, number := range []int{0, 9, 99, 999999999, maxNumber - 1} {
		d := diskOf()
		put(d, fileName("x", number), rowOf(full...))
		appendAll(t, mustOpen(t, d), small(4)...)
		checkList(t, "the next number", d, fileName("x", number), fileName("x", number+1))
	}
	d := diskOf()
	putLoose(d, fileName("x", maxNumber), rowOf(full[:2]...))
	j := mustOpen(t, d)
	appendAll(t, j, full[2])
	before := testkit.TellDisk(d)
	checkErrno(t, "no number is left", j.Append(small(4)[0]), api.ErrFull)
	checkErrno(t, "a wrong deed", j.Append(small(3)[0]), api.ErrArg)
	checkDeeds(t, "no number is left", j, full...)
	if testkit.TellDisk(d) != before {
		t.Errorf("%s, was %s", testkit.TellDisk(d), before)
	}
	j.Cut(2)
	appendAll(t, j, small(4)...)
	checkDeeds(t, "cut", j, full[0], full[1], small(4)[0])
	j.Cut(0)
	appendAll(t, j, small(5)...)
	checkList(t, "from the first one on", d, fileName("x", 0))
}

// TestNumberBehindTheLast: one more than the last file's, whichever files went.
func TestNumberBehindTheLast(t *testing.T) {
	var row []api.Deed
	for z := range api.Zxid(9) {
		row = append(row, sized(z+1, 1000))
	}
	j, d := journalOf(t, row...)
	checkList(t, "three files", d, fileName("x", 0), fileName("x", 1), fileName("x", 2))
	j.Purge(9)
	checkList(t, "purged", d, fileName("x", 2))
	appendAll(t, j, small(10)...)
	checkList(t, "behind a purge", d, fileName("x", 2), fileName("x", 3))
	j.Cut(9)
	checkList(t, "cut", d, fileName("x", 2))
	appendAll(t, j, small(10)...)
	checkList(t, "behind a cut", d, fileName("x", 2), fileName("x", 3))
	j.Cut(8)
	appendAll(t, j, small(10)...)
	checkFile(t, "into a file that was cut", d, fileName("x", 2), rowOf(row[6], row[7], small(10)[0]), 2000)
	j.Cut(-1)
	appendAll(t, j, small(1)...)
	checkList(t, "behind nothing", d, fileName("x", 0))
}

func TestSync(t *testing.T) {
	row := []api.Deed{sized(1, 1000), sized(2, 1000), sized(3, 1000), sized(4, 100), sized(5, 200)}
	j, d := journalOf(t)
	checkErrno(t, "nothing", j.Sync(), api.OK)
	checkList(t, "nothing", d)
	appendAll(t, j, row[:2]...)
	checkFile(t, "not synced", d, fileName("x", 0), rowOf(row[:2]...), 0)
	checkErrno(t, "two", j.Sync(), api.OK)
	checkFile(t, "synced", d, fileName("x", 0), rowOf(row[:2]...), 2000)
	appendAll(t, j, row[2])
	checkFile(t, "one more", d, fileName("x", 0), rowOf(row[:3]...), 2000)
	appendAll(t, j, row[3])
	checkFile(t, "a new file", d, fileName("x", 0), rowOf(row[:3]...), 3000)
	checkFile(t, "a new file", d, fileName("x", 1), rowOf(row[3]), 0)
	checkErrno(t, "again", j.Sync(), api.OK)
	checkFile(t, "again", d, fileName("x", 1), rowOf(row[3]), 100)
	appendAll(t, j, row[4])
	checkErrno(t, "and again", j.Sync(), api.OK)
	checkErrno(t, "twice", j.Sync(), api.OK)
	checkFile(t, "and again", d, fileName("x", 1), rowOf(row[3:]...), 300)
}

// TestSyncOfWhatWasThere: what another journal has written and not synced, is synced by the one that was opened then.
func TestSyncOfWhatWasThere(t *testing.T) {
	_, d := journalOf(t, small(1, 2)...)
	j := mustOpen(t, d)
	checkFile(t, "opened", d, fileName("x", 0), rowOf(small(1, 2)...), 0)
	j.Sync()
	checkFile(t, "synced", d, fileName("x", 0), rowOf(small(1, 2)...), 28)

	d = disk.New(1000)
	for i := range 3 {
		putLoose(d, fileName("x", i), rowOf(small(api.Zxid(i+1))...))
	}
	j = mustOpen(t, d)
	j.Cut(2)
	checkFile(t, "cut", d, fileName("x", 0), rowOf(small(1)...), 0)
	j.Sync()
	checkFile(t, "synced", d, fileName("x", 0), rowOf(small(1)...), 14)
	checkFile(t, "synced", d, fileName("x", 1), rowOf(small(2)...), 14)
}

// TestNewFileSyncsWhatWasThere: of a journal that was opened again, too.
func TestNewFileSyncsWhatWasThere(t *testing.T) {
	row := []api.Deed{sized(1, 1000), sized(2, 1000), sized(3, 48)}
	_, d := journalOf(t, row...)
	appendAll(t, mustOpen(t, d), small(4)...)
	checkFile(t, "opened again", d, fileName("x", 0), rowOf(row...), 2048)
	checkFile(t, "opened again", d, fileName("x", 1), rowOf(small(4)...), 0)
}

// P15.3

func TestFrom(t *testing.T) {
	var row []api.Deed
	for z := range api.Zxid(12) {
		row = append(row, sized(3*z+2, 700))
	}
	j, d := journalOf(t, row...)
	if len(d.List()) < 4 {
		t.Errorf("%q", d.List())
	}
	places := append(upTo(-3, 40), math.MinInt64, math.MaxInt64, testkit.LastZxid)
	for _, j := range []*journal.Journal{j, mustOpen(t, d)} {
		checkDeeds(t, "all", j, row...)
		for _, z := range places {
			var want []api.Deed
			for _, x := range row {
				if x.Zxid > z {
					want = append(want, x)
				}
			}
			if got := j.From(z); !bytes.Equal(rowOf(got...), rowOf(want...)) {
				t.Errorf("From(%d): %v, want %v", z, zxids(got), zxids(want))
			}
		}
	}
}

func TestNothingToTell(t *testing.T) {
	j, _ := journalOf(t)
	for _, z := range []api.Zxid{math.MinInt64, -1, 0, 1, math.MaxInt64} {
		if got := j.From(z); len(got) != 0 {
			t.Errorf("From(%d): %v", z, zxids(got))
		}
	}
	checkDeeds(t, "nothing", j)
}

func TestDeedsOfAllKindsAreTold(t *testing.T) {
	row := slices.Concat(testkit.EachDeed()[:12], testkit.LongestDeeds(), testkit.EachDeed()[12:])
	j, d := journalOf(t, row...)
	checkDeeds(t, "appended", j, row...)
	checkDeeds(t, "opened again", mustOpen(t, d), row...)
}

// TestEmptyListsAreNone: R6.
func TestEmptyListsAreNone(t *testing.T) {
	j, d := journalOf(t, api.Deed{Zxid: 1, Kind: api.DeedSync, Data: []byte{}, Parts: []api.Deed{}, Config: api.Ensemble{Members: []api.Member{}}})
	checkDeeds(t, "empty lists", j, small(1)...)
	checkFile(t, "empty lists", d, fileName("x", 0), rowOf(small(1)...), 0)
}

// P15.4

// longRow: deeds with gaps between their zxids, which take four files: three, three, four (of which the last is short) and one.
func longRow() []api.Deed {
	var row []api.Deed
	for i, size := range []int{1000, 1000, 100, 900, 900, 900, 700, 700, 600, 500, 14} {
		z := api.Zxid(2 + 3*i)
		if size == 14 {
			row = append(row, small(z)...)
			continue
		}
		row = append(row, sized(z, size))
	}
	return row
}

// cutPlaces: all that lie about a long row's zxids.
func cutPlaces() []api.Zxid {
	return append(upTo(-2, 36), math.MinInt64, math.MaxInt64)
}

func TestCut(t *testing.T) {
	for _, synced := range []bool{false, true} {
		for _, z := range cutPlaces() {
			j, d := journalOf(t, longRow()...)
			if len(d.List()) != 4 {
				t.Fatalf("%q", d.List())
			}
			if synced {
				j.Sync()
			}
			m := openModel(d.Copy(), "x")
			what := fmt.Sprintf("Cut(%d)", z)
			checkErrno(t, what, j.Cut(z), api.OK)
			m.cut(z)
			checkLike(t, what, j, d, m)
			checkDeeds(t, what, j, slices.DeleteFunc(longRow(), func(x api.Deed) bool { return x.Zxid > z })...)
			stays := j.From(0)
			crashed := d.Copy()
			crashed.Crash(0)
			if again := mustOpen(t, crashed); !isBeginning(again.From(0), stays) {
				t.Errorf("%s, crashed: %v", what, zxids(again.From(0)))
			}
			x := small(50)[0]
			checkErrno(t, what+", and on", j.Append(x), m.append(x))
			checkLike(t, what+", and on", j, d, m)
			checkErrno(t, what+", twice", j.Cut(z), api.OK)
			m.cut(z)
			checkLike(t, what+", twice", j, d, m)
			checkOpen(t, what, d)
		}
	}
}

// TestCutOfNothing: what is not cut is not synced either.
func TestCutOfNothing(t *testing.T) {
	j, d := journalOf(t, small(1, 2, 3)...)
	before := testkit.TellDisk(d)
	for _, z := range []api.Zxid{3, 4, math.MaxInt64} {
		checkErrno(t, "Cut", j.Cut(z), api.OK)
	}
	if testkit.TellDisk(d) != before {
		t.Errorf("%s, was %s", testkit.TellDisk(d), before)
	}
	none, d := journalOf(t)
	checkErrno(t, "of no deeds", none.Cut(0), api.OK)
	checkList(t, "of no deeds", d)
}

func TestPurge(t *testing.T) {
	for _, synced := range []bool{false, true} {
		for _, z := range cutPlaces() {
			j, d := journalOf(t, longRow()...)
			if synced {
				j.Sync()
			}
			m := openModel(d.Copy(), "x")
			what := fmt.Sprintf("Purge(%d)", z)
			checkErrno(t, what, j.Purge(z), api.OK)
			m.purge(z)
			checkLike(t, what, j, d, m)
			gone := 0
			// The three files ahead of the last one have three, three and four deeds.
			for i, end := range []int{3, 6, 10} {
				if z >= longRow()[end-1].Zxid {
					gone = []int{3, 6, 10}[i]
				}
			}
			checkDeeds(t, what, j, longRow()[gone:]...)
			x := small(50)[0]
			checkErrno(t, what+", and on", j.Append(x), m.append(x))
			checkErrno(t, what+", twice", j.Purge(z), api.OK)
			m.purge(z)
			checkLike(t, what+", twice", j, d, m)
			checkOpen(t, what, d)
		}
	}
}

func TestPurgeOfOneFile(t *testing.T) {
	j, d := journalOf(t, small(1, 2)...)
	before := testkit.TellDisk(d)
	for _, z := range []api.Zxid{0, 1, 2, math.MaxInt64} {
		checkErrno(t, "Purge", j.Purge(z), api.OK)
		checkDeeds(t, "the last file stays", j, small(1, 2)...)
	}
	if testkit.TellDisk(d) != before {
		t.Errorf("%s, was %s", testkit.TellDisk(d), before)
	}
	none, d := journalOf(t)
	checkErrno(t, "of no deeds", none.Purge(9), api.OK)
	checkList(t, "of no deeds", d)
}

// TestCutAndPurge: both, at all places.
func TestCutAndPurge(t *testing.T) {
	_, whole := journalOf(t, longRow()...)
	for _, a := range cutPlaces() {
		for _, b := range cutPlaces() {
			for _, cutFirst := range []bool{false, true} {
				d := whole.Copy()
				j, m := mustOpen(t, d), openModel(whole.Copy(), "x")
				if cutFirst {
					j.Cut(a)
					m.cut(a)
				}
				j.Purge(b)
				m.purge(b)
				if !cutFirst {
					j.Cut(a)
					m.cut(a)
				}
				checkLike(t, fmt.Sprintf("Cut(%d) and Purge(%d), the cut first: %v", a, b, cutFirst), j, d, m)
			}
		}
	}
}

// R3

func TestDeedsHandedInStayAsTheyAre(t *testing.T) {
	for _, x := range slices.Concat(testkit.EachDeed(), testkit.WrongDeeds()) {
		given := testkit.RoomyDeed(x)
		before := tellAll(given)
		j, d := journalOf(t)
		errno := j.Append(given)
		if tellAll(given) != before {
			t.Errorf("kind %d: changed", x.Kind)
		}
		if errno != api.OK {
			continue
		}
		testkit.SpoilDeed(given)
		checkDeeds(t, "spoilt", j, x)
		checkFile(t, "spoilt", d, fileName("x", 0), framed(x), 0)
	}
}

// TestAnswersShareNothing: neither those of two calls, nor the deeds of one; and none with the journal.
func TestAnswersShareNothing(t *testing.T) {
	row := testkit.EachDeed()
	made, d := journalOf(t, row...)
	for _, j := range []*journal.Journal{made, mustOpen(t, d)} {
		one, other := j.From(0), j.From(0)
		for i, x := range one {
			testkit.SpoilDeed(x)
			if !bytes.Equal(rowOf(one[i+1:]...), rowOf(row[i+1:]...)) {
				t.Errorf("deed %d shares memory with one behind it", i)
			}
		}
		testkit.Spoil(one, api.Deed{Zxid: 77})
		if !bytes.Equal(rowOf(other...), rowOf(row...)) {
			t.Error("answers share memory")
		}
		checkDeeds(t, "spoilt", j, row...)
		for i := len(other) - 1; i >= 0; i-- {
			testkit.SpoilDeed(other[i])
			if !bytes.Equal(rowOf(other[:i]...), rowOf(row[:i]...)) {
				t.Errorf("deed %d shares memory with one ahead of it", i)
			}
		}
		checkDeeds(t, "spoilt", j, row...)
	}
	// What was told ahead of a cut stays as it was, though others are put in the place of what was cut.
	told := made.From(0)
	made.Cut(10)
	appendAll(t, made, small(11, 12, 13)...)
	if !bytes.Equal(rowOf(told...), rowOf(row...)) {
		t.Error("what was told has changed with the journal")
	}
}

// R5

func TestNoJournal(t *testing.T) {
	var none *journal.Journal
	for _, j := range []*journal.Journal{none, {}} {
		checkErrno(t, "Append", j.Append(small(1)[0]), api.ErrNil)
		checkErrno(t, "Append of a wrong deed", j.Append(api.Deed{}), api.ErrNil)
		checkErrno(t, "Sync", j.Sync(), api.ErrNil)
		checkErrno(t, "Cut", j.Cut(0), api.ErrNil)
		checkErrno(t, "Purge", j.Purge(0), api.ErrNil)
		if j.Last() != 0 || j.First() != 0 || len(j.From(-1)) != 0 {
			t.Error("it tells something")
		}
	}
}
