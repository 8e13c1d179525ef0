package attic_test

import (
	"bytes"
	"fmt"
	"math"
	"slices"
	"strings"
	"testing"

	"beadle/api"
	"beadle/attic"
	"beadle/disk"
	"beadle/segment"
	"beadle/testkit"
	"beadle/tree"
)

// The chapter's examples.

func TestExampleOfEpochs(t *testing.T) {
	d := disk.New(1000)
	a := mustOpen(t, d)
	if a.Boots() != 1 || a.Accepted() != 0 || a.Current() != 0 || a.Last() != 0 {
		t.Errorf("%v, Last %d", tellPaper(a), a.Last())
	}
	checkConfigs(t, "empty", a, boot())
	checkErrno(t, "SetEpochs(3, 2)", a.SetEpochs(3, 2), api.OK)
	d.Crash(0)
	if got := tellPaper(mustOpen(t, d)); got != [3]int{2, 3, 2} {
		t.Errorf("crashed: %v", got)
	}
}

func TestExampleOfDeeds(t *testing.T) {
	const epoch = 1 << 32
	a, d := atticOf(t, grown(epoch+1, 9), grown(epoch+2, 9))
	checkErrno(t, "Sync", a.Sync(), api.OK)
	mustAppend(t, a, grown(epoch+3, 9))
	d.Crash(0)
	if a = mustOpen(t, d); a.Last() != epoch+2 {
		t.Errorf("Last is %d", a.Last())
	}
}

// P16.1

func TestOpenOfNoDisk(t *testing.T) {
	for _, d := range []*disk.Disk{nil, {}} {
		for _, e := range []api.Ensemble{boot(), {}} {
			if a, errno := attic.Open(d, e); a != nil || errno != api.ErrNil {
				t.Errorf("%v, %v", a, errno)
			}
		}
	}
}

func TestOpenWithWrongConfigs(t *testing.T) {
	many := voters(0, 1, 2, 3, 4, 5, 6, 7, 7)
	for _, on := range []string{"nothing", "an attic", "no paper"} {
		d := disk.New(1000)
		switch on {
		case "an attic":
			mustOpen(t, d)
		case "no paper":
			put(d, "now", []byte("no"))
		}
		before := testkit.TellDisk(d)
		for want, e := range map[api.Errno]api.Ensemble{api.ErrConfig: {}, api.ErrLong: many} {
			if a, errno := attic.Open(d, e); a != nil || errno != want {
				t.Errorf("%s: %v, %v, want %v", on, a, errno, want)
			}
		}
		if testkit.TellDisk(d) != before {
			t.Errorf("%s: the disk is another one", on)
		}
	}
}

func TestOpenOfNothing(t *testing.T) {
	d := disk.New(100)
	a := mustOpen(t, d)
	checkList(t, "new", d, "now")
	checkFile(t, "new", d, "now", paperOf(0, 1, 0, 0, 0))
	if len(a.Image()) != 0 || a.Base() != 0 || len(a.Deeds(0)) != 0 {
		t.Error("there is something")
	}
	checkTree(t, "new", a, tree.New(), 0)
}

func TestBootsAreCounted(t *testing.T) {
	d := disk.New(100)
	for boots := 1; boots < 300; boots++ {
		a := mustOpen(t, d)
		if a.Boots() != boots {
			t.Fatalf("%d, want %d", a.Boots(), boots)
		}
		checkFile(t, "opened", d, "now", paperOf(0, int64(boots), 0, 0, 0))
	}
}

func TestPapersThatAreRight(t *testing.T) {
	for _, p := range []numbers{
		{}, {0, 0, 1, 0, 0}, {0, 0, 1, 1, 0}, {7, 300, 1 << 30, 1 << 30, 0}, {10, 1, 5, 4, 0}, {1234567890, 3, 2, 1, 0}, {0, math.MaxInt64 - 1, 0, 0, 0}, {999999999999999999, 1, 0, 0, 0},
		{0, 0, 0, 0, 1}, {3, 9, 7, 0, 1}, {1234567890, 3, 2, 1, 1}, {999999999999999999, 1, 0, 0, 1},
	} {
		d := disk.New(10000)
		put(d, "now", paperOf(p[:]...))
		if p[4] == 1 {
			put(d, imageName(p[0]), bare(3, 4, boot()))
		}
		what := fmt.Sprint(p)
		a, d, _ := checkOpen(t, what, d)
		if a == nil {
			t.Errorf("%s: no attic", what)
			continue
		}
		if got, want := tellPaper(a), [3]int{int(p[1]) + 1, int(p[2]), int(p[3])}; got != want {
			t.Errorf("%s: %v, want %v", what, got, want)
		}
		checkFile(t, what, d, "now", paperOf(p[0], p[1]+1, p[2], p[3], p[4]))
		mustAppend(t, a, grown(9, 9))
		if name := (&model{}).journalName(p[0]) + ".0000000000"; !slices.Contains(d.List(), name) {
			t.Errorf("%s: %q, want %s", what, d.List(), name)
		}
	}
}

func TestNamesOfGenerations(t *testing.T) {
	for generation, name := range map[int64]string{0: "ga", 1: "gb", 9: "gj", 10: "gba", 19: "gbj", 1234567890: "gbcdefghija", 999999999999999999: "g" + strings.Repeat("j", 18)} {
		d := disk.New(10000)
		put(d, "now", paperOf(generation, 1, 0, 0, 0))
		a := mustOpen(t, d)
		mustAppend(t, a, grown(9, 9))
		checkList(t, fmt.Sprint(generation), d, name+".0000000000", "now")
		checkErrno(t, fmt.Sprint("Store in ", generation), a.Store(bare(9, 9, boot())), api.OK)
		checkList(t, fmt.Sprint(generation, ", stored"), d, name+".0000000000", fmt.Sprint("i", generation), "now")
	}
}

// wrongPapers: bytes of the file now that are no paper.
func wrongPapers() [][]byte {
	right := paperOf(1, 2, 4, 3, 0)
	out := [][]byte{
		{}, []byte("no"), make([]byte, 8), paperOf(), paperOf(0), paperOf(0, 1, 0, 0), paperOf(0, 1, 0, 0, 0, 0), paperOf(0, 1, 0, 0, 1, 0),
		paperOf(-1, 1, 0, 0, 0), paperOf(0, -1, 0, 0, 0), paperOf(0, 1, -1, -1, 0), paperOf(0, 1, 0, -1, 0), paperOf(0, 1, 0, 1, 0), paperOf(0, 1, 3, 4, 0),
		paperOf(0, 1, 1<<30+1, 0, 0), paperOf(0, 1, 1<<30+1, 1<<30+1, 0), paperOf(0, 1, 0, 0, 2), paperOf(0, 1, 0, 0, -1), paperOf(math.MinInt64, 1, 0, 0, 0), paperOf(0, math.MinInt64, 0, 0, 0),
		append(bytes.Clone(right), 0), append(bytes.Clone(right), right...), bare(0, 0, boot()),
	}
	for end := range right {
		out = append(out, right[:end])
	}
	for bit := range 8 * len(right) {
		turned := bytes.Clone(right)
		turned[bit/8] ^= 1 << (bit % 8)
		out = append(out, turned)
	}
	return out
}

func TestPapersThatAreNone(t *testing.T) {
	for _, b := range wrongPapers() {
		d := disk.New(10000)
		put(d, "now", b)
		putLoose(d, "next", paperOf(0, 1, 0, 0, 0))
		putLoose(d, "ga.0000000000", []byte("torn"))
		put(d, "i7", bare(1, 1, boot()))
		if _, _, errno := checkOpen(t, fmt.Sprintf("%x", b), d); errno != api.ErrShape {
			t.Errorf("%x: %v", b, errno)
		}
	}
}

func TestImagesThatAreNone(t *testing.T) {
	for generation := range int64(3) {
		for i, b := range append(noImages(), nil) {
			d := disk.New(10000)
			put(d, "now", paperOf(generation, 1, 0, 0, 1))
			what := fmt.Sprintf("image %d of generation %d", i, generation)
			if i < len(noImages()) {
				put(d, imageName(generation), b)
			}
			put(d, "i9", bare(1, 1, boot()))
			putLoose(d, "new", bare(1, 1, boot()))
			putLoose(d, (&model{}).journalName(generation)+".0000000000", []byte("torn"))
			if _, _, errno := checkOpen(t, what, d); errno != api.ErrShape {
				t.Errorf("%s: %v", what, errno)
			}
			// What the paper does not speak of is not looked at.
			d.Remove("now")
			put(d, "now", paperOf(generation, 1, 0, 0, 0))
			if _, _, errno := checkOpen(t, what, d); errno != api.OK {
				t.Errorf("%s, which the paper does not speak of: %v", what, errno)
			}
		}
	}
}

// TestGenerationsWithoutAJournal: no journal has so long a name, and no file.
func TestGenerationsWithoutAJournal(t *testing.T) {
	for _, generation := range []int64{1000000000000000000, math.MaxInt64} {
		for has, want := range []api.Errno{api.ErrArg, api.ErrShape, api.ErrArg} {
			d := disk.New(10000)
			put(d, "now", paperOf(generation, 1, 0, 0, int64(min(has, 1))))
			if has == 2 {
				put(d, imageName(generation), bare(1, 1, boot()))
			}
			putLoose(d, "next", []byte("left over"))
			if _, _, errno := checkOpen(t, fmt.Sprint(generation), d); errno != want {
				t.Errorf("%d, case %d: %v, want %v", generation, has, errno, want)
			}
		}
	}
}

// TestOpenWithoutAPaper: it is generation 0, which has no image.
func TestOpenWithoutAPaper(t *testing.T) {
	_, d := atticOf(t, row(1, 12)...)
	d.Remove("now")
	put(d, "i0", imageOf(row(1, 12), 3, 5))
	put(d, "gb.0000000000", []byte("another generation's"))
	a, d, _ := checkOpen(t, "without a paper", d)
	checkDeeds(t, "without a paper", a.Deeds(0), row(1, 12))
	checkList(t, "without a paper", d, "ga.0000000000", "ga.0000000001", "now")
	if a.Boots() != 1 || len(a.Image()) != 0 {
		t.Errorf("%d boots, an image of %d bytes", a.Boots(), len(a.Image()))
	}
}

// othersFiles: none of an attic's, by their names.
func othersFiles() []string {
	return []string{
		"a", "x", "now.", "now0", "next.", "next0", "nex", "new0", "new.", "ne", "n", "0", "1", ".", "-", "i", "g", "i-1", "i-0", "i00", "i01", "i007", "i1a", "ia", "ix", "i1.", "i1.0000000000", "i.1", "1i", "ii1",
		"ga", "gb", "ga.", "gb.", "ga.0", "gb.1", "gb.000000001", "gb.00000000000", "gb.00000000001", "gb.000000000a", "gb.a000000000", "gb-0000000000", "gb..0000000000", "gb.0000000000.0000000000", "gb.000000000.",
		"gc", "gc.", "gc.0", "gc.000000001", "gc.00000000000", "gc.000000000a", "gc.a000000000", "gc-0000000000", "gc..0000000000", "gc.0000000000.0000000000", "gc.000000000.",
		"g.0000000000", "gk.0000000000", "gbk.0000000000", "gkb.0000000000", "gaa.0000000000", "gab.0000000000", "gaaa.0000000000", "g0.0000000000", "g1.0000000000", "gg1.0000000000",
		"ha.0000000000", "agb.0000000000", "b.0000000000", "x.0000000000", "journal.0000000000", ".0000000000", "g-b.0000000000", "i" + strings.Repeat("0", 29),
	}
}

// leftOvers: an attic's, by their names, but none of the generation 1.
func leftOvers() []string {
	return []string{
		"next", "new", "i0", "i2", "i9", "i10", "i11", "i100", "i1234567890", "i9223372036854775808", "i1" + strings.Repeat("0", 28), "i" + strings.Repeat("9", 29),
		"ga.0000000000", "ga.0000000007", "ga.9999999999", "gc.0000000000", "gj.1234567890", "gba.0000000000", "gbb.0000000001", "gbcdefghij.0000000000", "gjjj.0000000000", "gb" + strings.Repeat("a", 17) + ".0000000000",
	}
}

func TestLeftOversAreRemoved(t *testing.T) {
	for has := range int64(2) {
		d, others := disk.New(1<<20), disk.New(1<<20)
		for i, name := range othersFiles() {
			for _, it := range []*disk.Disk{d, others} {
				put(it, name, []byte(fmt.Sprint("others' ", i)))
				putLoose(it, name, []byte(", not synced"))
			}
		}
		for i, name := range leftOvers() {
			put(d, name, bare(api.Zxid(i), api.Zxid(i), boot()))
			putLoose(d, name, []byte{0})
		}
		put(d, "i1", bare(3, 3, boot()))
		b, _ := segment.Put(grown(5, 9))
		put(d, "gb.0000000000", b)
		put(d, "gb.0000000004", nil)
		put(d, "now", paperOf(1, 1, 0, 0, has))
		what := fmt.Sprint("image: ", has)
		a, d, _ := checkOpen(t, what, d)
		checkDeeds(t, what, a.Deeds(0), []api.Deed{grown(5, 9)})
		own := []string{"gb.0000000000", "now"}
		if has == 1 {
			own = []string{"gb.0000000000", "i1", "now"}
		}
		all := slices.Concat(own, othersFiles())
		slices.Sort(all)
		checkList(t, what, d, all...)
		for _, name := range own {
			d.Remove(name)
		}
		checkSameDisk(t, what, d, others)
	}
}

// TestOpenOnLittleRoom: whatever room there is, the paper is written, or the disk is as it was.
func TestOpenOnLittleRoom(t *testing.T) {
	torn, _ := segment.Put(grown(1, 9))
	fill := map[string]func(d *disk.Disk) bool{
		"nothing":       func(d *disk.Disk) bool { return true },
		"a paper":       func(d *disk.Disk) bool { return d.Append("now", paperOf(3, 63, 1<<30, 5, 0)) == api.OK },
		"left over":     func(d *disk.Disk) bool { return d.Append("new", make([]byte, 10)) == api.OK },
		"a long one":    func(d *disk.Disk) bool { return d.Append("i0", make([]byte, 15)) == api.OK },
		"what was next": func(d *disk.Disk) bool { return d.Append("next", paperOf(0, 1, 0, 0, 0)) == api.OK },
		"a torn journal": func(d *disk.Disk) bool {
			return d.Append("ga.0000000000", append(bytes.Clone(torn), 1, 2, 3, 4, 5)) == api.OK
		},
		"others'": func(d *disk.Disk) bool { return d.Append("x", []byte("others'")) == api.OK },
	}
	said := map[api.Errno]int{}
	for what, write := range fill {
		for room := range 100 {
			if d := disk.New(room); write(d) {
				_, _, errno := checkOpen(t, fmt.Sprintf("%s, room of %d", what, room), d)
				said[errno]++
			}
		}
	}
	if said[api.OK] < 100 || said[api.ErrFull] < 50 || len(said) != 2 {
		t.Error(said)
	}
}

// TestTornJournals: they are read as far as they are whole.
func TestTornJournals(t *testing.T) {
	_, whole := atticOf(t, row(1, 4)...)
	b, _ := whole.Read("ga.0000000000")
	for end := range b {
		d := whole.Copy()
		d.Cut("ga.0000000000", end)
		checkOpen(t, fmt.Sprint(end, " bytes are left"), d)
	}
}

// P16.2

func TestSetEpochs(t *testing.T) {
	edges := []int{math.MinInt, -1, 0, 1, 2, 3, 4, 5, 6, 1<<30 - 1, 1 << 30, 1<<30 + 1, math.MaxInt}
	for _, was := range [][2]int{{0, 0}, {5, 0}, {5, 3}, {5, 5}, {1 << 30, 2}, {1 << 30, 1 << 30}} {
		for _, accepted := range edges {
			for _, current := range edges {
				d := disk.New(100)
				a := mustOpen(t, d)
				checkErrno(t, fmt.Sprint(was), a.SetEpochs(was[0], was[1]), api.OK)
				what := fmt.Sprintf("%v, then %d, %d", was, accepted, current)
				want, epochs := api.ErrArg, was
				if 0 <= current && current <= accepted && accepted <= 1<<30 && accepted >= was[0] && current >= was[1] {
					want, epochs = api.OK, [2]int{accepted, current}
				}
				checkErrno(t, what, a.SetEpochs(accepted, current), want)
				if got := tellPaper(a); got != [3]int{1, epochs[0], epochs[1]} {
					t.Errorf("%s: %v", what, got)
				}
				checkFile(t, what, d, "now", paperOf(0, 1, int64(epochs[0]), int64(epochs[1]), 0))
				checkList(t, what, d, "now")
			}
		}
	}
}

// TestSetEpochsOnLittleRoom: the new paper stands beside the old one for a while.
func TestSetEpochsOnLittleRoom(t *testing.T) {
	said := map[api.Errno]int{}
	for room := range 60 {
		d := disk.New(room)
		a, errno := attic.Open(d, boot())
		if errno != api.OK {
			continue
		}
		m := &model{d: d.Copy(), boot: boot()}
		for _, epochs := range [][2]int{{1, 0}, {1, 0}, {100, 0}, {100, 99}, {1 << 20, 1 << 20}, {1 << 30, 1 << 30}} {
			what := fmt.Sprintf("room of %d, epochs %v", room, epochs)
			errno := a.SetEpochs(epochs[0], epochs[1])
			checkErrno(t, what, errno, m.setEpochs(epochs[0], epochs[1]))
			checkSameDisk(t, what, d, m.d)
			p := m.paper()
			if got := tellPaper(a); got != [3]int{int(p[1]), int(p[2]), int(p[3])} {
				t.Errorf("%s: %v, want %v", what, got, p)
			}
			said[errno]++
		}
	}
	if said[api.OK] < 60 || said[api.ErrFull] < 20 || len(said) != 2 {
		t.Error(said)
	}
}

// TestSetEpochsOfTheSame: the paper is written, whatever it was.
func TestSetEpochsOfTheSame(t *testing.T) {
	a, d := atticOf(t)
	checkErrno(t, "SetEpochs", a.SetEpochs(3, 2), api.OK)
	d.Remove("now")
	putLoose(d, "next", []byte("somebody else's"))
	checkErrno(t, "the same", a.SetEpochs(3, 2), api.OK)
	checkList(t, "the same", d, "now")
	checkFile(t, "the same", d, "now", paperOf(0, 1, 3, 2, 0))
}

func TestLastAndBase(t *testing.T) {
	a, _ := atticOf(t)
	check := func(what string, last, base api.Zxid) {
		t.Helper()
		if a.Last() != last || a.Base() != base {
			t.Errorf("%s: Last %d, Base %d, want %d, %d", what, a.Last(), a.Base(), last, base)
		}
	}
	check("empty", 0, 0)
	mustAppend(t, a, row(1, 9)...)
	check("nine deeds", 9, 0)
	a.Store(imageOf(row(1, 9), 4, 6))
	check("stored", 9, 4)
	a.Cut(6)
	check("cut", 6, 4)
	a.Install(bare(20, 25, boot()))
	check("installed", 20, 20)
	a.Append(grown(21, 9))
	check("one more", 21, 20)
	a.Store(bare(21, 21, boot()))
	check("stored at the last one", 21, 21)
	a.Install(bare(3, 3, boot()))
	check("installed behind", 3, 3)
	a.Install(bare(0, 7, boot()))
	check("installed at 0", 0, 0)
}

func TestConfigs(t *testing.T) {
	deeds := row(1, 22)
	a, d := atticOf(t, deeds...)
	fives := []api.Ensemble{deeds[4].Config, deeds[9].Config, deeds[14].Config, deeds[19].Config}
	checkConfigs(t, "no image", a, append([]api.Ensemble{boot()}, fives...)...)
	for _, from := range []api.Zxid{3, 4, 5, 6, 9, 10, 14, 20, 22} {
		a.Store(imageOf(deeds, from, from))
		known := append([]api.Ensemble{boot()}, fives...)[from/5:]
		checkConfigs(t, fmt.Sprint("from ", from), a, known...)
		checkConfigs(t, fmt.Sprint("from ", from, ", opened again"), mustOpen(t, d.Copy()), known...)
	}
	// Those of deeds that the image stands for do not come again, though they may be in the journal.
	a, _ = atticOf(t, row(1, 7)...)
	a.Store(bare(5, 7, voters(4, 7)))
	checkConfigs(t, "base 5", a, voters(4, 7))
	a.Install(bare(30, 31, voters(9, 3)))
	checkConfigs(t, "installed", a, voters(9, 3))
	mustAppend(t, a, becomes(40, 1), becomes(41, 2))
	checkConfigs(t, "two more", a, voters(9, 3), voters(40, 1), voters(41, 2))
	a.Cut(40)
	checkConfigs(t, "one less", a, voters(9, 3), voters(40, 1))
}

// TestConfigItWasOpenedWith: it counts as long as there is no image.
func TestConfigItWasOpenedWith(t *testing.T) {
	d := disk.New(10000)
	for _, e := range []api.Ensemble{voters(0, 1), voters(7, 2, 5), voters(3, 4)} {
		a, _ := attic.Open(d, e)
		checkConfigs(t, "no image", a, e)
	}
	mustOpen(t, d).Install(bare(1, 1, voters(9, 6)))
	a, _ := attic.Open(d, voters(0, 1))
	checkConfigs(t, "an image", a, voters(9, 6))
}

// P16.3

func TestAppend(t *testing.T) {
	a, d := atticOf(t)
	for _, x := range testkit.WrongDeeds() {
		checkErrno(t, fmt.Sprintf("%.100v", x), a.Append(x), api.ErrArg)
	}
	var kept []api.Deed
	for _, x := range testkit.EachDeed() {
		checkErrno(t, fmt.Sprint("kind ", x.Kind), a.Append(x), api.OK)
		checkErrno(t, fmt.Sprint("kind ", x.Kind, " again"), a.Append(x), api.ErrArg)
		kept = append(kept, x)
		if a.Last() != x.Zxid {
			t.Errorf("Last is %d, want %d", a.Last(), x.Zxid)
		}
	}
	checkDeeds(t, "each kind", a.Deeds(0), kept)
	checkDeeds(t, "opened again", mustOpen(t, d).Deeds(0), kept)
}

func TestAppendAtTheBase(t *testing.T) {
	a, d := atticOf(t)
	a.Install(bare(9, 12, boot()))
	before := testkit.TellDisk(d)
	for _, z := range []api.Zxid{1, 8, 9} {
		checkErrno(t, fmt.Sprint("Append of ", z), a.Append(grown(z, 9)), api.ErrArg)
	}
	if testkit.TellDisk(d) != before {
		t.Error("the disk is another one")
	}
	checkErrno(t, "Append of 10", a.Append(grown(10, 9)), api.OK)
	checkErrno(t, "Append of 10 again", a.Append(grown(10, 9)), api.ErrArg)
	checkErrno(t, "Append of 13", a.Append(grown(13, 9)), api.OK)
}

func TestAppendOnLittleRoom(t *testing.T) {
	d := disk.New(3000)
	a := mustOpen(t, d)
	z := api.Zxid(1)
	for ; a.Append(grown(z, 300)) == api.OK; z++ {
		a.Sync()
	}
	before := testkit.TellDisk(d)
	checkErrno(t, "full", a.Append(grown(z, 300)), api.ErrFull)
	checkErrno(t, "full, a wrong deed", a.Append(api.Deed{}), api.ErrArg)
	if testkit.TellDisk(d) != before || a.Last() != z-1 || z < 8 {
		t.Errorf("Last %d", a.Last())
	}
}

func TestSync(t *testing.T) {
	a, d := atticOf(t, row(1, 20)...)
	other := d.Copy()
	other.Crash(0)
	if got := mustOpen(t, other).Last(); got == 20 {
		t.Error("all deeds are synced, though nobody asked for it")
	}
	checkErrno(t, "Sync", a.Sync(), api.OK)
	d.Crash(0)
	checkDeeds(t, "synced", mustOpen(t, d).Deeds(0), row(1, 20))
}

func TestCut(t *testing.T) {
	for _, has := range []bool{false, true} {
		for z := api.Zxid(-3); z <= 22; z++ {
			a, d := atticOf(t, row(1, 20)...)
			a.Sync()
			if has {
				a.Store(imageOf(row(1, 20), 5, 9))
			}
			what := fmt.Sprintf("an image: %v, Cut(%d)", has, z)
			before := testkit.TellDisk(d)
			if has && z < 9 {
				checkErrno(t, what, a.Cut(z), api.ErrArg)
				if testkit.TellDisk(d) != before {
					t.Errorf("%s: the disk is another one", what)
				}
				continue
			}
			checkErrno(t, what, a.Cut(z), api.OK)
			last := min(max(z, 0), 20)
			if a.Last() != last {
				t.Errorf("%s: Last %d", what, a.Last())
			}
			checkDeeds(t, what, a.Deeds(0), row(a.Base()+1, last))
			d.Crash(0)
			a = mustOpen(t, d)
			checkDeeds(t, what+", crashed", a.Deeds(0), row(a.Base()+1, last))
			if last < 20 {
				checkErrno(t, what+": Append", a.Append(grown(last+1, 9)), api.OK)
			}
		}
	}
	a, _ := atticOf(t)
	a.Install(bare(0, 0, boot()))
	checkErrno(t, "below an image at 0", a.Cut(-1), api.ErrArg)
	checkErrno(t, "at an image at 0", a.Cut(0), api.OK)
}

func TestDeeds(t *testing.T) {
	a, _ := atticOf(t, row(1, 20)...)
	for _, from := range []api.Zxid{0, 1, 6, 7, 8, 12, 19, 20} {
		if from > 0 {
			checkErrno(t, "Store", a.Store(imageOf(row(1, 20), from, from)), api.OK)
		}
		for _, z := range []api.Zxid{math.MinInt64, -1, 0, 1, 5, 6, 7, 8, 11, 19, 20, 21, math.MaxInt64} {
			checkDeeds(t, fmt.Sprintf("base %d, Deeds(%d)", from, z), a.Deeds(z), row(min(max(z, from), 30)+1, 20))
		}
	}
}

// P16.4

func TestStore(t *testing.T) {
	deeds := row(1, 20)
	for from := api.Zxid(0); from <= 20; from++ {
		for _, to := range []api.Zxid{from, from + 1, from + 6, 20} {
			if to < from || to > 20 {
				continue
			}
			a, d := atticOf(t, deeds...)
			what := fmt.Sprintf("Store of %d to %d", from, to)
			b := imageOf(deeds, from, to)
			checkErrno(t, what, a.Store(b), api.OK)
			checkFile(t, what, d, "i0", b)
			checkFile(t, what, d, "now", paperOf(0, 1, 0, 0, 1))
			if !bytes.Equal(a.Image(), b) {
				t.Errorf("%s: another image", what)
			}
			checkTree(t, what, a, treeOf(deeds, to), to)
			checkDeeds(t, what, a.Deeds(0), row(from+1, 20))
			d.Crash(0)
			a = mustOpen(t, d)
			checkTree(t, what+", crashed", a, treeOf(deeds, to), to)
			checkDeeds(t, what+", crashed", a.Deeds(0), row(from+1, 20))
			if a.Base() != from || a.Last() != 20 {
				t.Errorf("%s, crashed: Base %d, Last %d", what, a.Base(), a.Last())
			}
		}
	}
}

// TestStorePurges: the files that the image stands for go.
func TestStorePurges(t *testing.T) {
	deeds := row(1, 40)
	a, d := atticOf(t, deeds...)
	files := len(d.List())
	for _, from := range []api.Zxid{0, 6, 20, 40} {
		checkErrno(t, "Store", a.Store(imageOf(deeds, from, from)), api.OK)
		j := a.Deeds(0)
		checkDeeds(t, "stored", j, row(from+1, 40))
		if from == 20 && len(d.List()) >= files {
			t.Errorf("%q", d.List())
		}
	}
	if list := d.List(); len(list) != 3 || files < 5 {
		t.Errorf("%d files before, %q", files, list)
	}
}

func TestStoreOfNoImage(t *testing.T) {
	a, d := atticOf(t, row(1, 9)...)
	for range 2 {
		before := testkit.TellDisk(d)
		for i, b := range noImages() {
			checkErrno(t, fmt.Sprint("Store ", i), a.Store(b), api.ErrShape)
			checkErrno(t, fmt.Sprint("Install ", i), a.Install(b), api.ErrShape)
		}
		if testkit.TellDisk(d) != before || a.Last() != 9 {
			t.Error("the disk is another one")
		}
		a.Store(imageOf(row(1, 9), 2, 4))
	}
}

func TestStoreOutOfPlace(t *testing.T) {
	a, d := atticOf(t, row(1, 9)...)
	check := func(from, to api.Zxid, want api.Errno) {
		t.Helper()
		before := testkit.TellDisk(d)
		what := fmt.Sprintf("%d to %d", from, to)
		checkErrno(t, what, a.Store(bare(from, to, boot())), want)
		if want != api.OK && testkit.TellDisk(d) != before {
			t.Errorf("%s: the disk is another one", what)
		}
	}
	check(0, 10, api.ErrArg)
	check(10, 10, api.ErrArg)
	check(9, 1<<40, api.ErrArg)
	check(4, 9, api.OK)
	check(3, 9, api.ErrArg)
	check(0, 0, api.ErrArg)
	check(4, 4, api.OK)
	check(9, 9, api.OK)
	check(8, 9, api.ErrArg)
	check(9, 10, api.ErrArg)
	a.Install(bare(20, 30, boot()))
	check(20, 20, api.OK)
	check(20, 21, api.ErrArg)
	check(19, 20, api.ErrArg)
}

// TestOnLittleRoom: Store and Install where there was an image and where there was none, with any room.
func TestOnLittleRoom(t *testing.T) {
	said := map[api.Errno]int{}
	deeds := row(1, 7)
	short, long := bare(2, 4, boot()), imageOf(deeds, 3, 6)
	for _, first := range [][]byte{nil, short, long} {
		for _, second := range [][]byte{short, long, bare(0, 3, boot())} {
			for _, install := range []bool{false, true} {
				_, whole := atticOf(t, deeds...)
				for spare := range 90 {
					room := whole.Used() + len(first) + len(second) - 40 + spare
					if spare >= 70 {
						room = whole.Used() + len(first) + spare - 70
					}
					errno := checkLittleRoom(t, room, deeds, first, second, install)
					said[errno]++
					if t.Failed() {
						return
					}
				}
			}
		}
	}
	if said[api.OK] < 200 || said[api.ErrFull] < 200 || said[api.ErrArg] < 50 || len(said) != 3 {
		t.Error(said)
	}
}

// checkLittleRoom: on a disk of so much room one image is stored, then another one is stored or installed; the attic is as the model is all the while.
func checkLittleRoom(t *testing.T, room int, deeds []api.Deed, first, second []byte, install bool) api.Errno {
	t.Helper()
	what := fmt.Sprintf("room of %d, images of %d, %d bytes, install: %v", room, len(first), len(second), install)
	d, like := disk.New(room), disk.New(room)
	a, errno := attic.Open(d, boot())
	m, want := openModel(like, boot())
	checkErrno(t, what, errno, want)
	if errno != api.OK {
		return api.ErrFull
	}
	for _, x := range deeds {
		checkErrno(t, what, a.Append(x), m.append(x))
	}
	if len(first) > 0 {
		checkErrno(t, what+": Store", a.Store(first), m.store(first))
		checkLike(t, what+": stored", a, d, m)
	}
	if install {
		errno, want = a.Install(second), m.install(second)
	} else {
		errno, want = a.Store(second), m.store(second)
	}
	checkErrno(t, what, errno, want)
	checkLike(t, what, a, d, m)
	checkErrno(t, what+": on", a.Append(grown(9, 0)), m.append(grown(9, 0)))
	checkLike(t, what+": on", a, d, m)
	checkOpen(t, what+": opened again", d)
	return errno
}

// TestFilesInTheWay: what others have put to the names of files that are to be written is gone, and plays no part.
func TestFilesInTheWay(t *testing.T) {
	b := imageOf(row(1, 9), 4, 6)
	for _, install := range []bool{false, true} {
		a, d := atticOf(t, row(1, 9)...)
		other, _ := segment.Put(grown(7, 9))
		for _, name := range []string{"new", "next", "i0", "i1", "gb.0000000000", "gb.0000000003"} {
			if install || name[0] != 'g' && name != "i1" {
				putLoose(d, name, other)
			}
		}
		want := []string{"ga.0000000000", "ga.0000000001", "i0", "now"}
		if install {
			checkErrno(t, "Install", a.Install(b), api.OK)
			want = []string{"i1", "now"}
		} else {
			checkErrno(t, "Store", a.Store(b), api.OK)
		}
		checkList(t, fmt.Sprint("install: ", install), d, want...)
		checkFile(t, fmt.Sprint("install: ", install), d, want[len(want)-2], b)
		if install && (len(a.Deeds(0)) > 0 || a.Last() != 4) {
			t.Errorf("Last %d", a.Last())
		}
		mustOpen(t, d)
	}
}

// TestFileThatIsNoImage: the paper says whether there is one.
func TestFileThatIsNoImage(t *testing.T) {
	a, d := atticOf(t, row(1, 9)...)
	put(d, "i0", imageOf(row(1, 9), 4, 6))
	if len(a.Image()) > 0 || a.Base() != 0 {
		t.Error("there is an image that nobody stored")
	}
	checkTree(t, "no image", a, tree.New(), 0)
}

// P16.5

func TestInstall(t *testing.T) {
	a, d := atticOf(t, row(1, 20)...)
	a.SetEpochs(4, 3)
	for generation := int64(1); generation <= 12; generation++ {
		what := fmt.Sprint("generation ", generation)
		z := api.Zxid(generation*7) % 30
		b := bare(z, z+1, voters(z, 3))
		checkErrno(t, what, a.Install(b), api.OK)
		checkList(t, what, d, imageName(generation), "now")
		checkFile(t, what, d, imageName(generation), b)
		checkFile(t, what, d, "now", paperOf(generation, 1, 4, 3, 1))
		if a.Last() != z || a.Base() != z || len(a.Deeds(0)) != 0 || !bytes.Equal(a.Image(), b) || tellPaper(a) != [3]int{1, 4, 3} {
			t.Errorf("%s: Last %d, Base %d, %v", what, a.Last(), a.Base(), tellPaper(a))
		}
		checkConfigs(t, what, a, voters(z, 3))
		checkOpen(t, what, d)
		mustAppend(t, a, row(z+1, z+9)...)
		checkDeeds(t, what, a.Deeds(0), row(z+1, z+9))
		checkOpen(t, what+", and on", d)
	}
}

// TestInstallBeyondAllGenerations: there is no journal for another one.
func TestInstallBeyondAllGenerations(t *testing.T) {
	d := disk.New(10000)
	put(d, "now", paperOf(999999999999999999, 1, 0, 0, 0))
	a := mustOpen(t, d)
	mustAppend(t, a, grown(1, 9))
	before := testkit.TellDisk(d)
	checkErrno(t, "Install", a.Install(bare(3, 3, boot())), api.ErrArg)
	if testkit.TellDisk(d) != before || a.Last() != 1 || len(a.Image()) > 0 {
		t.Errorf("Last %d\n%s", a.Last(), testkit.TellDisk(d))
	}
}

// P16.6

func TestTreeOfDeedsUpToTo(t *testing.T) {
	deeds := row(1, 20)
	a, d := atticOf(t, deeds[:8]...)
	checkTree(t, "no image", a, tree.New(), 0)
	a.Store(imageOf(deeds, 3, 7))
	checkTree(t, "stored", a, treeOf(deeds, 7), 7)
	mustAppend(t, a, deeds[8:]...)
	checkTree(t, "and on", a, treeOf(deeds, 7), 7)
	a.Cut(7)
	checkTree(t, "cut", a, treeOf(deeds, 7), 7)
	checkTree(t, "opened again", mustOpen(t, d), treeOf(deeds, 7), 7)
}

// TestTreeThatIsNotReached: an image that was installed may want deeds that are still to come.
func TestTreeThatIsNotReached(t *testing.T) {
	deeds := row(1, 20)
	a, d := atticOf(t)
	a.Install(imageOf(deeds, 6, 9))
	for z := api.Zxid(7); z <= 12; z++ {
		x, at, errno := a.Tree()
		if z <= 9 {
			if x != nil || at != 0 || errno != api.ErrNone {
				t.Errorf("ahead of %d: a tree at %d, %v", z, at, errno)
			}
		} else {
			checkTree(t, fmt.Sprint("ahead of ", z), a, treeOf(deeds, 9), 9)
		}
		mustAppend(t, a, deeds[z-1])
	}
	checkTree(t, "opened again", mustOpen(t, d), treeOf(deeds, 9), 9)
	a.Install(imageOf(deeds, 9, 9))
	checkTree(t, "whole at once", a, treeOf(deeds, 9), 9)
}

func TestTreesAreTheirOwn(t *testing.T) {
	deeds := row(1, 9)
	a, _ := atticOf(t, deeds...)
	for range 2 {
		x, z, _ := a.Tree()
		want := x.Copy()
		x.Apply(api.Deed{Zxid: 99, Kind: api.DeedCreate, Path: "/other", Cversion: 99})
		checkTree(t, "once more", a, want, z)
		a.Store(imageOf(deeds, 2, 5))
	}
}

// R3

func TestNothingHandedInIsKeptOrChanged(t *testing.T) {
	e := boot()
	e.Members = testkit.WithRoom(e.Members, api.Member{Id: 99})
	d := disk.New(1 << 20)
	a, _ := attic.Open(d, e)
	testkit.Spoil(e.Members, api.Member{Id: 77})
	checkConfigs(t, "boot", a, boot())
	for _, x := range testkit.EachDeed() {
		roomy := testkit.RoomyDeed(x)
		before := fmt.Sprint(roomy, roomy.Data[:cap(roomy.Data)], roomy.Parts[:cap(roomy.Parts)])
		a.Append(roomy)
		if fmt.Sprint(roomy, roomy.Data[:cap(roomy.Data)], roomy.Parts[:cap(roomy.Parts)]) != before {
			t.Errorf("%d is another one", x.Zxid)
		}
		testkit.SpoilDeed(roomy)
	}
	checkDeeds(t, "deeds", a.Deeds(0), testkit.EachDeed())
	for _, install := range []bool{false, true} {
		want := bare(10, 11, voters(7, 5))
		b := testkit.WithRoom(want, 0xee)
		if install {
			a.Install(b)
		} else {
			a.Store(b)
		}
		if all := b[:cap(b)]; !bytes.Equal(b, want) || all[len(b)] != 0xee {
			t.Error("the image is another one")
		}
		testkit.Spoil(b, 0xdd)
		if !bytes.Equal(a.Image(), want) || a.Configs()[0].Version != 7 {
			t.Error("the image is kept")
		}
	}
}

func TestWhatIsHandedOutIsNew(t *testing.T) {
	_, d := atticOf(t, testkit.EachDeed()...)
	m, _ := openModel(d.Copy(), boot())
	a := mustOpen(t, d)
	for range 3 {
		for _, z := range []api.Zxid{0, 10} {
			for _, x := range a.Deeds(z) {
				testkit.SpoilDeed(x)
			}
			testkit.Spoil(a.Deeds(z), api.Deed{Zxid: 77})
		}
		for _, e := range a.Configs() {
			testkit.Spoil(e.Members, api.Member{Id: 77})
		}
		testkit.Spoil(a.Configs(), api.Ensemble{Version: 77})
		testkit.Spoil(a.Image(), 0xdd)
		checkLike(t, "spoilt", a, d, m)
		b := bare(a.Base()+1, a.Base()+1, voters(7, 5))
		checkErrno(t, "Store", a.Store(b), m.store(b))
	}
}

func TestAnswersShareNothing(t *testing.T) {
	a, _ := atticOf(t, becomes(5, 3), becomes(6, 4))
	configs, again := a.Configs(), a.Configs()
	for i := range configs {
		testkit.Spoil(configs[i].Members, api.Member{Id: 77})
		for k := range configs {
			if k > i && configs[k].Members[0].Id == 77 {
				t.Errorf("%d and %d share memory", i, k)
			}
		}
	}
	if !sameConfigs(again, []api.Ensemble{boot(), voters(5, 3), voters(6, 4)}) {
		t.Error("two answers share memory")
	}
}

// TestTwoAttics: they have nothing in common.
func TestTwoAttics(t *testing.T) {
	a, _ := atticOf(t, row(1, 9)...)
	b, _ := atticOf(t)
	a.SetEpochs(5, 5)
	a.Store(imageOf(row(1, 9), 4, 6))
	if tellPaper(b) != [3]int{1, 0, 0} || b.Last() != 0 || b.Base() != 0 || len(b.Image()) > 0 {
		t.Errorf("%v, Last %d", tellPaper(b), b.Last())
	}
}

// R5

func TestNoAttic(t *testing.T) {
	for _, a := range []*attic.Attic{nil, {}} {
		if tellPaper(a) != [3]int{} || a.Last() != 0 || a.Base() != 0 || a.Deeds(0) != nil || a.Image() != nil || a.Configs() != nil {
			t.Error("there is something")
		}
		checkErrno(t, "SetEpochs", a.SetEpochs(1, 1), api.ErrNil)
		checkErrno(t, "SetEpochs of wrong ones", a.SetEpochs(-1, 1), api.ErrNil)
		checkErrno(t, "Append", a.Append(grown(1, 9)), api.ErrNil)
		checkErrno(t, "Append of a wrong one", a.Append(api.Deed{}), api.ErrNil)
		checkErrno(t, "Sync", a.Sync(), api.ErrNil)
		checkErrno(t, "Cut", a.Cut(1), api.ErrNil)
		checkErrno(t, "Store", a.Store(bare(0, 0, boot())), api.ErrNil)
		checkErrno(t, "Store of none", a.Store(nil), api.ErrNil)
		checkErrno(t, "Install", a.Install(bare(0, 0, boot())), api.ErrNil)
		checkErrno(t, "Install of none", a.Install(nil), api.ErrNil)
		if x, z, errno := a.Tree(); x != nil || z != 0 || errno != api.ErrNil {
			t.Errorf("Tree: %v, %d, %v", x, z, errno)
		}
	}
}
