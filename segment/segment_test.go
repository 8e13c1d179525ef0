package segment_test

import (
	"bytes"
	"encoding/hex"
	"fmt"
	"slices"
	"testing"

	"beadle/api"
	"beadle/segment"
	"beadle/testkit"
)

// P14.1

// TestBytesOfADeed: written out, so that no other layer of the program is asked.
func TestBytesOfADeed(t *testing.T) {
	for want, d := range map[string]api.Deed{
		"06000000de115b1d" + "060200000000":         {Zxid: 1, Kind: api.DeedSync},
		"0a0000003f911ec8" + "020206000000042f6104": {Zxid: 1, Session: 3, Kind: api.DeedDelete, Path: "/a", Cversion: 2},
	} {
		if b, errno := segment.Put(d); errno != api.OK || hex.EncodeToString(b) != want {
			t.Errorf("%x, %v, want %s", b, errno, want)
		}
	}
}

func TestPutOfRightDeeds(t *testing.T) {
	for _, d := range slices.Concat(testkit.EachDeed(), testkit.LongestDeeds()) {
		if b, errno := segment.Put(d); errno != api.OK || !bytes.Equal(b, framed(d)) {
			t.Errorf("%d: %s, %v, want %s", d.Kind, short(b), errno, short(framed(d)))
		}
	}
}

func TestPutOfDeedsThatAreNotRight(t *testing.T) {
	for i, d := range testkit.WrongDeeds() {
		if b, errno := segment.Put(d); errno != api.ErrShape || len(b) != 0 {
			t.Errorf("%d: %s, %v", i, short(b), errno)
		}
	}
}

// TestEmptyListsAreNone: R6.
func TestEmptyListsAreNone(t *testing.T) {
	d := api.Deed{Zxid: 1, Kind: api.DeedSync, Data: []byte{}, Parts: []api.Deed{}, Config: api.Ensemble{Members: []api.Member{}}}
	if b, errno := segment.Put(d); errno != api.OK || !bytes.Equal(b, framed(syncs(1)[0])) {
		t.Errorf("%x, %v", b, errno)
	}
}

// P14.2

func TestExample(t *testing.T) {
	d := api.Deed{Zxid: 1, Kind: api.DeedSync}
	e := api.Deed{Zxid: 2, Session: 3, Kind: api.DeedDelete, Path: "/a", Cversion: 2}
	b, c := framed(d), framed(e)
	checkScan(t, "both", slices.Concat(b, c), tally{[]api.Deed{d, e}, []int{14, 32}, 32})
	checkScan(t, "one byte less", slices.Concat(b, c)[:31], tally{[]api.Deed{d}, []int{14}, 14})
	checkScan(t, "e and d", slices.Concat(c, b), tally{[]api.Deed{e}, []int{18}, 18})
	checkScan(t, "d twice", slices.Concat(b, b), tally{[]api.Deed{d}, []int{14}, 14})
	checkScan(t, "nothing", nil, tally{})
	checkScan(t, "an empty list", []byte{}, tally{})
}

func TestScanOfOneDeed(t *testing.T) {
	for _, d := range slices.Concat(testkit.EachDeed(), testkit.LongestDeeds()) {
		b, want := rowOf(d)
		checkScan(t, fmt.Sprint("kind ", d.Kind), b, want)
	}
}

// TestZxidsThatRise: all rows of up to four of these: the deeds end where one is not above the last.
func TestZxidsThatRise(t *testing.T) {
	zxids := []api.Zxid{1, 2, 3, 1<<32 - 1, 1 << 32, testkit.LastZxid}
	var rows func(row []api.Zxid)
	rows = func(row []api.Zxid) {
		rising := len(row)
		for i := len(row) - 1; i > 0; i-- {
			if row[i] <= row[i-1] {
				rising = i
			}
		}
		b, want := rowOf(syncs(row...)...)
		checkScan(t, fmt.Sprint(row), b, want.begun(rising))
		if len(row) == 4 {
			return
		}
		for _, z := range zxids {
			rows(append(slices.Clip(row), z))
		}
	}
	rows(nil)
}

// TestFramesThatHoldNoDeed: what stands behind them is not told, nor are they; whatever stands ahead is.
func TestFramesThatHoldNoDeed(t *testing.T) {
	row := syncs(1, 2, 3, 4)
	for what, bad := range noDeeds() {
		for at := range len(row) + 1 {
			ahead, want := rowOf(row[:at]...)
			behind, _ := rowOf(row[at:]...)
			checkScan(t, fmt.Sprint(what, " at ", at), slices.Concat(ahead, frame(bad), behind), want)
		}
	}
}

// TestBytesThatAreNoFrame: as above, of what is no whole frame.
func TestBytesThatAreNoFrame(t *testing.T) {
	whole := framed(syncs(9)[0])
	bad := map[string][]byte{
		"a nought":              {0},
		"a byte":                {7},
		"seven noughts":         make([]byte, 7),
		"no frame":              whole[8:],
		"a sum of something":    {0, 0, 0, 0, 1, 0, 0, 0},
		"below 0 bytes":         {255, 255, 255, 255, 0, 0, 0, 0},
		"2^31 bytes":            {0, 0, 0, 128, 0, 0, 0, 0},
		"MaxBytes and one more": slices.Concat([]byte{1, 0, 16, 0}, whole[4:]),
		"one byte too many":     slices.Concat([]byte{7}, whole[1:]),
		"one byte too few":      slices.Concat([]byte{5}, whole[1:]),
		"the highest first":     slices.Concat([]byte{0, 0, 0, 6}, whole[4:]),
	}
	row := syncs(1, 2, 3)
	for what, bad := range bad {
		for at := range len(row) + 1 {
			ahead, want := rowOf(row[:at]...)
			behind, _ := rowOf(row[at:]...)
			checkScan(t, fmt.Sprint(what, " at ", at), slices.Concat(ahead, bad, behind), want)
		}
	}
}

// TestBitsTurned: whichever bit of a row is turned, the deeds are told up to where it stands.
func TestBitsTurned(t *testing.T) {
	b, want := rowOf(testkit.EachDeed()...)
	for at := range b {
		for bit := range 8 {
			turned := bytes.Clone(b)
			turned[at] ^= 1 << bit
			checkScan(t, fmt.Sprint("byte ", at, " bit ", bit), turned, want.within(at))
		}
	}
}

// TestSpareRoomIsNotRead: deeds that stand whole in the spare room are none of b's.
func TestSpareRoomIsNotRead(t *testing.T) {
	b, want := rowOf(syncs(1, 2, 3)...)
	for end := range b {
		checkScan(t, fmt.Sprint(end, " bytes"), b[:end], want.begun(end/14))
	}
	checkScan(t, "room behind all", testkit.WithRoom(b, 7), want)
}

// TestAnyBytes: all rows of up to two bytes, and many longer ones.
func TestAnyBytes(t *testing.T) {
	for x := range 256 {
		checkScan(t, "a byte", []byte{byte(x)}, tally{})
		for y := range 256 {
			checkScan(t, "two bytes", []byte{byte(x), byte(y)}, tally{})
		}
	}
	next := testkit.Walk()
	for range 20000 {
		b := make([]byte, next(40))
		for i := range b {
			b[i] = byte(next(256) * next(2))
		}
		look(t, "any bytes", b)
	}
	for size := range 200 {
		checkScan(t, "noughts", make([]byte, size), tally{})
		checkScan(t, "255s", bytes.Repeat([]byte{255}, size), tally{})
	}
}

// TestFramesOfAnything: rows of whole frames, of deeds and of what is none, in any order.
func TestFramesOfAnything(t *testing.T) {
	next, seen := testkit.Walk(), [6]int{}
	pool := testkit.EachDeed()
	for range 5000 {
		var b []byte
		for range next(6) {
			held := inner(pool[next(len(pool))])
			if next(6) == 0 {
				held[next(len(held))] = byte(next(256))
			}
			b = append(b, frame(held)...)
		}
		seen[look(t, "frames", b)]++
	}
	if slices.Min(seen[:4]) == 0 {
		t.Errorf("how many deeds were told: %v", seen)
	}
}

// P14.3

func TestAllBeginnings(t *testing.T) {
	b, want := rowOf(testkit.EachDeed()...)
	for end := range len(b) + 1 {
		checkScan(t, fmt.Sprint(end, " bytes"), bytes.Clone(b[:end]), want.within(end))
	}
}

// putAll: the bytes of all deeds that Scan told, one behind the other.
func putAll(t *testing.T, deeds []api.Deed) []byte {
	t.Helper()
	var b []byte
	for _, d := range deeds {
		c, errno := segment.Put(d)
		if errno != api.OK {
			t.Errorf("%d: Put: %v", d.Zxid, errno)
		}
		b = append(b, c...)
	}
	return b
}

func TestWhatIsPutIsTold(t *testing.T) {
	next := testkit.Walk()
	for range 300 {
		deeds := anyRow(next, next(12))
		_, want := rowOf(deeds...)
		b := putAll(t, deeds)
		checkScan(t, "a row", b, want)
		if len(b) == 0 {
			continue
		}
		for range 20 {
			end := next(len(b))
			checkScan(t, "a beginning", b[:end], want.within(end))
		}
	}
}

// TestWhatIsToldIsPutAgain: of rows that were written over here and there, too.
func TestWhatIsToldIsPutAgain(t *testing.T) {
	next := testkit.Walk()
	for range 2000 {
		b, _ := rowOf(anyRow(next, 1+next(8))...)
		for range next(3) {
			b[next(len(b))] = byte(next(256))
		}
		b = b[:len(b)-next(2)*next(len(b))]
		got := scan(b)
		look(t, "written over", b)
		if again := putAll(t, got.deeds); !bytes.Equal(again, b[:got.to]) {
			t.Errorf("put again: %s, was %s", short(again), short(b[:got.to]))
		}
		checkScan(t, "what is told", b[:got.to], got)
	}
}

// TestAFullFile: as many deeds as a file may hold, if they are short.
func TestAFullFile(t *testing.T) {
	var deeds []api.Deed
	for z := range api.MaxFile / 23 {
		deeds = append(deeds, syncs(testkit.LastZxid-api.MaxFile+api.Zxid(z))...)
	}
	b, want := rowOf(deeds...)
	if len(b) > api.MaxFile || len(b) < api.MaxFile-23 {
		t.Errorf("%d bytes", len(b))
	}
	checkScan(t, "many deeds", b, want)
	checkScan(t, "torn", b[:len(b)-1], want.begun(len(deeds)-1))
}

// R3

func TestDeedsHandedInStayAsTheyAre(t *testing.T) {
	for _, d := range slices.Concat(testkit.EachDeed(), testkit.WrongDeeds()) {
		given := testkit.RoomyDeed(d)
		before := tellAll(given)
		b, _ := segment.Put(given)
		want := bytes.Clone(b)
		if tellAll(given) != before {
			t.Errorf("kind %d: changed", d.Kind)
		}
		testkit.SpoilDeed(given)
		if !bytes.Equal(b, want) {
			t.Errorf("kind %d: the bytes hang on what was put", d.Kind)
		}
	}
}

func TestBytesPutShareNothing(t *testing.T) {
	for _, d := range testkit.EachDeed() {
		given := testkit.RoomyDeed(d)
		before := tellAll(given)
		one, _ := segment.Put(given)
		other, _ := segment.Put(given)
		testkit.Spoil(one, 0xdd)
		if !bytes.Equal(other, framed(d)) || tellAll(given) != before {
			t.Errorf("kind %d: answers share memory", d.Kind)
		}
	}
}

func TestBytesHandedInStayAsTheyAre(t *testing.T) {
	row, want := rowOf(testkit.EachDeed()...)
	for _, b := range [][]byte{row, row[:len(row)-1], slices.Concat(row, row), append(bytes.Clone(row), 1, 2, 3), {7}, {}} {
		given := testkit.WithRoom(b, 0xee)
		before := bytes.Clone(given[:cap(given)])
		got := scan(given)
		for _, d := range got.deeds {
			testkit.SpoilDeed(d)
		}
		if !bytes.Equal(given[:cap(given)], before) {
			t.Error("changed")
		}
		got = scan(given)
		testkit.Spoil(given, 0xdd)
		if count := len(got.deeds); count > 0 && !same(got, want.begun(count)) {
			t.Error("the deeds hang on the bytes")
		}
	}
}

// TestTalliesShareNothing: neither those of two calls, nor the deeds of one.
func TestTalliesShareNothing(t *testing.T) {
	b, want := rowOf(testkit.EachDeed()...)
	one, other := scan(b), scan(b)
	for i, d := range one.deeds {
		testkit.SpoilDeed(d)
		for j := i + 1; j < len(one.deeds); j++ {
			if !sameDeed(one.deeds[j], want.deeds[j]) {
				t.Errorf("the deeds %d and %d share memory", i, j)
			}
		}
	}
	testkit.Spoil(one.deeds, api.Deed{Zxid: 77})
	testkit.Spoil(one.ends, 77)
	if !same(other, want) {
		t.Error("answers share memory")
	}
	again := scan(b)
	for i := len(again.deeds) - 1; i >= 0; i-- {
		testkit.SpoilDeed(again.deeds[i])
		for j := range i {
			if !sameDeed(again.deeds[j], want.deeds[j]) {
				t.Errorf("the deeds %d and %d share memory", i, j)
			}
		}
	}
	checkScan(t, "once more", b, want)
}
