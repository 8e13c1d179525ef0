package segment_test

import (
	"bytes"
	"encoding/binary"
	"encoding/hex"
	"fmt"
	"hash/crc32"
	"reflect"
	"slices"
	"testing"

	"beadle/api"
	"beadle/deed"
	"beadle/segment"
	"beadle/testkit"
)

// tally: all that Scan tells.
type tally struct {
	deeds []api.Deed
	ends  []int
	to    int
}

func scan(b []byte) tally {
	deeds, ends, to := segment.Scan(b)
	return tally{deeds, ends, to}
}

// scanByWords: what the chapter says, by the library's own sum; it asks deed alone.
func scanByWords(b []byte) tally {
	var out tally
	for {
		rest := b[out.to:]
		if len(rest) < 8 {
			return out
		}
		size := int(binary.LittleEndian.Uint32(rest))
		if size > 1048576 || size > len(rest)-8 || crc32.ChecksumIEEE(rest[8:8+size]) != binary.LittleEndian.Uint32(rest[4:]) {
			return out
		}
		d, errno := deed.Get(rest[8 : 8+size])
		if errno != api.OK || len(out.deeds) > 0 && d.Zxid <= out.deeds[len(out.deeds)-1].Zxid {
			return out
		}
		out.to += 8 + size
		out.deeds, out.ends = append(out.deeds, d), append(out.ends, out.to)
	}
}

func same(a, b tally) bool {
	return slices.EqualFunc(a.deeds, b.deeds, sameDeed) && slices.Equal(a.ends, b.ends) && a.to == b.to
}

// sameDeed: an empty list like none (R6).
func sameDeed(a, b api.Deed) bool {
	if !bytes.Equal(a.Data, b.Data) || !slices.Equal(a.Config.Members, b.Config.Members) || !slices.EqualFunc(a.Parts, b.Parts, sameDeed) {
		return false
	}
	a.Data, a.Config.Members, a.Parts = nil, nil, nil
	b.Data, b.Config.Members, b.Parts = nil, nil, nil
	return reflect.DeepEqual(a, b)
}

// checkScan: of b just want is told.
func checkScan(t *testing.T, what string, b []byte, want tally) {
	t.Helper()
	if got := scan(b); !same(got, want) {
		t.Errorf("%s: Scan of %s: %s, want %s", what, short(b), tell(got), tell(want))
	}
}

// look: of b, whatever it is, what the chapter's words say; it tells how many deeds.
func look(t *testing.T, what string, b []byte) int {
	t.Helper()
	want := scanByWords(b)
	checkScan(t, what, b, want)
	return len(want.deeds)
}

func tell(x tally) string {
	var zxids []api.Zxid
	for _, d := range x.deeds {
		zxids = append(zxids, d.Zxid)
	}
	return fmt.Sprintf("%s %s %d", shortText(fmt.Sprint(zxids)), shortText(fmt.Sprint(x.ends)), x.to)
}

func short(b []byte) string {
	return shortText(hex.EncodeToString(b))
}

func shortText(text string) string {
	if len(text) > 200 {
		return text[:200] + ".."
	}
	return text
}

// frame: how many bytes b has, its sum, and b.
func frame(b []byte) []byte {
	out := binary.LittleEndian.AppendUint32(nil, uint32(len(b)))
	out = binary.LittleEndian.AppendUint32(out, crc32.ChecksumIEEE(b))
	return append(out, b...)
}

// inner: a right deed's own bytes.
func inner(d api.Deed) []byte {
	b, errno := deed.Put(d)
	if errno != api.OK {
		panic(fmt.Sprintf("%+v: %v", d, errno))
	}
	return b
}

func framed(d api.Deed) []byte { return frame(inner(d)) }

// rowOf: deeds one behind the other, and what is to be told of them if their zxids rise.
func rowOf(deeds ...api.Deed) ([]byte, tally) {
	var b []byte
	want := tally{deeds: deeds}
	for _, d := range deeds {
		b = append(b, framed(d)...)
		want.ends = append(want.ends, len(b))
	}
	want.to = len(b)
	return b, want
}

// begun: what is to be told of the first count deeds.
func (x tally) begun(count int) tally {
	if count == 0 {
		return tally{}
	}
	return tally{x.deeds[:count], x.ends[:count], x.ends[count-1]}
}

// within: what is to be told of the first size bytes.
func (x tally) within(size int) tally {
	count, _ := slices.BinarySearch(x.ends, size+1)
	return x.begun(count)
}

func syncs(zxids ...api.Zxid) []api.Deed {
	var out []api.Deed
	for _, z := range zxids {
		out = append(out, api.Deed{Zxid: z, Kind: api.DeedSync})
	}
	return out
}

// noDeeds: what may stand in a whole frame and is no right deed's bytes.
func noDeeds() map[string][]byte {
	d := syncs(1)[0]
	create := inner(api.Deed{Zxid: 5, Kind: api.DeedCreate, Path: "/a"})
	out := map[string][]byte{
		"nothing":                    {},
		"a nought":                   {0},
		"the zxid 0":                 {6, 0, 0, 0, 0, 0},
		"a zxid below 0":             {6, 1, 0, 0, 0, 0},
		"a time below 0":             {6, 2, 0, 0, 0, 1},
		"a kind that is none":        {10, 2, 0, 0, 0, 0},
		"a nought ahead of the zxid": {6, 130, 0, 0, 0, 0, 0},
		"a byte behind":              append(inner(d), 0),
		"twice":                      slices.Repeat(inner(d), 2),
		"a frame":                    framed(d),
		"the root made":              bytes.Replace(create, []byte("\x04/a"), []byte("\x02/"), 1),
		"as long as may be":          make([]byte, 1048576),
		"too long":                   make([]byte, 1048577),
	}
	for end := range create {
		out[fmt.Sprintf("%d bytes of a create", end)] = create[:end]
	}
	return out
}

// anyRow: deeds by rising zxids, of all kinds.
func anyRow(next func(int) int, count int) []api.Deed {
	var out []api.Deed
	z := api.Zxid(0)
	for range count {
		z += api.Zxid(1 + next(3)*next(1<<30)*next(9))
		out = append(out, testkit.AnyDeed(next, z))
	}
	return out
}

// R3

// tellAll: all of d, the spare room of its lists too.
func tellAll(d api.Deed) string {
	text := fmt.Sprintf("%+v %v %v %+v\n", d, d.Data[:cap(d.Data)], d.Config.Members[:cap(d.Config.Members)], d.Parts[:cap(d.Parts)])
	for _, part := range d.Parts {
		text += tellAll(part)
	}
	return text
}
