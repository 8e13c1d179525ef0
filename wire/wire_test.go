package wire_test

import (
	"bytes"
	"hash/crc32"
	"math"
	"math/big"
	"slices"
	"strconv"
	"strings"
	"testing"

	"beadle/api"
	"beadle/testkit"
	"beadle/wire"
)

const maxFrame = 1 << 20

// modelInt: the bytes of a number as the chapter's Words tell them, reckoned without an end.
func modelInt(n int64) []byte {
	u := new(big.Int).Mul(big.NewInt(n), big.NewInt(2))
	if n < 0 {
		u.Neg(u).Sub(u, big.NewInt(1))
	}
	var out []byte
	for {
		digit := new(big.Int)
		u.DivMod(u, big.NewInt(128), digit)
		if u.Sign() == 0 {
			return append(out, byte(digit.Int64()))
		}
		out = append(out, byte(digit.Int64()+128))
	}
}

// modelRow: how many bytes, and these.
func modelRow(b []byte) []byte {
	return slices.Concat(modelInt(int64(len(b))), b)
}

// modelRead: the number whose bytes b begins with, how many they are, and whether there is one: what the digits say is a number only if its own bytes are these.
func modelRead(b []byte) (int64, int, bool) {
	end := slices.IndexFunc(b, func(x byte) bool { return x < 128 })
	if end < 0 {
		return 0, 0, false
	}
	u := new(big.Int)
	for i := end; i >= 0; i-- {
		u.Mul(u, big.NewInt(128)).Add(u, big.NewInt(int64(b[i]%128)))
	}
	odd := u.Bit(0) == 1
	n := u.Rsh(u, 1)
	if odd {
		n.Neg(n).Sub(n, big.NewInt(1))
	}
	if !n.IsInt64() || !bytes.Equal(modelInt(n.Int64()), b[:end+1]) {
		return 0, 0, false
	}
	return n.Int64(), end + 1, true
}

// edges: numbers at the ends of int64, about each power of two (those of 128 among them), and small ones.
func edges() []int64 {
	var out []int64
	for n := int64(-300); n <= 300; n++ {
		out = append(out, n)
	}
	for i := range 63 {
		for d := int64(-2); d <= 2; d++ {
			out = append(out, 1<<i+d, -1<<i+d)
		}
	}
	for d := range int64(4) {
		out = append(out, math.MaxInt64-d, math.MinInt64+d)
	}
	return out
}

func written(put func(*wire.Writer)) []byte {
	w := wire.NewWriter()
	put(w)
	return w.Done()
}

func checkBytes(t *testing.T, what string, got, want []byte) {
	t.Helper()
	if !bytes.Equal(got, want) {
		t.Errorf("%s: got %x, want %x", what, got, want)
	}
}

// checkFailed: the reader is good no more, and tells nothing of anything.
func checkFailed(t *testing.T, what string, r *wire.Reader) {
	t.Helper()
	for range 2 {
		if r.Good() || r.Whole() {
			t.Errorf("%s: good %v, whole %v", what, r.Good(), r.Whole())
		}
		if b := r.Byte(); b != 0 {
			t.Errorf("%s: then a byte %d", what, b)
		}
		if n := r.Int(); n != 0 {
			t.Errorf("%s: then a number %d", what, n)
		}
		if s := r.Text(math.MaxInt); s != "" {
			t.Errorf("%s: then a text %q", what, s)
		}
		if b := r.Bytes(math.MaxInt); len(b) != 0 {
			t.Errorf("%s: then bytes %x", what, b)
		}
		if n := r.Count(math.MaxInt); n != 0 {
			t.Errorf("%s: then a count %d", what, n)
		}
	}
}

// readers: each of the calls that read, with most for those that ask for it; whether it told something but 0 or nothing.
func readers(most int) map[string]func(*wire.Reader) bool {
	return map[string]func(*wire.Reader) bool{
		"Byte":  func(r *wire.Reader) bool { return r.Byte() != 0 },
		"Int":   func(r *wire.Reader) bool { return r.Int() != 0 },
		"Text":  func(r *wire.Reader) bool { return r.Text(most) != "" },
		"Bytes": func(r *wire.Reader) bool { return len(r.Bytes(most)) != 0 },
		"Count": func(r *wire.Reader) bool { return r.Count(most) != 0 },
	}
}

// P3.1

func TestExamplesOfNumbers(t *testing.T) {
	for _, x := range []struct {
		n    int64
		want []byte
	}{
		{0, []byte{0}},
		{-1, []byte{1}},
		{1, []byte{2}},
		{63, []byte{0x7e}},
		{64, []byte{0x80, 1}},
		{-64, []byte{0x7f}},
		{-65, []byte{0x81, 1}},
		{math.MaxInt64, []byte{0xfe, 0xff, 0xff, 0xff, 0xff, 0xff, 0xff, 0xff, 0xff, 1}},
		{math.MinInt64, []byte{0xff, 0xff, 0xff, 0xff, 0xff, 0xff, 0xff, 0xff, 0xff, 1}},
	} {
		checkBytes(t, strconv.FormatInt(x.n, 10), written(func(w *wire.Writer) { w.Int(x.n) }), x.want)
	}
	checkBytes(t, "Text(ab)", written(func(w *wire.Writer) { w.Text("ab") }), []byte{4, 0x61, 0x62})
}

func TestNumbersAreWrittenAsTheModel(t *testing.T) {
	for _, n := range edges() {
		checkBytes(t, strconv.FormatInt(n, 10), written(func(w *wire.Writer) { w.Int(n) }), modelInt(n))
	}
}

func TestBytesAreWrittenAsTheyAre(t *testing.T) {
	for b := range 256 {
		checkBytes(t, "Byte "+strconv.Itoa(b), written(func(w *wire.Writer) { w.Byte(byte(b)) }), []byte{byte(b)})
	}
}

func TestTextsAndRowsOfAllLengths(t *testing.T) {
	for _, n := range []int{0, 1, 2, 62, 63, 64, 65, 127, 128, 129, 8191, 8192, 8193, 1 << 20, 1<<20 + 1, 1<<20 + 2} {
		row := patterned(n)
		checkBytes(t, "Bytes of "+strconv.Itoa(n), written(func(w *wire.Writer) { w.Bytes(row) }), modelRow(row))
		checkBytes(t, "Text of "+strconv.Itoa(n), written(func(w *wire.Writer) { w.Text(string(row)) }), modelRow(row))
	}
}

// A text is bytes, not runes.
func TestTextsOfAnyBytes(t *testing.T) {
	for _, s := range []string{"", "\x00", "ä", "\xff\xfe", "\xc3", "日本", "a\x00b"} {
		row := written(func(w *wire.Writer) { w.Text(s) })
		checkBytes(t, s, row, modelRow([]byte(s)))
		r := wire.NewReader(row)
		if got := r.Text(len(s)); got != s || !r.Whole() {
			t.Errorf("%q is read back as %q, whole %v", s, got, r.Whole())
		}
	}
}

func TestPutBehindWhatWasPut(t *testing.T) {
	w := wire.NewWriter()
	checkBytes(t, "nothing", w.Done(), nil)
	want := []byte{}
	for i := range 200 {
		switch i % 4 {
		case 0:
			w.Byte(byte(i))
			want = append(want, byte(i))
		case 1:
			w.Int(int64(i * i))
			want = append(want, modelInt(int64(i*i))...)
		case 2:
			w.Text(strings.Repeat("x", i))
			want = append(want, modelRow(bytes.Repeat([]byte("x"), i))...)
		case 3:
			w.Bytes(patterned(i))
			want = append(want, modelRow(patterned(i))...)
		}
		checkBytes(t, "done", w.Done(), want)
		checkBytes(t, "done once more", w.Done(), want)
	}
}

func TestWritersAreApart(t *testing.T) {
	a, b := wire.NewWriter(), wire.NewWriter()
	a.Byte(1)
	b.Byte(2)
	a.Byte(3)
	checkBytes(t, "a", a.Done(), []byte{1, 3})
	checkBytes(t, "b", b.Done(), []byte{2})
}

// P3.2

func TestExamplesOfReading(t *testing.T) {
	for _, b := range [][]byte{{0x80, 0}, {0x80}} {
		r := wire.NewReader(b)
		if n := r.Int(); n != 0 {
			t.Errorf("%x: %d", b, n)
		}
		checkFailed(t, "Int", r)
	}
	r := wire.NewReader([]byte{4, 0x61})
	if s := r.Text(100); s != "" {
		t.Errorf("text %q", s)
	}
	checkFailed(t, "Text", r)
	for _, b := range []byte{8, 1} {
		r := wire.NewReader([]byte{b})
		if n := r.Count(3); n != 0 {
			t.Errorf("count of %x: %d", b, n)
		}
		checkFailed(t, "Count", r)
	}
}

// checkReadInt holds Int at b against the model, with what stands behind it.
func checkReadInt(t *testing.T, b []byte) {
	t.Helper()
	n, size, ok := modelRead(b)
	r := wire.NewReader(b)
	if got := r.Int(); got != n || r.Good() != ok || r.Whole() != (ok && size == len(b)) {
		t.Errorf("%x: got %d, good %v, whole %v, want %d, %v of %d bytes", b, got, r.Good(), r.Whole(), n, ok, size)
		return
	}
	if !ok {
		checkFailed(t, "Int", r)
		return
	}
	for _, x := range b[size:] {
		if got := r.Byte(); got != x {
			t.Errorf("%x: behind the number stands %x, not %x", b, x, got)
		}
	}
	if !r.Whole() {
		t.Errorf("%x: not whole at the end", b)
	}
}

func TestReadNumbersOfShortRows(t *testing.T) {
	checkReadInt(t, nil)
	for a := range 256 {
		checkReadInt(t, []byte{byte(a)})
		for b := range 256 {
			checkReadInt(t, []byte{byte(a), byte(b)})
		}
	}
	letters := []byte{0, 1, 2, 126, 127, 128, 129, 255}
	var rows func(row []byte)
	rows = func(row []byte) {
		checkReadInt(t, row)
		if len(row) == 5 {
			return
		}
		for _, x := range letters {
			rows(append(slices.Clip(row), x))
		}
	}
	rows(nil)
}

func TestReadNumbersOfLongRows(t *testing.T) {
	for _, fill := range []byte{128, 129, 254, 255} {
		for size := range 16 {
			for last := range 256 {
				row := append(bytes.Repeat([]byte{fill}, size), byte(last))
				checkReadInt(t, row)
				checkReadInt(t, append(row, 0))
				checkReadInt(t, append(row, 1, 7))
			}
		}
	}
}

func TestNumbersAreReadBack(t *testing.T) {
	for _, n := range edges() {
		row := modelInt(n)
		checkReadInt(t, row)
		checkReadInt(t, append(slices.Clip(row), 0x80))
		for end := range row {
			checkReadInt(t, row[:end])
		}
		// One digit more, that says nothing.
		longer := slices.Clone(row)
		longer[len(longer)-1] |= 128
		checkReadInt(t, append(longer, 0))
	}
}

func TestReadBytes(t *testing.T) {
	all := make([]byte, 256)
	for i := range all {
		all[i] = byte(i)
	}
	r := wire.NewReader(all)
	for i := range all {
		if r.Whole() || !r.Good() {
			t.Fatalf("ahead of %d: good %v, whole %v", i, r.Good(), r.Whole())
		}
		if b := r.Byte(); b != byte(i) {
			t.Errorf("%d is read as %d", i, b)
		}
	}
	if !r.Whole() {
		t.Error("not whole")
	}
	if b := r.Byte(); b != 0 {
		t.Errorf("behind the end: %d", b)
	}
	checkFailed(t, "behind the end", r)
}

// mosts: what may be asked at the most, about n, and at the ends of int.
func mosts(n int) []int {
	return []int{math.MinInt, -2, -1, 0, 1, n - 1, n, n + 1, 2 * n, math.MaxInt}
}

func TestReadTextsAndBytesUpToMost(t *testing.T) {
	for _, n := range []int{0, 1, 2, 3, 63, 64, 65, 127, 128, 1000} {
		row := patterned(n)
		b := append(modelRow(row), 9)
		for _, most := range mosts(n) {
			text, list := wire.NewReader(b), wire.NewReader(b)
			gotText, gotList := text.Text(most), list.Bytes(most)
			if n > most {
				if gotText != "" || len(gotList) != 0 {
					t.Errorf("%d bytes, most %d: got %q, %x", n, most, gotText, gotList)
				}
				checkFailed(t, "Text", text)
				checkFailed(t, "Bytes", list)
				continue
			}
			checkBytes(t, "Text", []byte(gotText), row)
			checkBytes(t, "Bytes", gotList, row)
			for _, r := range []*wire.Reader{text, list} {
				if !r.Good() || r.Whole() || r.Byte() != 9 || !r.Whole() {
					t.Errorf("%d bytes, most %d: what stands behind is not told", n, most)
				}
			}
		}
	}
}

func TestTextsAndBytesThatDoNotStandThere(t *testing.T) {
	cases := [][]byte{
		nil,
		{0x80},
		{0x80, 0},
		{1},
		{1, 5, 5},
		{2},
		{4, 'a'},
		{6, 'a', 'b'},
		append(modelInt(math.MaxInt64), 'a', 'b'),
		append(modelInt(math.MinInt64), 'a', 'b'),
		append(modelInt(1<<32), 'a', 'b'),
		append(modelInt(1<<32+1), 'a', 'b'),
		append(bytes.Repeat([]byte{255}, 9), 2, 'a'),
	}
	for _, n := range []int{1, 63, 64, 200} {
		full := modelRow(patterned(n))
		for end := range full {
			cases = append(cases, full[:end])
		}
	}
	for _, b := range cases {
		for _, most := range []int{0, 1, 2, 200, math.MaxInt} {
			for _, name := range []string{"Text", "Bytes"} {
				r := wire.NewReader(b)
				if readers(most)[name](r) {
					t.Errorf("%s(%d) of %x: something", name, most, b)
				}
				checkFailed(t, name, r)
			}
		}
	}
}

// Count asks for no bytes behind the number.
func TestCounts(t *testing.T) {
	counts := []int64{math.MinInt64, -65, -64, -2, -1, 0, 1, 2, 3, 4, 63, 64, 1 << 20, 1<<31 - 1, 1 << 31, 1 << 32, 1<<32 + 1, math.MaxInt64}
	for _, n := range counts {
		for _, most := range mosts(int(n)) {
			r := wire.NewReader(modelInt(n))
			got := r.Count(most)
			if n < 0 || n > int64(most) {
				if got != 0 {
					t.Errorf("Count(%d) of %d: %d", most, n, got)
				}
				checkFailed(t, "Count", r)
				continue
			}
			if int64(got) != n || !r.Good() || !r.Whole() {
				t.Errorf("Count(%d) of %d: %d, good %v, whole %v", most, n, got, r.Good(), r.Whole())
			}
		}
	}
	for _, b := range [][]byte{nil, {0x80}, {0x80, 0}, {0x82, 0}, append(bytes.Repeat([]byte{0x80}, 9), 2)} {
		r := wire.NewReader(b)
		if n := r.Count(math.MaxInt); n != 0 {
			t.Errorf("Count of %x: %d", b, n)
		}
		checkFailed(t, "Count", r)
	}
}

// Behind the first failure nothing is told, though right things stand there.
func TestNothingBehindAFailure(t *testing.T) {
	behind := []byte{2, 7, 2, 7, 2, 7, 2, 7, 2, 7}
	for name, fails := range readers(-1) {
		r := wire.NewReader(slices.Concat([]byte{0x82, 0}, behind))
		if name == "Byte" {
			r = wire.NewReader(nil)
		}
		if fails(r) {
			t.Errorf("%s told something", name)
		}
		checkFailed(t, name, r)
	}
	// What was told ahead of the failure stays told, what comes behind is not gone back for.
	r := wire.NewReader(slices.Concat([]byte{3, 8}, behind))
	if r.Byte() != 3 || r.Count(3) != 0 {
		t.Error("ahead of the failure")
	}
	checkFailed(t, "Count", r)
}

// P3.3

func TestGoodAndWhole(t *testing.T) {
	for _, none := range [][]byte{nil, {}} {
		r := wire.NewReader(none)
		if !r.Good() || !r.Whole() {
			t.Error("a reader of nothing is good, and whole")
		}
	}
	r := wire.NewReader([]byte{0, 0, 0, 0, 0})
	steps := []func(){
		func() { r.Byte() },
		func() { r.Int() },
		func() { r.Text(0) },
		func() { r.Bytes(0) },
		func() { r.Count(0) },
	}
	for i, step := range steps {
		if !r.Good() || r.Whole() {
			t.Errorf("ahead of step %d: good %v, whole %v", i, r.Good(), r.Whole())
		}
		step()
	}
	if !r.Good() || !r.Whole() || !r.Good() || !r.Whole() {
		t.Error("behind all: good and whole, how often it is asked")
	}
	r.Byte()
	checkFailed(t, "behind the end", r)
}

func TestReadersAreApart(t *testing.T) {
	row := []byte{1, 2}
	a, b := wire.NewReader(row), wire.NewReader(row)
	a.Byte()
	a.Byte()
	a.Byte()
	if a.Good() || !b.Good() || b.Byte() != 1 || b.Byte() != 2 || !b.Whole() {
		t.Error("a reader hangs on another one")
	}
}

// P3.4

// patterned: n bytes that tell their place.
func patterned(n int) []byte {
	out := make([]byte, n)
	for i := range out {
		out[i] = byte(i*7 + i>>8 + 1)
	}
	return out
}

// modelSum: the sum as the chapter's Words tell it, bit by bit.
func modelSum(b []byte) uint32 {
	c := uint64(1<<32 - 1)
	for _, x := range b {
		c ^= uint64(x)
		for range 8 {
			bit := c % 2
			c /= 2
			if bit == 1 {
				c ^= 0xEDB88320
			}
		}
	}
	return uint32(1<<32 - 1 - c)
}

func modelFrame(b []byte) []byte {
	out := []byte{}
	for _, n := range []uint32{uint32(len(b)), modelSum(b)} {
		for range 4 {
			out = append(out, byte(n%256))
			n /= 256
		}
	}
	return append(out, b...)
}

func TestExamplesOfFrames(t *testing.T) {
	if n := wire.Sum([]byte("123456789")); n != 0xcbf43926 {
		t.Errorf("sum %x", n)
	}
	if n := wire.Sum(nil) | wire.Sum([]byte{}); n != 0 {
		t.Errorf("sum of nothing %x", n)
	}
	for _, none := range [][]byte{nil, {}} {
		f, e := wire.Frame(none)
		if e != api.OK {
			t.Errorf("frame of nothing: %v", e)
		}
		checkBytes(t, "frame of nothing", f, make([]byte, 8))
	}
	b, n, e := wire.Unframe([]byte{0, 0, 0, 0, 0, 0, 0, 0, 7})
	if len(b) != 0 || n != 8 || e != api.OK {
		t.Errorf("unframe: %x, %d, %v", b, n, e)
	}
}

func TestSums(t *testing.T) {
	for a := range 256 {
		b := []byte{byte(a)}
		if got := wire.Sum(b); got != modelSum(b) {
			t.Errorf("%x: %x", b, got)
		}
	}
	for n := range 300 {
		b := patterned(n)
		if got := wire.Sum(b); got != modelSum(b) || got != crc32.ChecksumIEEE(b) {
			t.Errorf("%d bytes: %x", n, got)
		}
	}
	long := patterned(maxFrame + 5) // Sum itself has no limit.
	if got := wire.Sum(long); got != crc32.ChecksumIEEE(long) {
		t.Errorf("a long row: %x", got)
	}
}

func frameSizes() []int {
	return []int{0, 1, 2, 3, 4, 7, 8, 9, 255, 256, 257, 65535, 65536, 65537, maxFrame - 1, maxFrame}
}

func TestFramesOfAllSizes(t *testing.T) {
	for _, n := range frameSizes() {
		b := patterned(n)
		f, e := wire.Frame(b)
		if e != api.OK || !bytes.Equal(f, modelFrame(b)) {
			t.Fatalf("frame of %d bytes: %d bytes, %v", n, len(f), e)
		}
		for _, behind := range [][]byte{nil, {7}, {0, 0, 0, 0, 0, 0, 0, 0}, patterned(50), f} {
			got, size, e := wire.Unframe(slices.Concat(f, behind))
			if e != api.OK || size != len(f) || !bytes.Equal(got, b) {
				t.Errorf("unframe of %d bytes, %d behind: %d bytes, %d, %v", n, len(behind), len(got), size, e)
			}
		}
	}
}

func TestFramesThatAreTooLong(t *testing.T) {
	for _, n := range []int{maxFrame + 1, maxFrame + 2, 2 * maxFrame, 1<<24 + 1} {
		if f, e := wire.Frame(make([]byte, n)); e != api.ErrLong || len(f) != 0 {
			t.Errorf("frame of %d bytes: %d bytes, %v", n, len(f), e)
		}
		checkNoFrame(t, "a frame of too many bytes", modelFrame(make([]byte, n)))
	}
}

func checkNoFrame(t *testing.T, what string, b []byte) {
	t.Helper()
	if got, size, e := wire.Unframe(b); e != api.ErrShape || size != 0 || len(got) != 0 {
		t.Errorf("%s: %d bytes, %d, %v", what, len(got), size, e)
	}
}

func TestBytesThatEndInsideAFrame(t *testing.T) {
	for _, n := range []int{0, 1, 2, 20} {
		f := modelFrame(patterned(n))
		for end := range f {
			checkNoFrame(t, "cut", f[:end:end])
			// What lies in the spare room is not of the row.
			checkNoFrame(t, "cut, the rest in the spare room", f[:end])
		}
	}
	f := modelFrame(patterned(maxFrame))
	checkNoFrame(t, "the last byte cut off the longest", f[:len(f)-1])
	checkNoFrame(t, "nil", nil)
}

func TestLengthsThatLie(t *testing.T) {
	for _, n := range []uint32{1, 2, maxFrame, maxFrame + 1, 1 << 31, 1<<31 - 1, 1<<32 - 1, 1<<32 - 8, 1<<32 - 9} {
		head := []byte{byte(n), byte(n >> 8), byte(n >> 16), byte(n >> 24), 0, 0, 0, 0}
		checkNoFrame(t, "nothing behind", head)
		checkNoFrame(t, "a byte behind", append(slices.Clip(head), 1))
		checkNoFrame(t, "bytes behind", append(slices.Clip(head), patterned(40)...))
	}
}

// P3.5

// thing is one of what may be put: its sort, and how it is put and read back.
type thing struct {
	sort string
	put  func(*wire.Writer)
	same func(*wire.Reader) bool
}

func things() []thing {
	var out []thing
	for _, b := range []byte{0, 1, 2, 4, 128, 255} {
		out = append(out, thing{"byte", func(w *wire.Writer) { w.Byte(b) }, func(r *wire.Reader) bool { return r.Byte() == b }})
	}
	for _, n := range []int64{0, -1, 1, 2, 63, 64, -64, -65, math.MaxInt64, math.MinInt64} {
		out = append(out, thing{"int", func(w *wire.Writer) { w.Int(n) }, func(r *wire.Reader) bool { return r.Int() == n }})
	}
	for _, s := range []string{"", "\x00", "\x02", "a", "ab", "\x02a", "\x00\x00"} {
		out = append(out, thing{"text", func(w *wire.Writer) { w.Text(s) }, func(r *wire.Reader) bool { return r.Text(2) == s }})
		out = append(out, thing{"bytes", func(w *wire.Writer) { w.Bytes([]byte(s)) }, func(r *wire.Reader) bool { return string(r.Bytes(2)) == s }})
	}
	return out
}

func TestWhatWasPutIsReadBackAndNothingElseIsLikeIt(t *testing.T) {
	all := things()
	seen := map[string]string{} // by sorts and bytes: which things
	note := func(list ...int) {
		sorts, which := "", ""
		w := wire.NewWriter()
		for _, i := range list {
			all[i].put(w)
			sorts += all[i].sort + " "
			which += strconv.Itoa(i) + " "
		}
		b := w.Done()
		key := sorts + string(b)
		if other, ok := seen[key]; ok {
			t.Errorf("%s: %s and %s have the same bytes", sorts, other, which)
		}
		seen[key] = which
		r := wire.NewReader(b)
		for n, i := range list {
			if r.Whole() {
				t.Errorf("%s: whole ahead of thing %d", sorts, n)
			}
			if !all[i].same(r) {
				t.Errorf("%s %s: thing %d is another one", sorts, which, n)
			}
		}
		if !r.Whole() {
			t.Errorf("%s: not whole", sorts)
		}
	}
	for i := range all {
		note(i)
		for j := range all {
			note(i, j)
			for k := range all {
				note(i, j, k)
			}
		}
	}
}

func TestOneBitTurned(t *testing.T) {
	rows := [][]byte{nil, {0}, {255}, make([]byte, 9), []byte("123456789"), bytes.Repeat([]byte{255}, 12)}
	for n := range 70 {
		rows = append(rows, patterned(n))
	}
	for _, b := range rows {
		f, _ := wire.Frame(b)
		for i := range 8 * len(f) {
			turned := slices.Clone(f)
			turned[i/8] ^= 1 << (i % 8)
			checkNoFrame(t, "a bit turned", turned)
		}
	}
	f, _ := wire.Frame(patterned(maxFrame))
	for _, i := range []int{0, 20, 31, 32, 63, 64, 8*len(f) - 1} {
		turned := slices.Clone(f)
		turned[i/8] ^= 1 << (i % 8)
		checkNoFrame(t, "a bit turned of the longest", turned)
	}
}

func TestFramesOneBehindTheOther(t *testing.T) {
	var all []byte
	for n := range 60 {
		f, _ := wire.Frame(patterned(n))
		all = append(all, f...)
	}
	for n := range 60 {
		b, size, e := wire.Unframe(all)
		if e != api.OK || !bytes.Equal(b, patterned(n)) || size != n+8 {
			t.Fatalf("frame %d: %x, %d, %v", n, b, size, e)
		}
		all = all[size:]
	}
	checkNoFrame(t, "behind the last", all)
}

// R3

// roomy: a list of b with spare room that is filled.
func roomy(b []byte) []byte {
	out := append(slices.Clone(b), bytes.Repeat([]byte{0xee}, 64)...)
	return out[:len(b)]
}

// checkRoom: neither the list nor its spare room has changed.
func checkRoom(t *testing.T, what string, b, want []byte) {
	t.Helper()
	checkBytes(t, what, b, want)
	checkBytes(t, what+": the spare room", b[len(b):len(b)+64], bytes.Repeat([]byte{0xee}, 64))
}

func TestArgumentsStayAsTheyAre(t *testing.T) {
	row := roomy([]byte{1, 2, 3})
	w := wire.NewWriter()
	w.Bytes(row)
	w.Byte(4)
	w.Bytes(row)
	checkRoom(t, "Bytes", row, []byte{1, 2, 3})

	read := roomy([]byte{6, 1, 2, 3, 2})
	r := wire.NewReader(read)
	testkit.Spoil(r.Bytes(3), 0xdd)
	r.Int()
	r.Byte()
	checkRoom(t, "NewReader", read, []byte{6, 1, 2, 3, 2})

	f, _ := wire.Frame(row)
	testkit.Spoil(f, 0xdd)
	wire.Sum(row)
	checkRoom(t, "Frame, Sum", row, []byte{1, 2, 3})

	framed := roomy(modelFrame([]byte{1, 2, 3}))
	b, _, _ := wire.Unframe(framed)
	testkit.Spoil(b, 0xdd)
	checkRoom(t, "Unframe", framed, modelFrame([]byte{1, 2, 3}))
}

func TestArgumentsAreNotKept(t *testing.T) {
	row := []byte{1, 2, 3}
	w := wire.NewWriter()
	w.Bytes(row)
	testkit.Spoil(row, 0xdd)
	checkBytes(t, "a writer", w.Done(), []byte{6, 1, 2, 3})

	read := []byte{6, 1, 2, 3, 5}
	r := wire.NewReader(read)
	testkit.Spoil(read, 0xdd)
	checkBytes(t, "a reader", r.Bytes(3), []byte{1, 2, 3})
	if b := r.Byte(); b != 5 {
		t.Errorf("a reader's byte: %d", b)
	}

	row = []byte{1, 2, 3}
	f, _ := wire.Frame(row)
	testkit.Spoil(row, 0xdd)
	checkBytes(t, "a frame", f, modelFrame([]byte{1, 2, 3}))

	framed := modelFrame([]byte{1, 2, 3})
	b, _, _ := wire.Unframe(framed)
	testkit.Spoil(framed, 0xdd)
	checkBytes(t, "what a frame held", b, []byte{1, 2, 3})
}

func TestAnswersShareNothing(t *testing.T) {
	w := wire.NewWriter()
	for range 20 {
		w.Byte(1)
		first, second := w.Done(), w.Done()
		testkit.Spoil(first, 0xdd)
		checkBytes(t, "second Done", second, w.Done())
		if slices.Contains(second, 0xdd) {
			t.Error("Done's answers share memory")
		}
		testkit.Spoil(second, 0xdd)
	}
	checkBytes(t, "all", w.Done(), bytes.Repeat([]byte{1}, 20))
	first := w.Done()
	w.Byte(2)
	testkit.Spoil(first, 0xdd)
	checkBytes(t, "more put", w.Done(), append(bytes.Repeat([]byte{1}, 20), 2))

	r := wire.NewReader([]byte{2, 1, 0, 4, 2, 3, 2, 4, 4, 'a', 'b', 9})
	a, none, b, c := r.Bytes(9), r.Bytes(9), r.Bytes(9), r.Bytes(9)
	testkit.Spoil(a, 0xdd)
	testkit.Spoil(none, 0xdd)
	checkBytes(t, "b", b, []byte{2, 3})
	testkit.Spoil(b, 0xdd)
	checkBytes(t, "c", c, []byte{4})
	testkit.Spoil(c, 0xdd)
	if s := r.Text(9); s != "ab" || r.Byte() != 9 || !r.Whole() {
		t.Errorf("behind spoilt answers: %q", s)
	}

	framed := modelFrame([]byte{1, 2, 3})
	one, _, _ := wire.Unframe(framed)
	other, _, _ := wire.Unframe(framed)
	testkit.Spoil(one, 0xdd)
	checkBytes(t, "other Unframe", other, []byte{1, 2, 3})
	oneFrame, _ := wire.Frame(other)
	otherFrame, _ := wire.Frame(other)
	testkit.Spoil(oneFrame, 0xdd)
	checkBytes(t, "other Frame", otherFrame, framed)
}

// R5

func TestWritersThatAreNotThere(t *testing.T) {
	for _, w := range []*wire.Writer{nil, {}, new(wire.Writer)} {
		for range 2 {
			w.Byte(1)
			w.Int(1)
			w.Text("a")
			w.Bytes([]byte{1})
			if b := w.Done(); len(b) != 0 {
				t.Errorf("%x", b)
			}
		}
	}
	var zero wire.Writer
	zero.Byte(1)
	if b := zero.Done(); len(b) != 0 {
		t.Errorf("%x", b)
	}
}

func TestReadersThatAreNotThere(t *testing.T) {
	var zero wire.Reader
	for _, r := range []*wire.Reader{nil, {}, new(wire.Reader), &zero} {
		for _, most := range []int{math.MinInt, -1, 0, 1, math.MaxInt} {
			for name, reads := range readers(most) {
				if reads(r) {
					t.Errorf("%s told something", name)
				}
			}
		}
		checkFailed(t, "not there", r)
	}
}
