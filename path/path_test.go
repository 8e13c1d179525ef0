package path_test

import (
	"math"
	"slices"
	"strconv"
	"strings"
	"testing"

	"beadle/path"
)

const limit = 200

// modelPart: a part as the chapter's Words tell it, byte by byte.
func modelPart(s string) bool {
	for i := 0; i < len(s); i++ {
		if s[i] < 33 || s[i] > 126 || s[i] == 47 {
			return false
		}
	}
	return len(s) >= 1 && s != "." && s != ".."
}

// modelParts: the parts of a right path (none: /), and whether p is one.
func modelParts(p string) ([]string, bool) {
	if p == "/" {
		return nil, true
	}
	pieces := strings.Split(p, "/")
	if len(p) > limit || len(pieces) < 2 || pieces[0] != "" {
		return nil, false
	}
	for _, s := range pieces[1:] {
		if !modelPart(s) {
			return nil, false
		}
	}
	return pieces[1:], true
}

// modelPath: the text of parts.
func modelPath(parts []string) string { return "/" + strings.Join(parts, "/") }

// modelJoin: P2.3 by parts.
func modelJoin(p, name string) string {
	parts, ok := modelParts(p)
	if !ok || !modelPart(name) {
		return ""
	}
	out := modelPath(append(slices.Clone(parts), name))
	if _, ok := modelParts(out); !ok {
		return ""
	}
	return out
}

// modelUnder: P2.4 by parts.
func modelUnder(a, b string) bool {
	as, aok := modelParts(a)
	bs, bok := modelParts(b)
	return aok && bok && len(as) <= len(bs) && slices.Equal(as, bs[:len(as)])
}

// modelNumber: P2.5, the digits one by one.
func modelNumber(p string, n int) (string, bool) {
	if len(p) > limit || n < 0 || n >= 1<<31 {
		return "", false
	}
	digits := [10]byte{}
	for i := range digits {
		digits[9-i] = byte('0' + n%10)
		n /= 10
	}
	out := p + string(digits[:])
	if _, ok := modelParts(out); !ok {
		return "", false
	}
	return out, true
}

// rows: all texts over the letters, of at most most of them.
func rows(letters []string, most int) []string {
	out := []string{""}
	for begin, n := 0, 0; n < most; n++ {
		end := len(out)
		for _, s := range out[begin:end] {
			for _, l := range letters {
				out = append(out, s+l)
			}
		}
		begin = end
	}
	return out
}

// shortTexts: all rows of letters that matter to a path, right ones and wrong ones.
func shortTexts() []string { return rows([]string{"/", ".", "a", "b", " ", "\xc3"}, 5) }

// longTexts: texts at the limit and behind it, of one part, of many, of wrong ones.
func longTexts() []string {
	var out []string
	for _, n := range []int{1, 2, 188, 189, 190, 191, 192, 197, 198, 199, 200, 201, 202, 203, 255, 256, 257, 400, 1 << 16} {
		out = append(out,
			"/"+strings.Repeat("a", n-1),
			strings.Repeat("/b", n/2),
			strings.Repeat("/b", n/2)+"/",
			strings.Repeat("/b", n/2)+"c",
			strings.Repeat("/", n),
			strings.Repeat("a", n),
			"/x/"+strings.Repeat(".", n),
			"/"+strings.Repeat("a", n-1)+" ",
		)
	}
	return out
}

func texts() []string { return append(shortTexts(), longTexts()...) }

// rightPaths: those of texts that are paths by the model.
func rightPaths() []string {
	var out []string
	for _, p := range texts() {
		if _, ok := modelParts(p); ok {
			out = append(out, p)
		}
	}
	return out
}

// P2.1: the chapter's examples, and what is near them.
func TestCheckExamples(t *testing.T) {
	for _, p := range []string{
		"/", "/a", "/a/b", "/...", "/....", "/.a", "/a.", "/..a", "/a..", "/a/.../b", "/!", "/~", "/a\\b", "/a-0000000000",
		"/" + strings.Repeat("a", limit-1), strings.Repeat("/a", limit/2), "/" + strings.Repeat(".", limit-1),
	} {
		if !path.Check(p) {
			t.Errorf("Check(%q): a right path is refused", p)
		}
	}
	for _, p := range []string{
		"", "a", "/a/", "//a", "/a/./b", "/..", "/a b", "//", "///", "/a//b", "/.", "/./a", "/../a", "/a/..", "/a/.", "/a/../b", "a/b", "./a", " /a", "/a ", "/ ", "\\a", ".", "..",
		"/a\x00", "/\x00", "\x00/a", "/a\tb", "/a\n", "/é", "/a/\u65e5", "/\xff", "/a\x80", "/\ufffd", "/\U0001f600", "\ufeff/a",
		"/" + strings.Repeat("a", limit), strings.Repeat("/a", limit/2) + "b", strings.Repeat("/a", limit/2+1), "/" + strings.Repeat("a", limit-1) + "/",
	} {
		if path.Check(p) {
			t.Errorf("Check(%q): taken, but it is no right path", p)
		}
	}
}

// P2.1: each byte as a part, and at each end and in the midst of one.
func TestCheckBytes(t *testing.T) {
	for b := range 256 {
		c := string([]byte{byte(b)})
		within := b >= 33 && b <= 126 && b != '/'
		for _, x := range []struct {
			p    string
			want bool
		}{
			{"/" + c, within && b != '.'},
			{"/a/" + c, within && b != '.'},
			{"/" + c + "/a", within && b != '.'},
			{"/a/." + c, within && b != '.'},
			{"/" + c + "a", within},
			{"/a" + c, within},
			{"/a" + c + "b", within || b == '/'},
			{"/.." + c, within},
			{c, b == '/'},
			{c + "a", b == '/'},
		} {
			if ok := path.Check(x.p); ok != x.want {
				t.Errorf("Check(%q): %v", x.p, ok)
			}
		}
	}
}

// P2.1: each length about the limit, whatever the bytes are told as.
func TestCheckLength(t *testing.T) {
	for n := 1; n <= 2*limit+200; n++ {
		p := "/" + strings.Repeat("a", n-1)
		if ok := path.Check(p); ok != (n <= limit) {
			t.Errorf("Check of one part and %d bytes: %v", n, ok)
		}
		if ok := path.Check(strings.Repeat("/a", n)); ok != (2*n <= limit) {
			t.Errorf("Check of %d parts of one byte: %v", n, ok)
		}
	}
	if path.Check("/" + strings.Repeat("a/", 1<<20)) {
		t.Error("Check takes a text of many bytes")
	}
}

// P2.1: all short rows of letters that matter, against the model.
func TestCheckRows(t *testing.T) {
	right := 0
	for _, p := range texts() {
		_, want := modelParts(p)
		if want {
			right++
		}
		if ok := path.Check(p); ok != want {
			t.Errorf("Check(%q): %v", p, ok)
		}
	}
	if right < 100 {
		t.Errorf("only %d right paths were asked of", right)
	}
}

// P2.2: the chapter's examples, the edges, and what is no path.
func TestParentAndBase(t *testing.T) {
	long := strings.Repeat("a", limit-1)
	for _, x := range []struct{ p, parent, base string }{
		{"/a/b", "/a", "b"}, {"/a", "/", "a"}, {"/", "", ""}, {"/a/b/c", "/a/b", "c"}, {"/...", "/", "..."}, {"/a/a", "/a", "a"}, {"/aa/a", "/aa", "a"}, {"/a/aa", "/a", "aa"},
		{"/" + long, "/", long}, {strings.Repeat("/a", limit/2), strings.Repeat("/a", limit/2-1), "a"},
		{"a", "", ""}, {"", "", ""}, {"/a/", "", ""}, {"//a", "", ""}, {"/a/..", "", ""}, {"/a/.", "", ""}, {"/a/b c", "", ""}, {"/a b/c", "", ""}, {"a/b", "", ""}, {"//", "", ""}, {"/../a", "", ""}, {"/a/\xff", "", ""},
		{"/" + long + "a", "", ""}, {"/" + long + "/a", "", ""},
	} {
		if parent, base := path.Parent(x.p), path.Base(x.p); parent != x.parent || base != x.base {
			t.Errorf("%q: Parent %q, Base %q; asked for %q, %q", x.p, parent, base, x.parent, x.base)
		}
	}
}

// P2.2: all short rows and long ones, against the model.
func TestParentAndBaseRows(t *testing.T) {
	for _, p := range texts() {
		parent, base := "", ""
		if parts, ok := modelParts(p); ok && len(parts) >= 1 {
			parent, base = modelPath(parts[:len(parts)-1]), parts[len(parts)-1]
		}
		if got := path.Parent(p); got != parent {
			t.Errorf("Parent(%q): %q, asked for %q", p, got, parent)
		}
		if got := path.Base(p); got != base {
			t.Errorf("Base(%q): %q, asked for %q", p, got, base)
		}
	}
}

// P2.3: the chapter's examples, wrong paths, wrong names.
func TestJoin(t *testing.T) {
	for _, x := range []struct{ p, name, want string }{
		{"/", "a", "/a"}, {"/a", "b", "/a/b"}, {"/a/b", "c", "/a/b/c"}, {"/a", "...", "/a/..."}, {"/", "...", "/..."}, {"/a", ".b", "/a/.b"},
		{"/a", "..", ""}, {"/a", ".", ""}, {"/", ".", ""}, {"/", "..", ""}, {"/a", "b/c", ""}, {"/a", "/b", ""}, {"/a", "b/", ""}, {"/", "/", ""}, {"/a", "/", ""}, {"/a", "", ""}, {"/", "", ""}, {"/a", "b c", ""}, {"/a", "\x80", ""}, {"/", "é", ""},
		{"a", "b", ""}, {"", "b", ""}, {"", "", ""}, {"", "/a", ""}, {"/a/", "b", ""}, {"//", "b", ""}, {"/..", "b", ""}, {"/a b", "c", ""},
	} {
		if s := path.Join(x.p, x.name); s != x.want {
			t.Errorf("Join(%q, %q): %q, asked for %q", x.p, x.name, s, x.want)
		}
	}
	for b := range 256 {
		name := string([]byte{byte(b)})
		if want, s := modelJoin("/a", name), path.Join("/a", name); s != want {
			t.Errorf("Join(/a, %q): %q, asked for %q", name, s, want)
		}
	}
}

// P2.3: what comes to 200 bytes is a path, what comes to 201 is none, at each place where the name may begin.
func TestJoinLength(t *testing.T) {
	for n := 2; n <= limit+1; n++ {
		p := "/" + strings.Repeat("p", n-1)
		for m := limit - n - 3; m <= limit-n+3; m++ {
			if m < 1 {
				continue
			}
			name := strings.Repeat("n", m)
			want := ""
			if n <= limit && n+1+m <= limit {
				want = p + "/" + name
			}
			if s := path.Join(p, name); s != want {
				t.Errorf("Join of %d and %d bytes: %d bytes, asked for %d", n, m, len(s), len(want))
			}
		}
	}
	for _, m := range []int{limit - 2, limit - 1, limit, limit + 1, 1 << 20} {
		name := strings.Repeat("n", m)
		want := ""
		if m+1 <= limit {
			want = "/" + name
		}
		if s := path.Join("/", name); s != want {
			t.Errorf("Join of / and %d bytes: %d bytes", m, len(s))
		}
	}
}

// P2.3: all short rows with each other, against the model.
func TestJoinRows(t *testing.T) {
	short := rows([]string{"/", ".", "a", " "}, 4)
	for _, p := range short {
		for _, name := range short {
			if want, s := modelJoin(p, name), path.Join(p, name); s != want {
				t.Errorf("Join(%q, %q): %q, asked for %q", p, name, s, want)
			}
		}
	}
}

// P2.4: the chapter's examples, and what is no path on either side.
func TestUnder(t *testing.T) {
	long := "/" + strings.Repeat("a", limit-3)
	for _, x := range []struct {
		a, b string
		want bool
	}{
		{"/a", "/a/b", true}, {"/", "/a", true}, {"/a", "/a", true}, {"/", "/", true}, {"/", "/a/b/c", true}, {"/a", "/a/b/c", true}, {"/a/b", "/a/b/c", true}, {long, long + "/b", true}, {"/", long + "/b", true},
		{"/a", "/ab", false}, {"/a/b", "/a", false}, {"/a", "/", false}, {"/ab", "/a", false}, {"/a", "/b", false}, {"/a/b", "/a/bc", false}, {"/b", "/a/b", false}, {"/a", "/A", false},
		{"/a/", "/a/b", false}, {"/a", "/a/", false}, {"/a", "/a//b", false}, {"/a", "/a/..", false}, {"/a", "/a/.", false}, {"", "/a", false}, {"", "", false}, {"/a", "", false}, {"a", "a", false}, {"a", "a/b", false}, {"//", "//", false}, {"/a b", "/a b/c", false}, {"/a", "/a/b c", false}, {"/", "a", false}, {"", "/", false}, {"/", "", false},
		{long, long + "/bb", false}, {"/", long + "/bb", false}, {long + "/bb", long + "/bb", false},
	} {
		if ok := path.Under(x.a, x.b); ok != x.want {
			t.Errorf("Under(%q, %q): %v", x.a, x.b, ok)
		}
	}
}

// P2.4: all short rows with each other, against the model.
func TestUnderRows(t *testing.T) {
	short := rows([]string{"/", ".", "a", "b"}, 5)
	for _, a := range short {
		_, right := modelParts(a)
		for _, b := range short {
			if ok := path.Under(a, b); ok != (right && modelUnder(a, b)) {
				t.Fatalf("Under(%q, %q): %v", a, b, ok)
			}
		}
	}
}

// P2.5: the chapter's examples, the edges of n, and texts that are no path by themselves.
func TestNumber(t *testing.T) {
	for _, x := range []struct {
		p    string
		n    int
		want string
	}{
		{"/a-", 7, "/a-0000000007"}, {"/a/", 0, "/a/0000000000"}, {"/a/", 7, "/a/0000000007"}, {"/a", 0, "/a0000000000"}, {"/a", 10, "/a0000000010"}, {"/a", 1234567890, "/a1234567890"}, {"/a", 1<<31 - 1, "/a2147483647"}, {"/a", 1<<31 - 2, "/a2147483646"}, {"/a", 999999999, "/a0999999999"}, {"/a", 1000000000, "/a1000000000"},
		{"/", 3, "/0000000003"}, {"/.", 3, "/.0000000003"}, {"/..", 3, "/..0000000003"}, {"/a/.", 0, "/a/.0000000000"}, {"/a/..", 0, "/a/..0000000000"},
		{"/a", -1, ""}, {"/a", 1 << 31, ""}, {"/a", 1<<31 + 7, ""}, {"/a", 1 << 32, ""}, {"/a", 1<<32 + 7, ""}, {"/a", math.MaxInt, ""}, {"/a", math.MinInt, ""}, {"/a", -1 << 31, ""}, {"/a", -7, ""}, {"/a", 9999999999, ""}, {"/a", 10000000000, ""},
		{"", 1, ""}, {"a", 1, ""}, {"//", 1, ""}, {"/a//", 1, ""}, {"/./", 1, ""}, {"/../", 1, ""}, {"/a/./b", 1, ""}, {"/a b", 1, ""}, {"/ ", 1, ""}, {"/\xff", 1, ""}, {"/a/\x80", 1, ""}, {"", -1, ""}, {"a", 1 << 31, ""},
	} {
		if s, ok := path.Number(x.p, x.n); s != x.want || ok != (x.want != "") {
			t.Errorf("Number(%q, %d): %q, %v; asked for %q", x.p, x.n, s, ok, x.want)
		}
	}
}

// P2.5: texts of each length about the limit, and all short rows, against the model.
func TestNumberRows(t *testing.T) {
	for n := 1; n <= limit+20; n++ {
		p := "/" + strings.Repeat("a", n-1)
		if s, ok := path.Number(p, 5); ok != (n+10 <= limit) || ok && s != p+"0000000005" || !ok && s != "" {
			t.Errorf("Number of %d bytes: %q, %v", n, s, ok)
		}
	}
	for _, p := range texts() {
		for _, n := range []int{-1, 0, 1, 42, 1<<31 - 1, 1 << 31} {
			want, wantOk := modelNumber(p, n)
			if s, ok := path.Number(p, n); s != want || ok != wantOk {
				t.Errorf("Number(%q, %d): %q, %v; asked for %q", p, n, s, ok, want)
			}
		}
	}
}

// P2.6: a right path that is not / is the Join of its Parent and its Base.
func TestJoinOfParentAndBase(t *testing.T) {
	for _, p := range rightPaths() {
		if p == "/" {
			continue
		}
		if s := path.Join(path.Parent(p), path.Base(p)); s != p {
			t.Errorf("Join of Parent and Base of %q: %q", p, s)
		}
		if !path.Under(path.Parent(p), p) {
			t.Errorf("%q is not under its Parent", p)
		}
	}
}

// P2.6: two paths that are Under each other are one, and each right path is under / and under itself.
func TestUnderEachOther(t *testing.T) {
	paths := rightPaths()
	for _, a := range paths {
		if !path.Under("/", a) || !path.Under(a, a) {
			t.Errorf("%q is not under / or not under itself", a)
		}
		for _, b := range paths {
			if a != b && path.Under(a, b) && path.Under(b, a) {
				t.Fatalf("%q and %q are under each other", a, b)
			}
		}
	}
}

// P2.6: numbers that rise make texts that rise.
func TestNumbersRise(t *testing.T) {
	numbers := []int{0, 1<<31 - 1}
	for n := 1; n < 1<<31-1; n = n*3/2 + 1 {
		numbers = append(numbers, n, n-1)
	}
	for n := 1; n < 1<<31-1; n *= 10 {
		numbers = append(numbers, n, n-1, n+1)
	}
	slices.Sort(numbers)
	numbers = slices.Compact(numbers)
	for _, p := range []string{"/", "/a-", "/a/"} {
		last := ""
		for _, n := range numbers {
			s, ok := path.Number(p, n)
			if !ok || s <= last || s != p+strings.Repeat("0", 10-len(strconv.Itoa(n)))+strconv.Itoa(n) {
				t.Errorf("Number(%q, %d): %q, %v, behind %q", p, n, s, ok, last)
			}
			last = s
		}
	}
}
