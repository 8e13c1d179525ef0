package image_test

import (
	"bytes"
	"encoding/binary"
	"fmt"
	"hash/crc32"
	"math"
	"reflect"
	"slices"
	"strings"
	"testing"

	"beadle/api"
	"beadle/ensemble"
	"beadle/image"
	"beadle/testkit"
	"beadle/tree"
)

// picture: all that Put is handed and Get tells.
type picture struct {
	nodes    []api.Node
	sittings []api.Sitting
	config   api.Ensemble
	from, to api.Zxid
}

func put(p picture) ([]byte, api.Errno) {
	return image.Put(p.nodes, p.sittings, p.config, p.from, p.to)
}

func get(b []byte) (picture, api.Errno) {
	nodes, sittings, config, from, to, errno := image.Get(b)
	return picture{nodes, sittings, config, from, to}, errno
}

// right: by the words of the chapter, which asks tree and ensemble.
func (p picture) right() bool {
	for i, s := range p.sittings {
		if s.Session < 1 || s.Timeout < 0 || s.Turn < 0 || i > 0 && p.sittings[i-1].Session >= s.Session {
			return false
		}
	}
	return tree.New().Load(p.nodes) == api.OK && len(p.nodes) <= 500 && len(p.sittings) <= 200 && ensemble.Check(p.config) == api.OK && p.from >= 0 && p.to >= p.from
}

// got: what of p is told by its bytes.
func (p picture) got() picture {
	p.nodes = slices.Clone(p.nodes)
	for i := range p.nodes {
		p.nodes[i].Stat.Length, p.nodes[i].Stat.Children = len(p.nodes[i].Data), 0
	}
	return p
}

// line: bytes one behind the other; wire's numbers are the library's signed varints.
type line []byte

func (l line) int(numbers ...int64) line {
	for _, n := range numbers {
		l = binary.AppendVarint(l, n)
	}
	return l
}

func (l line) row(b []byte) line { return append(l.int(int64(len(b))), b...) }

// frame: of what stands in the line, its length, its sum and itself.
func (l line) frame() []byte {
	out := binary.LittleEndian.AppendUint32(nil, uint32(len(l)))
	out = binary.LittleEndian.AppendUint32(out, crc32.ChecksumIEEE(l))
	return append(out, l...)
}

// configPieces: what stands in a config's bytes, each number.
func configPieces(e api.Ensemble) []line {
	out := []line{line{}.int(int64(e.Version)), line{}.int(int64(len(e.Members)))}
	for _, m := range e.Members {
		for _, n := range []int{m.Id, int(m.Role), m.Weight, m.Group} {
			out = append(out, line{}.int(int64(n)))
		}
	}
	return out
}

// pieces: what stands in the frame: the mark, and each number, text and row; of pictures that are not right, too: what it would be.
func (p picture) pieces() []line {
	out := []line{{1}}
	numbers := func(numbers ...int64) {
		for _, n := range numbers {
			out = append(out, line{}.int(n))
		}
	}
	numbers(int64(len(p.nodes)))
	for _, n := range p.nodes {
		s := n.Stat
		out = append(out, line{}.row([]byte(n.Path)), line{}.row(n.Data))
		numbers(int64(s.Czxid), int64(s.Mzxid), int64(s.Pzxid), s.Ctime, s.Mtime, int64(s.Version), int64(s.Cversion), s.Owner)
	}
	numbers(int64(len(p.sittings)))
	for _, s := range p.sittings {
		numbers(s.Session, int64(s.Timeout), int64(s.Turn))
	}
	out = append(out, line{}.row(slices.Concat(configPieces(p.config)...)))
	numbers(int64(p.from), int64(p.to))
	return out
}

func (p picture) inner() line { return slices.Concat(p.pieces()...) }

func (p picture) bytes() []byte { return p.inner().frame() }

// with: p's bytes, one of its pieces another one.
func (p picture) with(i int, piece []byte) []byte {
	all := p.pieces()
	all[i] = piece
	return line(slices.Concat(all...)).frame()
}

// same: an empty list like none (R6).
func same(a, b picture) bool {
	return slices.EqualFunc(a.nodes, b.nodes, sameNode) &&
		slices.Equal(a.sittings, b.sittings) &&
		a.config.Version == b.config.Version && slices.Equal(a.config.Members, b.config.Members) &&
		a.from == b.from && a.to == b.to
}

func sameNode(a, b api.Node) bool {
	return a.Path == b.Path && bytes.Equal(a.Data, b.Data) && a.Stat == b.Stat
}

// check holds Put and, of the bytes that p has or would have, Get against the model: p is right, or it is not.
func check(t *testing.T, what string, p picture, right bool) {
	t.Helper()
	if p.right() != right {
		t.Errorf("%s: the model says %v", what, !right)
	}
	b, errno := put(p)
	want := p.bytes()
	if !right {
		if errno != api.ErrShape || b != nil {
			t.Errorf("%s: Put(%s): %s, %v", what, short(p), short(b), errno)
		}
		return
	}
	if errno != api.OK || !bytes.Equal(b, want) {
		t.Errorf("%s: Put(%s): %s, %v, want %s", what, short(p), short(b), errno, short(want))
	}
	checkGet(t, what, want, p.got())
}

// checkBoth: of a picture that is not right by what its bytes tell, Get tells nothing either.
func checkBoth(t *testing.T, what string, p picture, right bool) {
	t.Helper()
	check(t, what, p, right)
	if !right {
		checkNone(t, what, p.bytes())
	}
}

func checkGet(t *testing.T, what string, b []byte, want picture) {
	t.Helper()
	if got, errno := get(b); errno != api.OK || !same(got, want) {
		t.Errorf("%s: Get(%s): %s, %v, want %s", what, short(b), short(got), errno, short(want))
	}
}

func checkNone(t *testing.T, what string, b []byte) {
	t.Helper()
	if got, errno := get(b); errno != api.ErrShape || !isNothing(got) {
		t.Errorf("%s: Get(%s): %s, %v", what, short(b), short(got), errno)
	}
}

func isNothing(p picture) bool {
	return p.nodes == nil && p.sittings == nil && p.config.Version == 0 && p.config.Members == nil && p.from == 0 && p.to == 0
}

// look: whatever b is, only a right image is told of it, and only that whose bytes it is. It tells whether there is one.
func look(t *testing.T, b []byte) bool {
	t.Helper()
	got, errno := get(b)
	if errno != api.OK {
		if errno != api.ErrShape || !isNothing(got) {
			t.Errorf("Get(%s): %s, %v", short(b), short(got), errno)
		}
		return false
	}
	if !got.right() || !same(got, got.got()) || !bytes.Equal(got.bytes(), b) {
		t.Errorf("Get(%s): %s", short(b), short(got))
	}
	if again, errno := put(got); errno != api.OK || !bytes.Equal(again, b) {
		t.Errorf("%s is got, and put as %s, %v", short(b), short(again), errno)
	}
	return true
}

// short: something as a text, cut.
func short(x any) string {
	s := fmt.Sprintf("%+v", x)
	if b, ok := x.([]byte); ok {
		s = fmt.Sprintf("%x", b[:min(len(b), 200)])
	}
	return s[:min(len(s), 400)]
}

// beyond: rows of digits that are no number, being greater than all.
func beyond() [][]byte {
	return [][]byte{
		{255, 255, 255, 255, 255, 255, 255, 255, 255, 2},
		{255, 255, 255, 255, 255, 255, 255, 255, 255, 127},
		{254, 255, 255, 255, 255, 255, 255, 255, 255, 129, 1},
		{128, 128, 128, 128, 128, 128, 128, 128, 128, 2},
	}
}

// firstNumber: how many bytes the number has that b begins with.
func firstNumber(b []byte) int {
	_, size := binary.Varint(b)
	return size
}

func oneVoter() api.Ensemble {
	return api.Ensemble{Members: []api.Member{{Id: 1, Role: api.Voter, Weight: 1}}}
}

func greatConfig() api.Ensemble {
	e := api.Ensemble{Version: 1 << 62}
	for id := range 7 {
		e.Members = append(e.Members, api.Member{Id: id + 1, Role: api.Voter, Weight: 1000, Group: 6})
	}
	return e
}

// rootAlone: as the chapter's first example has it.
func rootAlone() picture {
	return picture{nodes: []api.Node{{Path: "/"}}, config: oneVoter()}
}

// family: some of everything.
func family() picture {
	return picture{
		nodes: []api.Node{
			{Path: "/", Data: []byte("root"), Stat: api.Stat{Pzxid: 9, Cversion: 3, Length: 4, Children: 2}},
			{Path: "/a", Data: []byte("xy"), Stat: api.Stat{Czxid: 3, Mzxid: 4, Pzxid: 5, Ctime: 6, Mtime: 7, Version: 2, Cversion: 8, Owner: 9, Length: 2, Children: 1}},
			{Path: "/a-", Stat: api.Stat{Czxid: 1 << 40, Mzxid: 1 << 41, Pzxid: 1 << 42, Owner: 1 << 43}},
			{Path: "/a/b", Data: []byte{0, 255, 128, 1}, Stat: api.Stat{Ctime: 64, Mtime: 8192, Length: 4}},
		},
		sittings: []api.Sitting{{Session: 4, Timeout: 10, Turn: 1}, {Session: 9}, {Session: 1 << 50, Timeout: 1000, Turn: 70}},
		config: api.Ensemble{Version: 1<<32 + 5, Members: []api.Member{
			{Id: 1, Role: api.Voter, Weight: 3}, {Id: 2, Role: api.Voter, Weight: 100, Group: 6}, {Id: 5, Role: api.Observer}, {Id: 7, Role: api.Voter},
		}},
		from: 1<<32 + 2,
		to:   1<<32 + 70,
	}
}

// fullest: what has as many bytes as an image can have.
func fullest() picture {
	p := picture{nodes: manyNodes(500, 200), sittings: manySittings(200, math.MaxInt64-200), config: greatConfig(), from: math.MaxInt64, to: math.MaxInt64}
	for i := range p.nodes {
		p.nodes[i].Data = bytes.Repeat([]byte{byte(i)}, 1000)
		p.nodes[i].Stat = api.Stat{Czxid: math.MaxInt64, Mzxid: math.MaxInt64, Pzxid: math.MaxInt64, Ctime: math.MaxInt64, Mtime: math.MaxInt64, Version: math.MaxInt, Cversion: math.MaxInt, Owner: math.MaxInt64, Length: math.MaxInt, Children: math.MaxInt}
	}
	for i := range p.sittings {
		p.sittings[i].Timeout, p.sittings[i].Turn = math.MaxInt, math.MaxInt
	}
	return p
}

// manyNodes: the root, and others whose paths have so many bytes.
func manyNodes(count, size int) []api.Node {
	out := []api.Node{{Path: "/"}}
	for i := range count - 1 {
		out = append(out, api.Node{Path: "/" + fmt.Sprintf("%04d", i) + strings.Repeat("x", size-5)})
	}
	return out
}

// manySittings: of rising sessions behind the one that is named.
func manySittings(count int, behind int64) []api.Sitting {
	var out []api.Sitting
	for i := range count {
		out = append(out, api.Sitting{Session: behind + int64(i) + 1, Timeout: i, Turn: 2 * i})
	}
	return out
}

func anyNumber(next func(int) int) int64 {
	return int64(next(1<<31)) >> next(31) << []int{0, 0, 0, 32}[next(4)]
}

// anyPicture: a right one.
func anyPicture(next func(int) int) picture {
	p := picture{nodes: []api.Node{anyNode(next, "/")}, config: api.Ensemble{Version: api.Zxid(anyNumber(next)) % (1<<62 + 1)}}
	paths := []string{"/!", "/...", "/a", "/a-", "/a/b", "/a/b/c", "/a0", "/b/q-0000000007", "/" + strings.Repeat("x", 199), "/~/~"}
	for _, path := range paths {
		if next(2) == 0 {
			p.nodes = append(p.nodes, anyNode(next, path))
		}
	}
	last := int64(0)
	for range next(8) {
		last += 1 + anyNumber(next)>>8
		p.sittings = append(p.sittings, api.Sitting{Session: last, Timeout: int(anyNumber(next)), Turn: int(anyNumber(next))})
	}
	heavy := 1 + next(7)
	for id := range 8 {
		switch {
		case id == heavy:
			p.config.Members = append(p.config.Members, api.Member{Id: id, Role: api.Voter, Weight: 1 + next(1000), Group: next(7)})
		case id > 0 && next(3) == 0:
			p.config.Members = append(p.config.Members, api.Member{Id: id, Role: api.Voter, Weight: next(1001), Group: next(7)})
		case id > 0 && next(3) == 0:
			p.config.Members = append(p.config.Members, api.Member{Id: id, Role: api.Observer})
		}
	}
	p.from = api.Zxid(anyNumber(next) >> 1)
	p.to = p.from + api.Zxid(anyNumber(next)>>1)
	return p
}

func anyNode(next func(int) int, path string) api.Node {
	var n [8]int64
	for i := range n {
		n[i] = anyNumber(next)
	}
	return api.Node{
		Path: path,
		Data: slices.Repeat([]byte{byte(next(256))}, []int{0, 1, next(100), 1000}[next(4)]),
		Stat: api.Stat{Czxid: api.Zxid(n[0]), Mzxid: api.Zxid(n[1]), Pzxid: api.Zxid(n[2]), Ctime: n[3], Mtime: n[4], Version: int(n[5]), Cversion: int(n[6]), Owner: n[7], Length: next(50), Children: next(50)},
	}
}

// turnBytes tries rows of bytes that are nearly b.
func turnBytes(next func(int) int, b []byte, try func([]byte)) {
	for range min(len(b), 200) {
		i := next(len(b))
		for _, x := range []byte{0, 1, 2, 3, 4, 11, '/', 127, 128, 255, b[i] ^ 1, b[i] ^ 128, b[i] + 2, b[i] - 2} {
			other := slices.Clone(b)
			other[i] = x
			try(other)
		}
		try(slices.Delete(slices.Clone(b), i, i+1))
		try(slices.Insert(slices.Clone(b), i, byte(next(256))))
	}
}

// roomy: p, each list of it with spare room.
func roomy(p picture) picture {
	p.nodes = testkit.WithRoom(p.nodes, api.Node{Path: "/spare", Data: []byte("spare")})
	for i := range p.nodes {
		p.nodes[i].Data = testkit.WithRoom(p.nodes[i].Data, '?')
	}
	p.sittings = testkit.WithRoom(p.sittings, api.Sitting{Session: 77})
	p.config.Members = testkit.WithRoom(p.config.Members, api.Member{Id: 77})
	return p
}

// tellAll: p as a text, with what stands in the spare room of its lists.
func tellAll(p picture) string {
	out := fmt.Sprint(p.sittings[:cap(p.sittings)], p.config.Version, p.config.Members[:cap(p.config.Members)], p.from, p.to)
	for _, n := range p.nodes[:cap(p.nodes)] {
		out += fmt.Sprint(n.Path, n.Data[:cap(n.Data)], n.Stat)
	}
	return out
}

// spoil overwrites each list of p and its spare room.
func spoil(p picture) {
	for _, n := range p.nodes {
		testkit.Spoil(n.Data, '!')
	}
	testkit.Spoil(p.nodes, api.Node{Path: "/spoilt"})
	testkit.Spoil(p.sittings, api.Sitting{Session: 99})
	testkit.Spoil(p.config.Members, api.Member{Id: 99})
}

// span: where a list lies, spare room too.
type span struct{ from, to uintptr }

func spanOf[T any](l []T) span {
	from := reflect.ValueOf(l).Pointer()
	return span{from, from + uintptr(cap(l))*reflect.TypeFor[T]().Size()}
}

// checkApart: no two lists of all these lie in one another.
func checkApart(t *testing.T, what string, all ...picture) {
	t.Helper()
	var spans []span
	for _, p := range all {
		spans = append(spans, spanOf(p.nodes), spanOf(p.sittings), spanOf(p.config.Members))
		for _, n := range p.nodes {
			spans = append(spans, spanOf(n.Data))
		}
	}
	for i, a := range spans {
		for _, b := range spans[:i] {
			if a.from < b.to && b.from < a.to {
				t.Errorf("%s: two lists share memory", what)
			}
		}
	}
}
