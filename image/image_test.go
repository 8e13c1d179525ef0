package image_test

import (
	"bytes"
	"encoding/hex"
	"fmt"
	"math"
	"slices"
	"strings"
	"testing"

	"beadle/api"
	"beadle/ensemble"
	"beadle/image"
	"beadle/testkit"
	"beadle/tree"
)

// P12.1

func TestExamples(t *testing.T) {
	held, _ := hex.DecodeString("0102022f000000000000000000" + "000c" + "000202020200" + "0000")
	b, errno := image.Put([]api.Node{{Path: "/"}}, nil, oneVoter(), 0, 0)
	if errno != api.OK || !bytes.Equal(b, line(held).frame()) {
		t.Errorf("/ alone: %x, %v", b, errno)
	}
	for what, p := range map[string]picture{
		"no nodes":                 {config: oneVoter()},
		"nodes that do not rise":   {nodes: []api.Node{{Path: "/"}, {Path: "/b"}, {Path: "/a"}}, config: oneVoter()},
		"a config without members": {nodes: []api.Node{{Path: "/"}}},
		"from 2, to 1":             {nodes: []api.Node{{Path: "/"}}, config: oneVoter(), from: 2, to: 1},
	} {
		checkBoth(t, what, p, false)
	}
}

// TestBytesOfAnImage: written out by hand.
func TestBytesOfAnImage(t *testing.T) {
	p := picture{
		nodes: []api.Node{
			{Path: "/"},
			{Path: "/ab", Data: []byte("xyz"), Stat: api.Stat{Czxid: 1, Mzxid: 2, Pzxid: 3, Ctime: 4, Mtime: 5, Version: 6, Cversion: 7, Owner: 64, Length: 9, Children: 10}},
		},
		sittings: []api.Sitting{{Session: 11, Timeout: 12, Turn: 13}, {Session: 14}},
		config:   api.Ensemble{Version: 15, Members: []api.Member{{Id: 2, Role: api.Voter, Weight: 3, Group: 4}, {Id: 5, Role: api.Observer}}},
		from:     16,
		to:       17,
	}
	held := line{
		1, 4,
		2, '/', 0, 0, 0, 0, 0, 0, 0, 0, 0,
		6, '/', 'a', 'b', 6, 'x', 'y', 'z', 2, 4, 6, 8, 10, 12, 14, 0x80, 1,
		4, 22, 24, 26, 28, 0, 0,
		20, 30, 4, 4, 2, 6, 8, 10, 4, 0, 0,
		32, 34,
	}
	if b, errno := put(p); errno != api.OK || !bytes.Equal(b, held.frame()) {
		t.Errorf("%x, %v, want %x", b, errno, held.frame())
	}
	check(t, "an image", p, true)
	want := p
	want.nodes = slices.Clone(p.nodes)
	want.nodes[1].Stat.Length, want.nodes[1].Stat.Children = 3, 0
	checkGet(t, "an image", held.frame(), want)
}

func TestPictures(t *testing.T) {
	check(t, "the root alone", rootAlone(), true)
	check(t, "a family", family(), true)
	check(t, "the fullest", fullest(), true)
	check(t, "nothing", picture{}, false)
	empty := rootAlone()
	empty.sittings, empty.nodes[0].Data = []api.Sitting{}, []byte{}
	check(t, "empty lists", empty, true)
	empty.nodes = []api.Node{}
	check(t, "an empty list of nodes", empty, false)
	empty = rootAlone()
	empty.config.Members = []api.Member{}
	check(t, "an empty list of members", empty, false)
}

func TestPaths(t *testing.T) {
	long := "/" + strings.Repeat("x", 199)
	for path, right := range map[string]bool{
		"/a": true, "/a/b": true, "/...": true, "/!/~": true, "/a/b/c/d/e": true, long: true,
		"": false, "a": false, "/a/": false, "//": false, "//a": false, "/.": false, "/..": false, "/a/..": false, "/a//b": false, "/a b": false,
		"/a\x00": false, "/\xff": false, "/\x7f": false, "/é": false, "/a\n": false, " /a": false, long + "x": false, "/" + strings.Repeat("x", 5000): false,
	} {
		p := rootAlone()
		p.nodes = append(p.nodes, api.Node{Path: path})
		checkBoth(t, fmt.Sprintf("%.30q", path), p, right)
		if path < "/" {
			p.nodes = []api.Node{p.nodes[1], p.nodes[0]}
			checkBoth(t, fmt.Sprintf("%.30q ahead of the root", path), p, false)
		}
		p.nodes = []api.Node{{Path: path}}
		checkBoth(t, fmt.Sprintf("%.30q alone", path), p, false)
	}
}

// TestOrderOfNodes: all rows of up to four of these paths.
func TestOrderOfNodes(t *testing.T) {
	paths := []string{"/", "/a", "/a-", "/a/b", "/a0", "/b"} // rising
	rows := [][]int{{}}
	for from, length := 0, 1; length <= 4; length++ {
		to := len(rows)
		for _, row := range rows[from:to] {
			for i := range paths {
				rows = append(rows, append(slices.Clip(row), i))
			}
		}
		from = to
	}
	for _, row := range rows {
		p := rootAlone()
		p.nodes = nil
		right := len(row) > 0 && row[0] == 0
		for at, i := range row {
			right = right && (at == 0 || row[at-1] < i)
			p.nodes = append(p.nodes, api.Node{Path: paths[i]})
		}
		checkBoth(t, fmt.Sprint(row), p, right)
	}
}

func TestNodesWithoutParents(t *testing.T) {
	p := rootAlone()
	p.nodes = append(p.nodes, api.Node{Path: "/a/b/c"}, api.Node{Path: "/b/c", Stat: api.Stat{Owner: 5}}, api.Node{Path: "/b/c/d"})
	check(t, "no parents, and a child of one that is owned", p, true)
}

func TestData(t *testing.T) {
	for _, at := range []int{0, 2} {
		for length, right := range map[int]bool{0: true, 1: true, 63: true, 64: true, 999: true, 1000: true, 1001: false, 1024: false, 1 << 20: false} {
			p := family()
			p.nodes[at].Data = bytes.Repeat([]byte{7}, length)
			checkBoth(t, fmt.Sprintf("%d bytes at %d", length, at), p, right)
		}
		for x := range 256 {
			p := family()
			p.nodes[at].Data = []byte{byte(x), byte(255 - x)}
			check(t, "each byte", p, true)
		}
	}
}

func TestStats(t *testing.T) {
	fields := map[string]func(s *api.Stat, n int64){
		"Czxid":    func(s *api.Stat, n int64) { s.Czxid = api.Zxid(n) },
		"Mzxid":    func(s *api.Stat, n int64) { s.Mzxid = api.Zxid(n) },
		"Pzxid":    func(s *api.Stat, n int64) { s.Pzxid = api.Zxid(n) },
		"Ctime":    func(s *api.Stat, n int64) { s.Ctime = n },
		"Mtime":    func(s *api.Stat, n int64) { s.Mtime = n },
		"Version":  func(s *api.Stat, n int64) { s.Version = int(n) },
		"Cversion": func(s *api.Stat, n int64) { s.Cversion = int(n) },
		"Owner":    func(s *api.Stat, n int64) { s.Owner = n },
		"Length":   func(s *api.Stat, n int64) { s.Length = int(n) },
		"Children": func(s *api.Stat, n int64) { s.Children = int(n) },
	}
	for name, set := range fields {
		for _, n := range []int64{math.MinInt64, -1 << 32, -65, -1, 0, 1, 63, 64, 1 << 31, 1 << 32, 1<<62 + 1, math.MaxInt64} {
			for at := range family().nodes {
				p := family()
				set(&p.nodes[at].Stat, n)
				what := fmt.Sprintf("%s %d at %d", name, n, at)
				check(t, what, p, n >= 0)
				// What is not put can't be wrong in bytes.
				if n < 0 && name != "Length" && name != "Children" {
					checkNone(t, what, p.bytes())
				}
			}
		}
	}
}

// TestLengthAndChildrenAreNotPut: whatever they are, the bytes are the same.
func TestLengthAndChildrenAreNotPut(t *testing.T) {
	want := family().bytes()
	for _, n := range []int{0, 1, 3, 1000, math.MaxInt} {
		p := family()
		for i := range p.nodes {
			p.nodes[i].Stat.Length, p.nodes[i].Stat.Children = n, n+i
			if n == math.MaxInt {
				p.nodes[i].Stat.Children = n
			}
		}
		if b, errno := put(p); errno != api.OK || !bytes.Equal(b, want) {
			t.Errorf("%d: %s, %v", n, short(b), errno)
		}
	}
}

func TestHowManyNodes(t *testing.T) {
	for count, right := range map[int]bool{1: true, 2: true, 63: true, 64: true, 499: true, 500: true, 501: false, 502: false, 1000: false} {
		p := rootAlone()
		p.nodes = manyNodes(count, 6)
		// The tree's Load takes them all: the limit is the image's own.
		if tree.New().Load(p.nodes) != api.OK {
			t.Errorf("%d nodes are none of a tree", count)
		}
		checkBoth(t, fmt.Sprintf("%d nodes", count), p, right)
	}
}

func TestSittings(t *testing.T) {
	far := []int64{math.MinInt64, -1 << 32, -1, 0, 1, 2, 1000, 1001, 1 << 32, 1<<62 + 1, math.MaxInt64}
	for _, n := range far {
		for what, s := range map[string]api.Sitting{"Session": {Session: n, Timeout: 5, Turn: 6}, "Timeout": {Session: 5, Timeout: int(n)}, "Turn": {Session: 5, Turn: int(n)}} {
			right := n >= 1 || n == 0 && what != "Session"
			p := family()
			p.sittings = []api.Sitting{s}
			checkBoth(t, fmt.Sprintf("%s %d", what, n), p, right)
			p.sittings = []api.Sitting{{Session: 4}, s, {Session: math.MaxInt64}}
			checkBoth(t, fmt.Sprintf("%s %d between others", what, n), p, right && s.Session > 4 && s.Session < math.MaxInt64)
		}
	}
	for count, right := range map[int]bool{0: true, 1: true, 63: true, 64: true, 199: true, 200: true, 201: false, 202: false, 1000: false} {
		p := rootAlone()
		p.sittings = manySittings(count, 0)
		checkBoth(t, fmt.Sprintf("%d sittings", count), p, right)
	}
}

// TestOrderOfSittings: all rows of two and three of these sessions.
func TestOrderOfSittings(t *testing.T) {
	sessions := []int64{-1, 0, 1, 2, 3, 1 << 40}
	for _, a := range sessions {
		for _, b := range sessions {
			for _, c := range sessions {
				p := rootAlone()
				p.sittings = []api.Sitting{{Session: a}, {Session: b}, {Session: c}}
				checkBoth(t, fmt.Sprint(a, b, c), p, 0 < a && a < b && b < c)
				p.sittings = p.sittings[:2]
				checkBoth(t, fmt.Sprint(a, b), p, 0 < a && a < b)
			}
		}
	}
}

func TestConfigs(t *testing.T) {
	voter := func(id, weight, group int) api.Member {
		return api.Member{Id: id, Role: api.Voter, Weight: weight, Group: group}
	}
	eight := greatConfig()
	eight.Members = append(eight.Members, voter(8, 1, 0))
	for what, x := range map[string]struct {
		e     api.Ensemble
		right bool
	}{
		"one voter":            {oneVoter(), true},
		"as great as may be":   {greatConfig(), true},
		"an observer":          {api.Ensemble{Members: []api.Member{voter(1, 0, 0), {Id: 2, Role: api.Observer}, voter(3, 1, 0)}}, true},
		"none":                 {api.Ensemble{}, false},
		"a version alone":      {api.Ensemble{Version: 1}, false},
		"a version below 0":    {api.Ensemble{Version: -1, Members: []api.Member{voter(1, 1, 0)}}, false},
		"a version above 2^62": {api.Ensemble{Version: 1<<62 + 1, Members: []api.Member{voter(1, 1, 0)}}, false},
		"eight members":        {eight, false},
		"the id 0":             {api.Ensemble{Members: []api.Member{voter(0, 1, 0)}}, false},
		"the id 8":             {api.Ensemble{Members: []api.Member{voter(8, 1, 0)}}, false},
		"ids that fall":        {api.Ensemble{Members: []api.Member{voter(2, 1, 0), voter(1, 1, 0)}}, false},
		"an id twice":          {api.Ensemble{Members: []api.Member{voter(2, 1, 0), voter(2, 1, 0)}}, false},
		"no role":              {api.Ensemble{Members: []api.Member{{Id: 1, Weight: 1}}}, false},
		"another role":         {api.Ensemble{Members: []api.Member{{Id: 1, Role: 3, Weight: 1}}}, false},
		"a weight below 0":     {api.Ensemble{Members: []api.Member{voter(1, -1, 0), voter(2, 1, 0)}}, false},
		"a weight above 1000":  {api.Ensemble{Members: []api.Member{voter(1, 1001, 0)}}, false},
		"a group below 0":      {api.Ensemble{Members: []api.Member{voter(1, 1, -1)}}, false},
		"a group above 6":      {api.Ensemble{Members: []api.Member{voter(1, 1, 7)}}, false},
		"no weight":            {api.Ensemble{Members: []api.Member{voter(1, 0, 0), voter(2, 0, 0)}}, false},
		"observers alone":      {api.Ensemble{Members: []api.Member{{Id: 1, Role: api.Observer}}}, false},
		"an observer's weight": {api.Ensemble{Members: []api.Member{{Id: 1, Role: api.Observer, Weight: 1}, voter(2, 1, 0)}}, false},
		"an observer's group":  {api.Ensemble{Members: []api.Member{{Id: 1, Role: api.Observer, Group: 1}, voter(2, 1, 0)}}, false},
	} {
		p := family()
		p.config = x.e
		checkBoth(t, what, p, x.right)
	}
}

func TestZxids(t *testing.T) {
	edges := []api.Zxid{math.MinInt64, -1 << 32, -2, -1, 0, 1, 2, 63, 64, 1 << 32, 1 << 62, 1<<62 + 1, math.MaxInt64 - 1, math.MaxInt64}
	for i, from := range edges {
		for j, to := range edges {
			p := family()
			p.from, p.to = from, to
			checkBoth(t, fmt.Sprintf("from %d to %d", from, to), p, i >= 4 && j >= i)
		}
	}
}

// TestOneFaultIsEnough: each fault alone, and any two of them, in what is right otherwise.
func TestOneFaultIsEnough(t *testing.T) {
	faults := []func(p *picture){
		func(p *picture) { p.nodes = p.nodes[1:] },
		func(p *picture) { p.nodes[3].Path = "/a-" },
		func(p *picture) { p.nodes[3].Path = "/c/" },
		func(p *picture) { p.nodes[2].Data = make([]byte, 1001) },
		func(p *picture) { p.nodes[0].Stat.Ctime = -1 },
		func(p *picture) { p.nodes = manyNodes(501, 6) },
		func(p *picture) { p.sittings[0].Session = 0 },
		func(p *picture) { p.sittings[1].Session = 4 },
		func(p *picture) { p.sittings[2].Turn = -1 },
		func(p *picture) { p.sittings = manySittings(201, 0) },
		func(p *picture) { p.config.Members = nil },
		func(p *picture) { p.config.Members = slices.Repeat(p.config.Members, 2) },
		func(p *picture) { p.from = -1 },
		func(p *picture) { p.to = p.from - 1 },
	}
	for i, one := range faults {
		p := family()
		one(&p)
		checkBoth(t, fmt.Sprintf("fault %d", i), p, false)
		for j, other := range faults[:i] {
			p := family()
			one(&p)
			func() {
				// Some faults take away what others change.
				defer func() { recover() }()
				other(&p)
			}()
			checkBoth(t, fmt.Sprintf("faults %d and %d", i, j), p, false)
		}
	}
}

// P12.2

func TestBytesThatAreNoImages(t *testing.T) {
	checkNone(t, "nil", nil)
	checkNone(t, "nothing", []byte{})
	checkNone(t, "a frame of nothing", line{}.frame())
	for _, p := range []picture{rootAlone(), family()} {
		b := p.bytes()
		for end := range b {
			checkNone(t, "cut", b[:end:end])
			checkNone(t, "cut, the rest in the spare room", b[:end])
		}
		for more := range 256 {
			checkNone(t, "a byte behind the frame", append(slices.Clip(b), byte(more)))
			checkNone(t, "a byte ahead of the frame", append([]byte{byte(more)}, b...))
		}
		checkNone(t, "twice", slices.Concat(b, b))
		checkNone(t, "a frame of nothing behind it", slices.Concat(b, line{}.frame()))
		checkNone(t, "without a frame", b[8:])
		checkNone(t, "a frame in a frame", line(b).frame())
		checkGet(t, "spare room behind it", append(b, 1, 2, 3)[:len(b)], p.got())
	}
}

func TestBytesWithinTheFrame(t *testing.T) {
	for _, p := range []picture{rootAlone(), family()} {
		inner := p.inner()
		for x := range 256 {
			checkNone(t, "a byte behind to", slices.Concat(inner, line{byte(x)}).frame())
			if x != 1 {
				checkNone(t, "another mark", p.with(0, []byte{byte(x)}))
			}
		}
		for end := range inner {
			checkNone(t, "it ends early", inner[:end].frame())
		}
		checkNone(t, "no mark", p.with(0, nil))
		checkNone(t, "two marks", p.with(0, []byte{1, 1}))
		checkNone(t, "twice", slices.Concat(inner, inner).frame())
		for i := range p.pieces() {
			checkNone(t, fmt.Sprintf("without the piece %d", i), p.with(i, nil))
		}
	}
}

// TestNumbersThatAreNone: each piece but the mark begins with a number, if only that of how many bytes it has.
func TestNumbersThatAreNone(t *testing.T) {
	for _, p := range []picture{rootAlone(), family()} {
		for i, piece := range p.pieces() {
			if i == 0 {
				continue
			}
			what := fmt.Sprintf("the piece %d", i)
			size := firstNumber(piece)
			number, rest := piece[:size], piece[size:]
			nought := slices.Clone(number)
			nought[size-1] |= 128
			checkNone(t, what+", a nought ahead", p.with(i, slices.Concat(nought, []byte{0}, rest)))
			checkNone(t, what+", two noughts ahead", p.with(i, slices.Concat(nought, []byte{128, 0}, rest)))
			checkNone(t, what+", not the last digit", p.with(i, slices.Concat(nought, rest)))
			for _, digits := range beyond() {
				checkNone(t, what+", no number", p.with(i, slices.Concat(digits, rest)))
			}
			for _, n := range []int64{math.MinInt64, -1 << 32, -256, -2, -1} {
				checkNone(t, what+", below 0", p.with(i, slices.Concat(line{}.int(n), rest)))
			}
			for _, n := range []int64{0, 1, 2, 3, 4, 5, 9, 200, 201, 500, 501, 1000, 1001, 1 << 20, 1 << 32, 1<<32 + 1, 1<<32 + 4, 1 << 62, math.MaxInt64} {
				look(t, p.with(i, slices.Concat(line{}.int(n), rest)))
			}
		}
	}
}

func TestCounts(t *testing.T) {
	p := family()
	sittings := 2 + 10*len(p.nodes)
	for _, n := range []int64{math.MinInt64, -4, -1, 0, 1, 2, 3, 5, 6, 499, 500, 501, 1 << 20, 1 << 32, 1<<32 + 4, 1<<62 + 4, math.MaxInt64} {
		checkNone(t, fmt.Sprintf("four nodes, said to be %d", n), p.with(1, line{}.int(n)))
	}
	for _, n := range []int64{math.MinInt64, -3, -1, 0, 1, 2, 4, 5, 200, 201, 1 << 20, 1 << 32, 1<<32 + 3, 1<<62 + 3, math.MaxInt64} {
		checkNone(t, fmt.Sprintf("three sittings, said to be %d", n), p.with(sittings, line{}.int(n)))
	}
	checkNone(t, "five hundred nodes that do not stand there", line{1}.int(500).frame())
	checkNone(t, "nodes of nothing but noughts", append(line{1}.int(500), make([]byte, 500*20)...).frame())
}

func TestConfigsInBytes(t *testing.T) {
	p := family()
	at := len(p.pieces()) - 3
	held, _ := ensemble.Put(p.config)
	checkGet(t, "its own", p.with(at, line{}.row(held)), p.got())
	checkNone(t, "none", p.with(at, line{}.row(nil)))
	checkNone(t, "without its length", p.with(at, held))
	checkNone(t, "in a frame", p.with(at, line{}.row(line(held).frame())))
	checkNone(t, "twice", p.with(at, line{}.row(slices.Concat(held, held))))
	checkNone(t, "two of them", p.with(at, line{}.row(held).row(held)))
	for x := range 256 {
		checkNone(t, "a byte behind it", p.with(at, line{}.row(append(slices.Clip(held), byte(x)))))
	}
	for end := range held {
		checkNone(t, "cut", p.with(at, line{}.row(held[:end])))
	}
	checkNone(t, "of a thousand noughts", p.with(at, line{}.row(make([]byte, 1000))))
	checkNone(t, "of as many noughts as a frame has room for", p.with(at, line{}.row(make([]byte, 1<<20-200))))
	numbers := configPieces(p.config)
	for i, number := range numbers {
		with := func(other line) []byte {
			all := slices.Clone(numbers)
			all[i] = other
			return p.with(at, line{}.row(slices.Concat(all...)))
		}
		nought := slices.Clone(number)
		nought[len(nought)-1] |= 128
		checkNone(t, "a nought ahead of a number of it", with(append(nought, 0)))
		for _, n := range []int64{math.MinInt64, -1, 0, 1, 2, 3, 256, 257, 258, 1 << 32, 1<<32 + 1, math.MaxInt64} {
			look(t, with(line{}.int(n)))
		}
	}
}

// TestLongBytes: what is longer than a frame may be, is no image.
func TestLongBytes(t *testing.T) {
	for _, length := range []int{1 << 20, 1<<20 + 1, 1 << 22} {
		held := append(family().inner(), make([]byte, length)...)[:length]
		checkNone(t, "noughts behind it", held.frame())
	}
}

func TestRowsOfBytes(t *testing.T) {
	next := testkit.Walk()
	found := 0
	for range 100000 {
		inner := append(line{1, 2, 2, '/'}, make(line, 19)...)[:next(30)%24]
		copy(inner[min(14, len(inner)):], line{12, 0, 2, 2, 2, 2, 0})
		for range next(4) {
			if len(inner) > 0 {
				inner[next(len(inner))] = []byte{0, 1, 2, 4, 6, 8, 12, '/', 128, byte(next(256))}[next(10)]
			}
		}
		if look(t, inner.frame()) {
			found++
		}
		look(t, inner)
	}
	if found < 500 || found > 90000 {
		t.Errorf("%d of them are images", found)
	}
}

// P12.3

func TestWhatIsPutIsGot(t *testing.T) {
	next := testkit.Walk()
	for range 5000 {
		p := anyPicture(next)
		check(t, "any", p, true)
		b, _ := put(p)
		checkGet(t, "any", b, p.got())
		look(t, b)
	}
}

// TestTreesComeBack: what a tree tells is put, got and loaded, Children and all.
func TestTreesComeBack(t *testing.T) {
	next := testkit.Walk()
	for range 300 {
		x := tree.New()
		for z := range api.Zxid(30) {
			path := []string{"/a", "/a-", "/a/b", "/a/b/c", "/b"}[next(5)]
			d := api.Deed{Zxid: z + 1, Time: int64(next(50)), Session: int64(next(20)), Turn: next(9), Path: path, Kind: api.DeedCreate, Data: make([]byte, next(9)), Owner: int64(next(3)), Cversion: next(9)}
			switch next(4) {
			case 0:
				d = api.Deed{Zxid: z + 1, Kind: api.DeedDelete, Path: path, Cversion: next(9)}
			case 1:
				d = api.Deed{Zxid: z + 1, Kind: api.DeedOpen, Timeout: 1 + next(1000), Turn: next(5)}
			}
			x.Apply(d)
		}
		b, errno := image.Put(x.All(), x.Sittings(), greatConfig(), 3, 30)
		nodes, sittings, _, _, _, again := image.Get(b)
		if errno != api.OK || again != api.OK {
			t.Fatalf("%v, %v", errno, again)
		}
		back := tree.New()
		if errno := back.Load(nodes); errno != api.OK {
			t.Errorf("Load: %v", errno)
		}
		back.Seat(sittings)
		if !tree.Same(x, back) || !slices.EqualFunc(x.All(), back.All(), sameNode) || len(sittings) == 0 {
			t.Errorf("%s came back as %s", short(x.All()), short(back.All()))
		}
	}
}

func TestTurnedBits(t *testing.T) {
	for _, p := range []picture{rootAlone(), family()} {
		b := p.bytes()
		for i := range 8 * len(b) {
			b[i/8] ^= 1 << (i % 8)
			checkNone(t, fmt.Sprintf("the bit %d is turned", i), b)
			b[i/8] ^= 1 << (i % 8)
		}
	}
	b := fullest().bytes()
	for i := 0; i < 8*len(b); i += 8*len(b)/97 + 1 {
		b[i/8] ^= 1 << (i % 8)
		checkNone(t, fmt.Sprintf("the bit %d of the fullest is turned", i), b)
		b[i/8] ^= 1 << (i % 8)
	}
}

// TestNearlyImages: turned bytes whose sum is right.
func TestNearlyImages(t *testing.T) {
	next := testkit.Walk()
	for range 50 {
		p := anyPicture(next)
		for i := range p.nodes {
			p.nodes[i].Data = p.nodes[i].Data[:min(len(p.nodes[i].Data), 5)]
		}
		turnBytes(next, p.inner(), func(b []byte) { look(t, line(b).frame()) })
	}
}

func TestSizeOfTheFullest(t *testing.T) {
	b, errno := put(fullest())
	if errno != api.OK || len(b) > api.MaxBytes+8 {
		t.Errorf("%d bytes, %v", len(b), errno)
	}
}

// TestSameAgain: no answer hangs on what was asked ahead of it (R4).
func TestSameAgain(t *testing.T) {
	for range 3 {
		checkNone(t, "wrong", family().bytes()[1:])
		check(t, "a family", family(), true)
		check(t, "the root alone", rootAlone(), true)
	}
}

// R3

func TestHandedInStays(t *testing.T) {
	wrong := family()
	wrong.to = -1
	wrongNodes := family()
	wrongNodes.nodes[3].Path = "/"
	for _, p := range []picture{rootAlone(), family(), wrong, wrongNodes} {
		given := roomy(p)
		before := tellAll(given)
		b, _ := put(given)
		testkit.Spoil(b, 0xee)
		if after := tellAll(given); after != before {
			t.Errorf("what was put was\n%s, is\n%s", before, after)
		}
		held := testkit.WithRoom(p.bytes(), 0xdd)
		whole := slices.Clone(held[:cap(held)])
		got, _ := get(held)
		spoil(got)
		get(held[:len(held)-1])
		get(held[:cap(held)])
		if !bytes.Equal(held[:cap(held)], whole) {
			t.Errorf("bytes were %s, are %s", short(whole), short(held[:cap(held)]))
		}
	}
}

func TestNothingIsKept(t *testing.T) {
	for _, p := range []picture{rootAlone(), family(), fullest()} {
		given := roomy(p)
		b, _ := put(given)
		other, _ := put(given)
		spoil(given)
		if !bytes.Equal(b, p.bytes()) {
			t.Error("Put's bytes hang on what was put")
		}
		testkit.Spoil(other, 0xee)
		if !bytes.Equal(b, p.bytes()) {
			t.Error("Put's answers share memory")
		}
		first, _ := get(b)
		second, _ := get(b)
		testkit.Spoil(b, 0xee)
		if !same(first, p.got()) {
			t.Error("what Get tells hangs on its bytes")
		}
		spoil(second)
		if !same(first, p.got()) {
			t.Error("Get's answers share memory")
		}
	}
}

func TestListsShareNothing(t *testing.T) {
	for what, p := range map[string]picture{"the root alone": rootAlone(), "a family": family(), "the fullest": fullest()} {
		first, _ := get(p.bytes())
		second, _ := get(p.bytes())
		checkApart(t, what, first, second)
	}
}
