package deed_test

import (
	"bytes"
	"encoding/binary"
	"math"
	"math/big"
	"reflect"
	"slices"
	"strconv"
	"strings"
	"testing"

	"beadle/api"
	"beadle/deed"
	"beadle/testkit"
)

// The model knows paths only as the tests use them: these are right, all others are not.
func rightPaths() []string {
	return []string{"/", "/a", "/a/b", "/b", "/q-0000000007", longest}
}

var longest = "/" + strings.Repeat("x", 199)

func modelPath(p string) bool { return slices.Contains(rightPaths(), p) }

func modelZxid(z api.Zxid) bool { return z >= 0 && z <= 4611686022722355199 } // 2^62 + 2^32 - 1

func modelConfig(e api.Ensemble) bool {
	heavy := false
	for i, m := range e.Members {
		if m.Id < 1 || m.Id > 7 || i > 0 && m.Id <= e.Members[i-1].Id || m.Role < 1 || m.Role > 2 {
			return false
		}
		if m.Weight < 0 || m.Weight > 1000 || m.Group < 0 || m.Group > 6 || m.Role == 2 && (m.Weight != 0 || m.Group != 0) {
			return false
		}
		heavy = heavy || m.Weight > 0
	}
	return heavy && len(e.Members) <= 7 && e.Version >= 0 && e.Version <= 4611686018427387904
}

// named: by the names of its fields, what the chapter's table says of each kind.
func named(d api.Deed) map[string]bool {
	child := modelPath(d.Path) && d.Path != "/"
	data := len(d.Data) <= 1000
	switch d.Kind {
	case 1:
		return map[string]bool{"Path": child, "Data": data, "Owner": d.Owner >= 0, "Cversion": d.Cversion >= 0}
	case 2:
		return map[string]bool{"Path": child, "Cversion": d.Cversion >= 0}
	case 3:
		return map[string]bool{"Path": modelPath(d.Path), "Data": data, "Version": d.Version >= 0}
	case 4:
		return map[string]bool{"Timeout": d.Timeout >= 1 && d.Timeout <= 1000}
	case 5:
		return map[string]bool{"Owner": d.Owner >= 1, "Parts": len(d.Parts) <= 500 && modelParts(d.Parts, 2)}
	case 6:
		return map[string]bool{}
	case 7:
		return map[string]bool{"Config": modelConfig(d.Config) && d.Config.Version == d.Zxid}
	case 8:
		return map[string]bool{"Parts": len(d.Parts) >= 1 && len(d.Parts) <= 16 && modelParts(d.Parts, 1, 2, 3)}
	case 9:
		return map[string]bool{"Err": d.Err >= 1}
	}
	return nil
}

func modelParts(parts []api.Deed, kinds ...api.DeedKind) bool {
	for _, part := range parts {
		if !slices.Contains(kinds, part.Kind) || part.Zxid != 0 || part.Session != 0 || part.Turn != 0 || part.Xid != 0 || part.Time != 0 || !modelFields(part) {
			return false
		}
	}
	return true
}

// modelFields: each field by its name is as the table says, or else zero.
func modelFields(d api.Deed) bool {
	table := named(d)
	v := reflect.ValueOf(d)
	for i := range v.NumField() {
		name := v.Type().Field(i).Name
		if slices.Contains([]string{"Kind", "Zxid", "Session", "Turn", "Xid", "Time"}, name) {
			continue
		}
		if fits, there := table[name]; there && !fits || !there && !isNone(v.Field(i)) {
			return false
		}
	}
	return table != nil
}

func isNone(v reflect.Value) bool {
	switch v.Kind() {
	case reflect.Slice:
		return v.Len() == 0
	case reflect.Struct:
		for i := range v.NumField() {
			if !isNone(v.Field(i)) {
				return false
			}
		}
		return true
	}
	return v.IsZero()
}

func modelRight(d api.Deed) bool {
	return d.Zxid >= 1 && modelZxid(d.Zxid) && d.Session >= 0 && d.Turn >= 0 && d.Xid >= 0 && d.Time >= 0 && modelFields(d)
}

// line: bytes one behind the other; wire's numbers are the library's signed varints.
type line []byte

func (l line) byte(b int) line { return append(l, byte(b)) }

func (l line) int(numbers ...int64) line {
	for _, n := range numbers {
		l = binary.AppendVarint(l, n)
	}
	return l
}

func (l line) text(s string) line { return append(l.int(int64(len(s))), s...) }

func modelConfigBytes(e api.Ensemble) []byte {
	l := line{}.int(int64(e.Version), int64(len(e.Members)))
	for _, m := range e.Members {
		l = l.int(int64(m.Id), int64(m.Role), int64(m.Weight), int64(m.Group))
	}
	return l
}

func (l line) body(d api.Deed) line {
	switch d.Kind {
	case api.DeedCreate:
		return l.text(d.Path).text(string(d.Data)).int(d.Owner).int(int64(d.Cversion))
	case api.DeedDelete:
		return l.text(d.Path).int(int64(d.Cversion))
	case api.DeedSet:
		return l.text(d.Path).text(string(d.Data)).int(int64(d.Version))
	case api.DeedOpen:
		return l.int(int64(d.Timeout))
	case api.DeedClose:
		return l.int(d.Owner).parts(d.Parts)
	case api.DeedConfig:
		return l.text(string(modelConfigBytes(d.Config)))
	case api.DeedMulti:
		return l.parts(d.Parts)
	case api.DeedError:
		return l.int(int64(d.Err))
	}
	return l
}

func (l line) parts(parts []api.Deed) line {
	l = l.int(int64(len(parts)))
	for _, part := range parts {
		l = l.byte(int(part.Kind)).body(part)
	}
	return l
}

// modelBytes: of deeds that are not right, too: what their bytes would be.
func modelBytes(d api.Deed) []byte {
	return line{}.byte(int(d.Kind)).int(int64(d.Zxid), d.Session, int64(d.Turn), int64(d.Xid), d.Time).body(d)
}

// same: all fields, an empty list like none.
func same(a, b api.Deed) bool {
	if len(a.Data) == 0 && len(b.Data) == 0 {
		a.Data, b.Data = nil, nil
	}
	if len(a.Config.Members) == 0 && len(b.Config.Members) == 0 {
		a.Config.Members, b.Config.Members = nil, nil
	}
	if !slices.EqualFunc(a.Parts, b.Parts, same) {
		return false
	}
	a.Parts, b.Parts = nil, nil
	return reflect.DeepEqual(a, b)
}

func isZero(d api.Deed) bool { return same(d, api.Deed{}) }

// short: a deed as a text, its lists cut.
func short(d api.Deed) string {
	s := "{" + strconv.FormatInt(int64(d.Zxid), 10) + " kind " + strconv.Itoa(int(d.Kind)) + " of " + strconv.FormatInt(d.Session, 10) + " " + strconv.Itoa(d.Turn) + " " + strconv.Itoa(d.Xid) + " at " + strconv.FormatInt(d.Time, 10)
	s += " path " + strconv.Itoa(len(d.Path)) + ":" + strconv.Quote(d.Path[:min(len(d.Path), 9)]) + " data " + strconv.Itoa(len(d.Data)) + " owner " + strconv.FormatInt(d.Owner, 10)
	s += " versions " + strconv.Itoa(d.Version) + " " + strconv.Itoa(d.Cversion) + " timeout " + strconv.Itoa(d.Timeout) + " err " + strconv.Itoa(int(d.Err))
	s += " config " + strconv.FormatInt(int64(d.Config.Version), 10) + ":" + strconv.Itoa(len(d.Config.Members)) + " parts " + strconv.Itoa(len(d.Parts))
	for _, part := range d.Parts[:min(len(d.Parts), 3)] {
		s += " " + short(part)
	}
	return s + "}"
}

// check holds Right, Put and, of the bytes that d has or would have, Get against the model; it tells whether d is right.
func check(t *testing.T, d api.Deed) bool {
	t.Helper()
	right := modelRight(d)
	if got := deed.Right(d); got != right {
		t.Errorf("Right(%s): %v, want %v", short(d), got, right)
	}
	b, errno := deed.Put(d)
	if !right {
		if errno != api.ErrShape || len(b) != 0 {
			t.Errorf("Put(%s): %x, %v", short(d), b, errno)
		}
		return false
	}
	want := modelBytes(d)
	if errno != api.OK || !bytes.Equal(b, want) {
		t.Errorf("Put(%s): %x, %v, want %x", short(d), b, errno, want)
	}
	checkGet(t, want, d)
	return true
}

func checkGet(t *testing.T, b []byte, want api.Deed) {
	t.Helper()
	if got, errno := deed.Get(b); errno != api.OK || !same(got, want) {
		t.Errorf("Get(%x): %s, %v, want %s", b, short(got), errno, short(want))
	}
}

// checkNone: an error, and nothing beside it.
func checkNone(t *testing.T, what string, b []byte) {
	t.Helper()
	if got, errno := deed.Get(b); errno != api.ErrShape || !isZero(got) {
		t.Errorf("%s: Get(%x): %s, %v", what, b[:min(len(b), 60)], short(got), errno)
	}
}

// look: whatever b is, only a right deed is told of it, and only that whose bytes it is.
func look(t *testing.T, b []byte) {
	t.Helper()
	got, errno := deed.Get(b)
	if errno != api.OK {
		checkNone(t, "no deed", b)
		return
	}
	if !modelRightOf(got) || !bytes.Equal(modelBytes(got), b) {
		t.Errorf("Get(%x): %s", b, short(got))
	}
}

// modelRightOf: where paths come out of bytes, which may be others than those of the model: any path that Right takes will do.
func modelRightOf(d api.Deed) bool {
	if !deed.Right(d) {
		return false
	}
	d.Parts = slices.Clone(d.Parts)
	for i := range d.Parts {
		d.Parts[i].Path = modelOf(d.Parts[i].Path)
	}
	d.Path = modelOf(d.Path)
	return modelRight(d)
}

func modelOf(p string) string {
	if len(p) > 1 {
		return "/a"
	}
	return p
}

func part(kind api.DeedKind, p string) api.Deed { return api.Deed{Kind: kind, Path: p} }

func many(n int, one api.Deed) []api.Deed { return slices.Repeat([]api.Deed{one}, n) }

func config(version api.Zxid) api.Ensemble {
	return api.Ensemble{Version: version, Members: []api.Member{{Id: 1, Role: api.Voter, Weight: 1}, {Id: 4, Role: api.Observer}, {Id: 7, Role: api.Voter, Weight: 1000, Group: 6}}}
}

// eachKind: a right deed of each kind, with as little as may be, and one with all that it may have.
func eachKind() []api.Deed {
	return []api.Deed{
		{Zxid: 1, Kind: api.DeedCreate, Path: "/a"},
		{Zxid: 1, Kind: api.DeedDelete, Path: "/a"},
		{Zxid: 1, Kind: api.DeedSet, Path: "/"},
		{Zxid: 1, Kind: api.DeedOpen, Timeout: 1},
		{Zxid: 1, Kind: api.DeedClose, Owner: 1},
		{Zxid: 1, Kind: api.DeedSync},
		{Zxid: 1, Kind: api.DeedConfig, Config: config(1)},
		{Zxid: 1, Kind: api.DeedMulti, Parts: []api.Deed{part(api.DeedSet, "/")}},
		{Zxid: 1, Kind: api.DeedError, Err: 1},
		{Zxid: 1<<62 + 1<<32 - 1, Session: math.MaxInt64, Turn: math.MaxInt, Xid: math.MaxInt, Time: math.MaxInt64, Kind: api.DeedCreate, Path: longest, Data: bytes.Repeat([]byte{0xff}, 1000), Owner: math.MaxInt64, Cversion: math.MaxInt},
		{Zxid: 1 << 62, Session: 5, Turn: 4, Xid: 3, Time: 2, Kind: api.DeedDelete, Path: longest, Cversion: math.MaxInt},
		{Zxid: 7<<32 + 1, Session: 1, Turn: 2, Xid: 3, Time: 4, Kind: api.DeedSet, Path: "/a/b", Data: []byte{0, 1, 255}, Version: math.MaxInt},
		{Zxid: 7<<32 + 2, Turn: 9, Xid: 1, Time: 64, Kind: api.DeedOpen, Timeout: 1000},
		{Zxid: 7<<32 + 3, Session: 8, Turn: 9, Xid: 64, Time: 63, Kind: api.DeedClose, Owner: math.MaxInt64, Parts: []api.Deed{{Kind: api.DeedDelete, Path: "/a/b", Cversion: 9}, {Kind: api.DeedDelete, Path: "/a"}, {Kind: api.DeedDelete, Path: "/b", Cversion: math.MaxInt}}},
		{Zxid: 7<<32 + 4, Session: 8, Turn: 9, Xid: 65, Time: 66, Kind: api.DeedSync},
		{Zxid: 1 << 62, Session: 8, Turn: 9, Xid: 65, Time: 66, Kind: api.DeedConfig, Config: config(1 << 62)},
		{Zxid: 7<<32 + 5, Session: 8, Turn: 9, Xid: 66, Time: 66, Kind: api.DeedMulti, Parts: []api.Deed{{Kind: api.DeedCreate, Path: "/b", Data: []byte("xyz"), Owner: 8, Cversion: 1}, {Kind: api.DeedSet, Path: "/b", Data: []byte{}, Version: 1}, {Kind: api.DeedDelete, Path: "/b", Cversion: 2}, {Kind: api.DeedSet, Path: "/", Data: []byte("q"), Version: 64}}},
		{Zxid: 7<<32 + 6, Session: 8, Turn: 9, Xid: 67, Time: 66, Kind: api.DeedError, Err: math.MaxInt},
	}
}

// P5.1

func TestZxids(t *testing.T) {
	edges := []int{math.MinInt, -1 << 62, -1 << 32, -1, 0, 1, 2, 1000, 1<<30 - 1, 1 << 30, 1<<30 + 1, 1<<31 - 1, 1 << 31, 1<<32 - 2, 1<<32 - 1, 1 << 32, 1<<32 + 1, 1 << 62, math.MaxInt}
	for _, epoch := range edges {
		for _, counter := range edges {
			want := api.Zxid(0)
			there := epoch >= 0 && epoch <= 1073741824 && counter >= 0 && counter <= 4294967295
			if there {
				z := new(big.Int).Mul(big.NewInt(int64(epoch)), big.NewInt(4294967296))
				want = api.Zxid(z.Add(z, big.NewInt(int64(counter))).Int64())
			}
			got := deed.Make(epoch, counter)
			if got != want {
				t.Errorf("Make(%d, %d): %d, want %d", epoch, counter, got, want)
			}
			if e, c := deed.Epoch(want), deed.Counter(want); there && (e != epoch || c != counter) {
				t.Errorf("%d: epoch %d, counter %d, want %d, %d", want, e, c, epoch, counter)
			}
		}
	}
}

func TestExamplesOfZxids(t *testing.T) {
	if z := deed.Make(1, 2); z != 4294967298 {
		t.Errorf("Make(1, 2): %d", z)
	}
	for _, x := range []struct{ epoch, counter int }{{-1, 0}, {1<<30 + 1, 0}, {0, 1 << 32}, {0, -1}, {1, -1}, {1, 1 << 32}, {1<<30 + 1, 1}} {
		if z := deed.Make(x.epoch, x.counter); z != 0 {
			t.Errorf("Make(%d, %d): %d", x.epoch, x.counter, z)
		}
	}
	for _, x := range []struct {
		z              api.Zxid
		epoch, counter int
	}{
		{1<<32 + 2, 1, 2},
		{0, 0, 0},
		{1, 0, 1},
		{1<<32 - 1, 0, 1<<32 - 1},
		{1 << 32, 1, 0},
		{1<<62 - 1, 1<<30 - 1, 1<<32 - 1},
		{1 << 62, 1 << 30, 0},
		{1<<62 + 1<<32 - 1, 1 << 30, 1<<32 - 1},
		{1<<62 + 1<<32, 0, 0},
		{1<<62 + 1<<32 + 5, 0, 0},
		{math.MaxInt64, 0, 0},
		{-1, 0, 0},
		{-1 << 32, 0, 0},
		{-1<<32 - 7, 0, 0},
		{math.MinInt64, 0, 0},
		{math.MinInt64 + 5, 0, 0},
	} {
		if e, c := deed.Epoch(x.z), deed.Counter(x.z); e != x.epoch || c != x.counter {
			t.Errorf("%d: epoch %d, counter %d, want %d, %d", x.z, e, c, x.epoch, x.counter)
		}
	}
}

// P5.2

func TestExamplesOfRight(t *testing.T) {
	for _, d := range []api.Deed{
		{Zxid: 1, Kind: api.DeedSync},
		{Zxid: 1, Kind: api.DeedSet, Path: "/"},
		{Zxid: 5, Session: 3, Turn: 1, Xid: 2, Kind: api.DeedError, Err: 210},
	} {
		if !deed.Right(d) || !check(t, d) {
			t.Errorf("%s is not right", short(d))
		}
	}
	for _, d := range []api.Deed{
		{},
		{Kind: api.DeedSync},
		{Zxid: 1},
		{Zxid: 1, Kind: api.DeedCreate, Path: "/"},
		{Zxid: 1, Kind: api.DeedSync, Path: "/a"},
		{Zxid: 1, Kind: api.DeedError},
		{Zxid: 1, Kind: api.DeedMulti},
		{Zxid: 1, Kind: api.DeedMulti, Parts: []api.Deed{{Kind: api.DeedDelete, Path: "/a", Time: 1}}},
	} {
		if deed.Right(d) || check(t, d) {
			t.Errorf("%s is right", short(d))
		}
	}
}

func TestEachKindIsRight(t *testing.T) {
	for _, d := range eachKind() {
		if !check(t, d) {
			t.Errorf("%s is not right", short(d))
		}
	}
	for kind := range 256 {
		want := kind == 6
		if got := deed.Right(api.Deed{Zxid: 1, Kind: api.DeedKind(kind)}); got != want {
			t.Errorf("a deed of kind %d without fields: %v", kind, got)
		}
		for _, d := range eachKind() {
			d.Kind = api.DeedKind(kind)
			check(t, d)
		}
	}
}

func TestHeads(t *testing.T) {
	zxids := []api.Zxid{math.MinInt64, -1 << 32, -1, 0, 1, 1<<32 - 1, 1 << 32, 1 << 62, 1<<62 + 1, 1<<62 + 1<<32 - 1, 1<<62 + 1<<32, math.MaxInt64}
	for _, d := range eachKind() {
		for _, z := range zxids {
			other := d
			other.Zxid = z
			check(t, other)
			if d.Kind == api.DeedConfig {
				other.Config = config(z)
				check(t, other)
			} else if got := deed.Right(other); got != (z >= 1 && z <= 1<<62+1<<32-1) {
				t.Errorf("zxid %d: %v", z, got)
			}
		}
		for _, n := range []int64{math.MinInt64, -1 << 32, -2, -1, 0, 1, 1 << 31, 1 << 32, math.MaxInt64} {
			for _, set := range []func(*api.Deed){
				func(d *api.Deed) { d.Session = n },
				func(d *api.Deed) { d.Turn = int(n) },
				func(d *api.Deed) { d.Xid = int(n) },
				func(d *api.Deed) { d.Time = n },
			} {
				other := d
				set(&other)
				if check(t, other) != (n >= 0) {
					t.Errorf("%s", short(other))
				}
			}
		}
	}
}

// strange: each field by itself set to something, to its edges and beyond them.
func strange() []func(*api.Deed) {
	var out []func(*api.Deed)
	for _, p := range append(rightPaths(), "", "a", "/a/", "//", "/.", "/..", "/a b", longest+"x", "/é") {
		out = append(out, func(d *api.Deed) { d.Path = p })
	}
	for _, n := range []int{0, 1, 999, 1000, 1001, 5000} {
		out = append(out, func(d *api.Deed) { d.Data = make([]byte, n) })
	}
	out = append(out, func(d *api.Deed) { d.Data = nil })
	for _, n := range []int64{math.MinInt64, -1 << 32, -2, -1, 0, 1, 2, 999, 1000, 1001, 1 << 31, 1 << 32, 1<<32 + 1, math.MaxInt64} {
		out = append(out,
			func(d *api.Deed) { d.Owner = n },
			func(d *api.Deed) { d.Version = int(n) },
			func(d *api.Deed) { d.Cversion = int(n) },
			func(d *api.Deed) { d.Timeout = int(n) },
			func(d *api.Deed) { d.Err = api.Errno(n) },
			func(d *api.Deed) { d.Config = api.Ensemble{Version: api.Zxid(n)} },
			func(d *api.Deed) { d.Config = config(api.Zxid(n)) },
		)
	}
	for _, members := range [][]api.Member{nil, {}, {{}}, {{Id: 1, Role: api.Observer}}, {{Id: 1, Role: api.Voter}}, {{Id: 8, Role: api.Voter, Weight: 1}}} {
		out = append(out, func(d *api.Deed) { d.Config = api.Ensemble{Version: d.Zxid, Members: members} }, func(d *api.Deed) { d.Config = api.Ensemble{Members: members} })
	}
	for _, parts := range [][]api.Deed{nil, {}, {{}}, {part(api.DeedDelete, "/a")}, {part(api.DeedCreate, "/a")}, {part(api.DeedSet, "/")}, {part(api.DeedSync, "")}} {
		out = append(out, func(d *api.Deed) { d.Parts = parts })
	}
	return out
}

func TestFieldsOfEachKind(t *testing.T) {
	for _, d := range eachKind() {
		for _, set := range strange() {
			other := d
			set(&other)
			check(t, other)
			// Two at once.
			for i, also := range strange() {
				if i%7 == 0 {
					both := other
					also(&both)
					check(t, both)
				}
			}
		}
	}
}

// What a kind does not name must be zero, each field by itself.
func TestFieldsThatAKindHasNot(t *testing.T) {
	has := map[api.DeedKind]string{
		api.DeedCreate: "Path Data Owner Cversion",
		api.DeedDelete: "Path Cversion",
		api.DeedSet:    "Path Data Version",
		api.DeedOpen:   "Timeout",
		api.DeedClose:  "Owner Parts",
		api.DeedSync:   "",
		api.DeedConfig: "Config",
		api.DeedMulti:  "Parts",
		api.DeedError:  "Err",
	}
	full := api.Deed{Path: "/b", Data: []byte("d"), Owner: 2, Version: 2, Cversion: 2, Timeout: 2, Err: 2, Config: config(1), Parts: []api.Deed{part(api.DeedDelete, "/b")}}
	for _, d := range eachKind() {
		full.Config.Version = d.Zxid
		for _, name := range []string{"Path", "Data", "Owner", "Version", "Cversion", "Timeout", "Err", "Config", "Parts"} {
			other := d
			reflect.ValueOf(&other).Elem().FieldByName(name).Set(reflect.ValueOf(full).FieldByName(name))
			want := slices.Contains(strings.Fields(has[d.Kind]), name)
			if got := deed.Right(other); got != want {
				t.Errorf("kind %d with %s: %v", d.Kind, name, got)
			}
		}
		for _, config := range []api.Ensemble{{Version: 1}, {Version: d.Zxid}, {Version: -1}, {Members: []api.Member{{}}}} {
			other := d
			other.Config = config
			if deed.Right(other) {
				t.Errorf("kind %d with the config %v", d.Kind, config)
			}
		}
		// Empty lists are none, whatever lies in their spare room.
		other := d
		if len(d.Data) == 0 {
			other.Data = append(make([]byte, 0, 4), 1, 2)[:0]
		}
		if len(d.Parts) == 0 {
			other.Parts = many(3, part(api.DeedSync, ""))[:0]
		}
		if len(d.Config.Members) == 0 {
			other.Config.Members = config(1).Members[:0]
		}
		if !check(t, other) {
			t.Errorf("kind %d with empty lists is not right", d.Kind)
		}
	}
}

func TestLimits(t *testing.T) {
	parts := func(kind api.DeedKind, n int, one api.Deed) api.Deed {
		d := api.Deed{Zxid: 1, Kind: kind, Parts: many(n, one)}
		if kind == api.DeedClose {
			d.Owner = 1
		}
		return d
	}
	for i, x := range []struct {
		d    api.Deed
		want bool
	}{
		{api.Deed{Zxid: 1, Kind: api.DeedCreate, Path: "/a", Data: make([]byte, 1000)}, true},
		{api.Deed{Zxid: 1, Kind: api.DeedCreate, Path: "/a", Data: make([]byte, 1001)}, false},
		{api.Deed{Zxid: 1, Kind: api.DeedSet, Path: "/a", Data: make([]byte, 1000)}, true},
		{api.Deed{Zxid: 1, Kind: api.DeedSet, Path: "/a", Data: make([]byte, 1001)}, false},
		{api.Deed{Zxid: 1, Kind: api.DeedCreate, Path: "/a", Owner: -1}, false},
		{api.Deed{Zxid: 1, Kind: api.DeedCreate, Path: "/a", Owner: 0}, true},
		{api.Deed{Zxid: 1, Kind: api.DeedCreate, Path: longest}, true},
		{api.Deed{Zxid: 1, Kind: api.DeedCreate, Path: longest + "x"}, false},
		{api.Deed{Zxid: 1, Kind: api.DeedDelete, Path: "/"}, false},
		{api.Deed{Zxid: 1, Kind: api.DeedSet, Path: ""}, false},
		{api.Deed{Zxid: 1, Kind: api.DeedOpen, Timeout: 0}, false},
		{api.Deed{Zxid: 1, Kind: api.DeedOpen, Timeout: 1}, true},
		{api.Deed{Zxid: 1, Kind: api.DeedOpen, Timeout: 1000}, true},
		{api.Deed{Zxid: 1, Kind: api.DeedOpen, Timeout: 1001}, false},
		{api.Deed{Zxid: 1, Kind: api.DeedClose, Owner: -1}, false},
		{api.Deed{Zxid: 1, Kind: api.DeedClose, Owner: 0}, false},
		{api.Deed{Zxid: 1, Kind: api.DeedClose, Owner: 1}, true},
		{api.Deed{Zxid: 1, Kind: api.DeedError, Err: -1}, false},
		{api.Deed{Zxid: 1, Kind: api.DeedError, Err: 0}, false},
		{api.Deed{Zxid: 1, Kind: api.DeedError, Err: 1}, true},
		{parts(api.DeedMulti, 0, api.Deed{}), false},
		{parts(api.DeedMulti, 1, part(api.DeedSet, "/")), true},
		{parts(api.DeedMulti, 16, part(api.DeedCreate, "/a")), true},
		{parts(api.DeedMulti, 17, part(api.DeedCreate, "/a")), false},
		{parts(api.DeedMulti, 500, part(api.DeedDelete, "/a")), false},
		{parts(api.DeedClose, 0, api.Deed{}), true},
		{parts(api.DeedClose, 17, part(api.DeedDelete, "/a")), true},
		{parts(api.DeedClose, 500, part(api.DeedDelete, "/a")), true},
		{parts(api.DeedClose, 501, part(api.DeedDelete, "/a")), false},
		{parts(api.DeedClose, 1<<16, part(api.DeedDelete, "/a")), false},
		{parts(api.DeedClose, 1, part(api.DeedCreate, "/a")), false},
		{parts(api.DeedClose, 1, part(api.DeedSet, "/a")), false},
		{api.Deed{Zxid: 2, Kind: api.DeedConfig, Config: config(1)}, false},
		{api.Deed{Zxid: 2, Kind: api.DeedConfig, Config: config(0)}, false},
		{api.Deed{Zxid: 2, Kind: api.DeedConfig, Config: config(2)}, true},
		{api.Deed{Zxid: 2, Kind: api.DeedConfig, Config: api.Ensemble{Version: 2}}, false},
		{api.Deed{Zxid: 2, Kind: api.DeedConfig, Config: api.Ensemble{Version: 2, Members: []api.Member{{Id: 1, Role: api.Observer}}}}, false},
		{api.Deed{Zxid: 2, Kind: api.DeedConfig, Config: api.Ensemble{Version: 2, Members: []api.Member{{Id: 1, Role: api.Voter, Weight: 1001}}}}, false},
		// Chapter 4 knows no version above 2^62, where zxids go on.
		{api.Deed{Zxid: 1<<62 + 1, Kind: api.DeedConfig, Config: config(1<<62 + 1)}, false},
	} {
		if got := check(t, x.d); got != x.want || deed.Right(x.d) != x.want {
			t.Errorf("%d: %s: %v", i, short(x.d), !x.want)
		}
	}
}

func TestPartsOfEachKind(t *testing.T) {
	for kind := range 12 {
		one := part(api.DeedKind(kind), "/a")
		for _, d := range eachKind() {
			one := d
			one.Kind, one.Zxid, one.Session, one.Turn, one.Xid, one.Time = api.DeedKind(kind), 0, 0, 0, 0, 0
			checkParts(t, one)
		}
		checkParts(t, one)
	}
}

// checkParts holds rows with one among them against the model.
func checkParts(t *testing.T, one api.Deed) {
	t.Helper()
	remove := part(api.DeedDelete, "/b")
	for _, parts := range [][]api.Deed{{one}, {one, remove}, {remove, one}, {remove, one, remove}, append(many(15, remove), one), append(many(499, remove), one)} {
		check(t, api.Deed{Zxid: 1, Kind: api.DeedMulti, Parts: parts})
		check(t, api.Deed{Zxid: 1, Kind: api.DeedClose, Owner: 1, Parts: parts})
	}
}

func TestPartsHaveNoHead(t *testing.T) {
	for _, kind := range []api.DeedKind{api.DeedCreate, api.DeedDelete, api.DeedSet} {
		for _, n := range []int64{math.MinInt64, -1, 0, 1, 1 << 32, math.MaxInt64} {
			for _, set := range []func(*api.Deed){
				func(d *api.Deed) { d.Zxid = api.Zxid(n) },
				func(d *api.Deed) { d.Session = n },
				func(d *api.Deed) { d.Turn = int(n) },
				func(d *api.Deed) { d.Xid = int(n) },
				func(d *api.Deed) { d.Time = n },
			} {
				one := part(kind, "/a")
				set(&one)
				checkParts(t, one)
				if got := deed.Right(api.Deed{Zxid: 1, Kind: api.DeedMulti, Parts: []api.Deed{one}}); got != (n == 0) {
					t.Errorf("%s as a part: %v", short(one), got)
				}
			}
		}
	}
}

func TestFieldsOfParts(t *testing.T) {
	for _, kind := range []api.DeedKind{api.DeedCreate, api.DeedDelete, api.DeedSet} {
		for _, set := range strange() {
			one := part(kind, "/a")
			set(&one)
			check(t, api.Deed{Zxid: 1, Kind: api.DeedMulti, Parts: []api.Deed{one}})
			check(t, api.Deed{Zxid: 1, Kind: api.DeedMulti, Parts: []api.Deed{part(api.DeedSet, "/"), one}})
			check(t, api.Deed{Zxid: 1, Kind: api.DeedClose, Owner: 1, Parts: []api.Deed{one}})
			check(t, api.Deed{Zxid: 1, Kind: api.DeedClose, Owner: 1, Parts: []api.Deed{one, part(api.DeedDelete, "/b")}})
		}
	}
}

func TestPartsWithinParts(t *testing.T) {
	for _, kind := range []api.DeedKind{api.DeedCreate, api.DeedDelete, api.DeedSet, api.DeedClose, api.DeedMulti} {
		one := part(kind, "/a")
		one.Parts = []api.Deed{part(api.DeedDelete, "/b")}
		checkParts(t, one)
	}
	d := api.Deed{Zxid: 1, Kind: api.DeedMulti, Parts: []api.Deed{part(api.DeedDelete, "/a")}}
	for range 1 << 16 {
		d = api.Deed{Zxid: 1, Kind: api.DeedMulti, Parts: []api.Deed{d}}
	}
	if b, errno := deed.Put(d); deed.Right(d) || errno != api.ErrShape || len(b) != 0 {
		t.Error("parts within parts, many deep, are right")
	}
	// One that holds itself.
	d.Parts[0] = d
	if deed.Right(d) {
		t.Error("a deed that is its own part is right")
	}
}

// P5.3

func TestExampleOfBytes(t *testing.T) {
	d := api.Deed{Zxid: 1, Session: 3, Kind: api.DeedDelete, Path: "/a", Cversion: 2}
	want := []byte{2, 2, 6, 0, 0, 0, 4, 0x2f, 0x61, 4}
	if b, errno := deed.Put(d); errno != api.OK || !bytes.Equal(b, want) {
		t.Errorf("Put: %x, %v", b, errno)
	}
	checkGet(t, want, d)
}

// All kinds, byte by byte, by hand.
func TestBytesOfEachKind(t *testing.T) {
	for i, x := range []struct {
		d    api.Deed
		want []byte
	}{
		{api.Deed{Zxid: 1, Session: 2, Turn: 3, Xid: 4, Time: 5, Kind: api.DeedCreate, Path: "/a", Data: []byte("xyz"), Owner: 64, Cversion: 6}, []byte{1, 2, 4, 6, 8, 10, 4, '/', 'a', 6, 'x', 'y', 'z', 128, 1, 12}},
		{api.Deed{Zxid: 1, Session: 2, Turn: 3, Xid: 4, Time: 5, Kind: api.DeedDelete, Path: "/a", Cversion: 6}, []byte{2, 2, 4, 6, 8, 10, 4, '/', 'a', 12}},
		{api.Deed{Zxid: 1 << 32, Time: 64, Kind: api.DeedSet, Path: "/", Version: 7}, []byte{3, 128, 128, 128, 128, 32, 0, 0, 0, 128, 1, 2, '/', 0, 14}},
		{api.Deed{Zxid: 2, Kind: api.DeedOpen, Timeout: 1000}, []byte{4, 4, 0, 0, 0, 0, 0xd0, 0x0f}},
		{api.Deed{Zxid: 2, Kind: api.DeedClose, Owner: 3}, []byte{5, 4, 0, 0, 0, 0, 6, 0}},
		{api.Deed{Zxid: 2, Kind: api.DeedClose, Owner: 3, Parts: []api.Deed{{Kind: api.DeedDelete, Path: "/a", Cversion: 1}, {Kind: api.DeedDelete, Path: "/b"}}}, []byte{5, 4, 0, 0, 0, 0, 6, 4, 2, 4, '/', 'a', 2, 2, 4, '/', 'b', 0}},
		{api.Deed{Zxid: 3, Xid: 1, Kind: api.DeedSync}, []byte{6, 6, 0, 0, 2, 0}},
		{api.Deed{Zxid: 3, Kind: api.DeedConfig, Config: api.Ensemble{Version: 3, Members: []api.Member{{Id: 1, Role: api.Voter, Weight: 2, Group: 4}}}}, []byte{7, 6, 0, 0, 0, 0, 12, 6, 2, 2, 2, 4, 8}},
		{api.Deed{Zxid: 3, Kind: api.DeedMulti, Parts: []api.Deed{{Kind: api.DeedCreate, Path: "/b", Data: []byte{9}, Owner: 1, Cversion: 2}, {Kind: api.DeedSet, Path: "/b", Data: []byte{8}, Version: 3}, {Kind: api.DeedDelete, Path: "/b", Cversion: 4}}}, []byte{8, 6, 0, 0, 0, 0, 6, 1, 4, '/', 'b', 2, 9, 2, 4, 3, 4, '/', 'b', 2, 8, 6, 2, 4, '/', 'b', 8}},
		{api.Deed{Zxid: 3, Kind: api.DeedError, Err: 210}, []byte{9, 6, 0, 0, 0, 0, 0xa4, 3}},
	} {
		b, errno := deed.Put(x.d)
		if errno != api.OK || !bytes.Equal(b, x.want) {
			t.Errorf("%d: %v, %v, want %v", i, b, errno, x.want)
		}
		checkGet(t, x.want, x.d)
	}
}

// Bytes that say a deed that is not right: of its shape, and yet none.
func TestBytesOfDeedsThatAreNotRight(t *testing.T) {
	see := func(d api.Deed) {
		t.Helper()
		// The bytes hold what the kind has alone; what else stands in d is left out of them.
		b := modelBytes(d)
		bare := barely(d)
		if modelRight(bare) {
			checkGet(t, b, bare)
		} else {
			checkNone(t, short(d), b)
		}
	}
	for _, d := range eachKind() {
		for kind := range 12 {
			other := d
			other.Kind = api.DeedKind(kind)
			see(other)
		}
		for _, z := range []api.Zxid{math.MinInt64, -1, 0, 1, 1 << 62, 1<<62 + 1<<32 - 1, 1<<62 + 1<<32, math.MaxInt64} {
			other := d
			other.Zxid = z
			see(other)
		}
		for _, n := range []int64{math.MinInt64, -1, 0, math.MaxInt64} {
			for _, set := range []func(*api.Deed){func(d *api.Deed) { d.Session = n }, func(d *api.Deed) { d.Turn = int(n) }, func(d *api.Deed) { d.Xid = int(n) }, func(d *api.Deed) { d.Time = n }} {
				other := d
				set(&other)
				see(other)
			}
		}
		for _, set := range strange() {
			other := d
			set(&other)
			see(other)
		}
	}
	for _, kind := range []api.DeedKind{api.DeedCreate, api.DeedDelete, api.DeedSet} {
		for _, set := range strange() {
			one := part(kind, "/a")
			set(&one)
			see(api.Deed{Zxid: 1, Kind: api.DeedMulti, Parts: []api.Deed{one}})
			see(api.Deed{Zxid: 1, Kind: api.DeedClose, Owner: 1, Parts: []api.Deed{part(api.DeedDelete, "/b"), one}})
		}
	}
}

// barely: d with what its kind has, and its parts so too.
func barely(d api.Deed) api.Deed {
	out := api.Deed{Zxid: d.Zxid, Kind: d.Kind, Session: d.Session, Turn: d.Turn, Xid: d.Xid, Time: d.Time}
	for name := range named(d) {
		reflect.ValueOf(&out).Elem().FieldByName(name).Set(reflect.ValueOf(d).FieldByName(name))
	}
	out.Parts = slices.Clone(out.Parts)
	for i, part := range out.Parts {
		out.Parts[i] = barely(part)
	}
	return out
}

func TestBytesThatEndTooSoonOrGoOn(t *testing.T) {
	checkNone(t, "nil", nil)
	checkNone(t, "nothing", []byte{})
	for _, d := range eachKind() {
		b := modelBytes(d)
		for end := range b {
			checkNone(t, "cut", b[:end:end])
			// What lies in the spare room is not of the row.
			checkNone(t, "cut, the rest in the spare room", b[:end])
		}
		for more := range 256 {
			checkNone(t, "one more", append(slices.Clip(b), byte(more)))
			if len(b) < 200 {
				look(t, append([]byte{byte(more)}, b...))
			}
		}
		checkNone(t, "twice", slices.Concat(b, b))
	}
}

func TestNumbersWithNoughtsAhead(t *testing.T) {
	for _, d := range eachKind()[:9] {
		b := modelBytes(d)
		for i := 1; i < len(b); i++ {
			if b[i] >= 0x20 && b[i] < 0x7f {
				continue // a letter
			}
			longer := slices.Concat(b[:i], []byte{b[i] | 128, 0}, b[i+1:])
			checkNone(t, "kind "+strconv.Itoa(int(d.Kind))+", number at "+strconv.Itoa(i), longer)
			longest := slices.Concat(b[:i], []byte{b[i] | 128, 128, 128, 128, 128, 128, 128, 128, 128, 0}, b[i+1:])
			checkNone(t, "kind "+strconv.Itoa(int(d.Kind))+", number at "+strconv.Itoa(i), longest)
		}
	}
	// In a config's bytes, their length said rightly.
	inner := modelConfigBytes(config(1))
	for i := range inner {
		if inner[i] >= 128 || i > 0 && inner[i-1] >= 128 {
			continue // of a number of two bytes
		}
		longer := slices.Concat(inner[:i], []byte{inner[i] | 128, 0}, inner[i+1:])
		checkNone(t, "config, number at "+strconv.Itoa(i), line{7}.int(1, 0, 0, 0, 0).text(string(longer)))
	}
	for _, more := range []string{"\x00", "\x01", "\x02\x02\x00\x00"} {
		checkNone(t, "config, bytes behind it", line{7}.int(1, 0, 0, 0, 0).text(string(inner)+more))
	}
	for end := range inner {
		checkNone(t, "config, cut", line{7}.int(1, 0, 0, 0, 0).text(string(inner[:end])))
	}
}

func TestNumbersBeyondTheirField(t *testing.T) {
	beyond := [][]byte{
		{255, 255, 255, 255, 255, 255, 255, 255, 255, 2},
		{255, 255, 255, 255, 255, 255, 255, 255, 255, 127},
		{254, 255, 255, 255, 255, 255, 255, 255, 255, 129, 1},
		{128, 128, 128, 128, 128, 128, 128, 128, 128, 2},
	}
	for _, d := range eachKind()[:9] {
		b := modelBytes(d)
		for i := 1; i < len(b); i++ {
			for _, n := range beyond {
				checkNone(t, "beyond all numbers", slices.Concat(b[:i], n, b[i+1:]))
			}
		}
	}
	// Of which only the lowest bits would be right.
	for _, more := range []int64{1 << 8, 1 << 16, 1 << 31, 1 << 32, 1 << 62, math.MinInt64} {
		checkNone(t, "timeout", line{4}.int(1, 0, 0, 0, 0, 1000+more))
		checkNone(t, "parts of a close", line{5}.int(1, 0, 0, 0, 0, 1, more).byte(2).text("/a").int(0))
		checkNone(t, "parts of a multi", line{8}.int(1, 0, 0, 0, 0, 1+more).byte(2).text("/a").int(0))
		checkNone(t, "a path's length", append(line{2}.int(1, 0, 0, 0, 0, 2+more), '/', 'a', 0))
		checkNone(t, "a config's length", append(line{7}.int(1, 0, 0, 0, 0, int64(len(modelConfigBytes(config(1))))+more), modelConfigBytes(config(1))...))
	}
}

func TestNumbersOfParts(t *testing.T) {
	for _, x := range []struct {
		kind  int
		owner []int64
		most  int
	}{{5, []int64{1}, 500}, {8, nil, 16}} {
		head := slices.Concat([]int64{1, 0, 0, 0, 0}, x.owner)
		for _, have := range []int{0, 1, 2, 15, 16, 17, 499, 500, 501, 502} {
			one := line{}.byte(2).text("/a").int(3)
			for _, said := range []int64{math.MinInt64, -501, -1, 0, 1, 2, 3, 15, 16, 17, 18, 499, 500, 501, 502, 503, 1 << 20, 1 << 32, 1<<32 + 1, math.MaxInt64} {
				b := slices.Concat(line{}.byte(x.kind).int(head...).int(said), slices.Repeat(one, have))
				if said == int64(have) && have <= x.most && (have > 0 || x.kind == 5) {
					d := api.Deed{Zxid: 1, Kind: api.DeedKind(x.kind), Parts: many(have, api.Deed{Kind: api.DeedDelete, Path: "/a", Cversion: 3})}
					if x.kind == 5 {
						d.Owner = 1
					}
					checkGet(t, b, d)
				} else {
					checkNone(t, strconv.Itoa(have)+" parts, said to be "+strconv.FormatInt(said, 10), b)
				}
			}
		}
	}
}

// Parts within parts as bytes: each of the kinds that have them, however deep.
func TestBytesOfPartsWithinParts(t *testing.T) {
	inner := line{}.byte(2).text("/a").int(0)
	checkGet(t, slices.Concat(line{8}.int(1, 0, 0, 0, 0, 1), inner), api.Deed{Zxid: 1, Kind: api.DeedMulti, Parts: []api.Deed{part(api.DeedDelete, "/a")}})
	checkNone(t, "a multi in a multi", slices.Concat(line{8}.int(1, 0, 0, 0, 0, 1).byte(8).int(1), inner))
	checkNone(t, "a multi in a close", slices.Concat(line{5}.int(1, 0, 0, 0, 0, 1, 1).byte(8).int(1), inner))
	checkNone(t, "a close in a multi", slices.Concat(line{8}.int(1, 0, 0, 0, 0, 1).byte(5).int(1, 1), inner))
	checkNone(t, "a close without parts in a multi", line{8}.int(1, 0, 0, 0, 0, 1).byte(5).int(1, 0))
	for _, other := range []line{line{}.byte(0), line{}.byte(6), line{}.byte(10), line{}.byte(4).int(1), line{}.byte(9).int(1), line{}.byte(7).text(string(modelConfigBytes(config(0)))), line{}.byte(7).text(string(modelConfigBytes(config(1))))} {
		checkNone(t, "a part of another kind", slices.Concat(line{8}.int(1, 0, 0, 0, 0, 1), other))
		checkNone(t, "a part of another kind", slices.Concat(line{8}.int(1, 0, 0, 0, 0, 2), inner, other))
		checkNone(t, "a part of another kind", slices.Concat(line{5}.int(1, 0, 0, 0, 0, 1, 1), other))
	}
	deep := slices.Concat(line{8}.int(1, 0, 0, 0, 0, 1), bytes.Repeat([]byte{8, 2}, 1<<24), inner)
	checkNone(t, "many deep", deep)
}

// P5.4

func TestZxidsStandInOrder(t *testing.T) {
	next := testkit.Walk()
	pick := func() (int, int) {
		epochs := []int{0, 1, 2, 1<<30 - 1, 1 << 30, next(1<<30 + 1)}
		counters := []int{0, 1, 1<<32 - 2, 1<<32 - 1, next(1 << 31), next(1<<31) + 1<<31}
		return epochs[next(6)], counters[next(6)]
	}
	for range 20000 {
		e1, c1 := pick()
		e2, c2 := pick()
		a, b := deed.Make(e1, c1), deed.Make(e2, c2)
		ahead := e1 < e2 || e1 == e2 && c1 < c2
		if (a < b) != ahead || (a == b) != (e1 == e2 && c1 == c2) {
			t.Errorf("(%d, %d) and (%d, %d): %d and %d", e1, c1, e2, c2, a, b)
		}
		if deed.Epoch(a) != e1 || deed.Counter(a) != c1 {
			t.Errorf("(%d, %d): %d, back %d, %d", e1, c1, a, deed.Epoch(a), deed.Counter(a))
		}
	}
}

// anyDeed: a right one, of any kind.
func anyDeed(next func(int) int) api.Deed {
	number := func() int64 { return int64(next(1<<31)) >> next(31) << []int{0, 0, 0, 32}[next(4)] }
	d := anyFields(next, api.DeedKind(1+next(9)), number)
	d.Zxid = deed.Make(next(1<<30), 1+next(1<<31))
	d.Session, d.Turn, d.Xid, d.Time = number(), int(number()), int(number()), number()
	if d.Kind == api.DeedConfig {
		d.Config = config(d.Zxid)
		d.Config.Members = d.Config.Members[:1+next(3)]
	}
	return d
}

func anyFields(next func(int) int, kind api.DeedKind, number func() int64) api.Deed {
	d := api.Deed{Kind: kind}
	p := rightPaths()[1+next(5)]
	data := bytes.Repeat([]byte{byte(next(256))}, []int{0, 1, next(1001), 1000}[next(4)])
	switch kind {
	case api.DeedCreate:
		d.Path, d.Data, d.Owner, d.Cversion = p, data, number(), int(number())
	case api.DeedDelete:
		d.Path, d.Cversion = p, int(number())
	case api.DeedSet:
		d.Path, d.Data, d.Version = rightPaths()[next(6)], data, int(number())
	case api.DeedOpen:
		d.Timeout = 1 + next(1000)
	case api.DeedClose:
		d.Owner = 1 + number()
		for range next(20) {
			d.Parts = append(d.Parts, anyFields(next, api.DeedDelete, number))
		}
	case api.DeedMulti:
		for range 1 + next(16) {
			d.Parts = append(d.Parts, anyFields(next, api.DeedKind(1+next(3)), number))
		}
	case api.DeedError:
		d.Err = api.Errno(1 + number())
	}
	return d
}

func TestWhatIsPutIsGot(t *testing.T) {
	next := testkit.Walk()
	for range 20000 {
		d := anyDeed(next)
		if !check(t, d) {
			t.Errorf("%s is not right", short(d))
		}
		b, _ := deed.Put(d)
		if got, errno := deed.Get(b); errno != api.OK || !same(got, d) {
			t.Errorf("%s: %x: %s, %v", short(d), b, short(got), errno)
		}
	}
}

func TestOtherBytesAreOtherDeeds(t *testing.T) {
	next := testkit.Walk()
	for range 300 {
		d := anyDeed(next)
		if len(d.Parts) > 3 {
			d.Parts = d.Parts[:3]
		}
		b := modelBytes(d)
		for range min(len(b), 200) {
			i := next(len(b))
			for _, x := range []byte{0, 1, 2, 3, 4, '/', '.', 127, 128, 255, b[i] ^ 1, b[i] ^ 128, b[i] + 2, b[i] - 2} {
				other := slices.Clone(b)
				other[i] = x
				look(t, other)
			}
			look(t, slices.Delete(slices.Clone(b), i, i+1))
			look(t, slices.Insert(slices.Clone(b), i, byte(next(256))))
		}
	}
	for range 200000 {
		b := make([]byte, next(16))
		for i := range b {
			b[i] = []byte{0, 1, 2, 3, 4, 5, 6, 7, 8, 9, '/', 'a', 'b', 128, byte(next(256))}[next(15)]
		}
		look(t, b)
	}
}

func TestLongestDeeds(t *testing.T) {
	full := api.Deed{Zxid: 1<<62 + 1<<32 - 1, Session: math.MaxInt64, Turn: math.MaxInt, Xid: math.MaxInt, Time: math.MaxInt64}
	close := full
	close.Kind, close.Owner = api.DeedClose, math.MaxInt64
	close.Parts = many(500, api.Deed{Kind: api.DeedDelete, Path: longest, Cversion: math.MaxInt})
	multi := full
	multi.Kind = api.DeedMulti
	multi.Parts = many(16, api.Deed{Kind: api.DeedCreate, Path: longest, Data: make([]byte, 1000), Owner: math.MaxInt64, Cversion: math.MaxInt})
	for _, d := range []api.Deed{close, multi} {
		b, errno := deed.Put(d)
		if errno != api.OK || len(b) > 1<<20 || len(b) < 16*1200 {
			t.Errorf("kind %d: %d bytes, %v", d.Kind, len(b), errno)
		}
		check(t, d)
	}
}

// R3

const room = 9

func roomy[T any](l []T, with T) []T {
	return append(slices.Clone(l), slices.Repeat([]T{with}, room)...)[:len(l)]
}

// checkRoom: d and all the spare room of its lists are as testkit.RoomyDeed made them.
func checkRoom(t *testing.T, d, like api.Deed) {
	t.Helper()
	if !same(d, like) {
		t.Errorf("changed: %s, was %s", short(d), short(like))
	}
	for _, b := range d.Data[len(d.Data) : len(d.Data)+room] {
		if b != 0xee {
			t.Error("data's spare room is changed")
		}
	}
	for _, m := range d.Config.Members[len(d.Config.Members) : len(d.Config.Members)+room] {
		if m != (api.Member{Id: 99}) {
			t.Error("members' spare room is changed")
		}
	}
	for _, part := range d.Parts[len(d.Parts) : len(d.Parts)+room] {
		if !same(part, api.Deed{Zxid: 99}) {
			t.Error("parts' spare room is changed")
		}
	}
	for i := range d.Parts {
		checkRoom(t, d.Parts[i], like.Parts[i])
	}
}

func TestArgumentsStayAsTheyAre(t *testing.T) {
	wrong := eachKind()
	for i := range wrong {
		wrong[i].Timeout++
	}
	for _, d := range append(eachKind(), wrong...) {
		given := testkit.RoomyDeed(d)
		deed.Right(given)
		b, _ := deed.Put(given)
		testkit.Spoil(b, 0xdd)
		checkRoom(t, given, d)
	}
	for _, d := range eachKind() {
		b := roomy(modelBytes(d), 0xee)
		got, _ := deed.Get(b)
		testkit.SpoilDeed(got)
		if want := roomy(modelBytes(d), 0xee); !bytes.Equal(b[:len(b)+room], want[:len(want)+room]) {
			t.Errorf("Get of kind %d changed its bytes", d.Kind)
		}
	}
}

func TestArgumentsAreNotKept(t *testing.T) {
	for _, d := range eachKind() {
		given := testkit.RoomyDeed(d)
		b, _ := deed.Put(given)
		testkit.SpoilDeed(given)
		if !bytes.Equal(b, modelBytes(d)) {
			t.Errorf("Put's bytes of kind %d hang on what was put", d.Kind)
		}
		got, _ := deed.Get(b)
		testkit.Spoil(b, 0xdd)
		if !same(got, d) {
			t.Errorf("Get's deed of kind %d hangs on its bytes", d.Kind)
		}
	}
}

func TestAnswersShareNothing(t *testing.T) {
	for _, d := range eachKind() {
		want := modelBytes(d)
		one, _ := deed.Put(d)
		other, _ := deed.Put(d)
		testkit.Spoil(one, 0xdd)
		if !bytes.Equal(other, want) {
			t.Errorf("Put's answers of kind %d share memory", d.Kind)
		}
		first, _ := deed.Get(want)
		second, _ := deed.Get(want)
		testkit.SpoilDeed(first)
		if !same(second, d) {
			t.Errorf("Get's answers of kind %d share memory", d.Kind)
		}
		check(t, d)
	}
}

// The lists of one answer: none lies in another's spare room.
func TestListsOfOneAnswerShareNothing(t *testing.T) {
	next := testkit.Walk()
	for range 300 {
		d := anyDeed(next)
		got, _ := deed.Get(modelBytes(d))
		for i := range got.Parts {
			testkit.Spoil(got.Parts[i].Data, 0xdd)
			for j := range got.Parts {
				if j > i && !same(got.Parts[j], d.Parts[j]) {
					t.Errorf("parts %d and %d share memory", i, j)
				}
				if j < i && len(got.Parts[j].Data) > 0 && got.Parts[j].Data[0] != 0xdd {
					t.Errorf("parts %d and %d share memory", i, j)
				}
			}
		}
		if len(got.Parts) > 0 {
			parts := slices.Clone(got.Parts)
			testkit.Spoil(got.Parts[len(got.Parts):], api.Deed{Zxid: 77})
			if !slices.EqualFunc(parts, got.Parts, same) {
				t.Error("parts lie in their spare room")
			}
		}
	}
}
