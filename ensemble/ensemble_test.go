package ensemble_test

import (
	"bytes"
	"encoding/binary"
	"math"
	"reflect"
	"slices"
	"strconv"
	"testing"

	"beadle/api"
	"beadle/ensemble"
	"beadle/testkit"
)

// modelMayBe: a config that may be, as the chapter's Words tell it, thing by thing.
func modelMayBe(e api.Ensemble) bool {
	if e.Version < 0 || e.Version > 4611686018427387904 {
		return false
	}
	heavy := 0
	for i, m := range e.Members {
		if m.Id < 1 || m.Id > 7 || i > 0 && m.Id <= e.Members[i-1].Id {
			return false
		}
		isVoter := m.Role == 1 && m.Weight >= 0 && m.Weight <= 1000 && m.Group >= 0 && m.Group <= 6
		isObserver := m.Role == 2 && m.Weight == 0 && m.Group == 0
		if !isVoter && !isObserver {
			return false
		}
		if isVoter && m.Weight > 0 {
			heavy++
		}
	}
	return heavy > 0
}

func modelCheck(e api.Ensemble) api.Errno {
	if len(e.Members) > 7 {
		return api.ErrLong
	}
	if !modelMayBe(e) {
		return api.ErrConfig
	}
	return api.OK
}

// modelQuorum: group by group, those that are in and those that are out held against each other.
func modelQuorum(e api.Ensemble, ids []int) bool {
	if modelCheck(e) != api.OK {
		return false
	}
	ahead := 0 // groups that are won, less those that are not
	for group := 0; group <= 6; group++ {
		in, out := 0, 0
		for _, m := range e.Members {
			switch {
			case m.Role != 1 || m.Group != group:
			case slices.Contains(ids, m.Id):
				in += m.Weight
			default:
				out += m.Weight
			}
		}
		switch {
		case in+out == 0:
		case in > out:
			ahead++
		default:
			ahead--
		}
	}
	return ahead > 0
}

// row: wire's bytes of numbers, one behind the other, which are those of the library's signed varints.
func row(numbers ...int64) []byte {
	var out []byte
	for _, n := range numbers {
		out = binary.AppendVarint(out, n)
	}
	return out
}

func modelRow(e api.Ensemble) []byte {
	numbers := []int64{int64(e.Version), int64(len(e.Members))}
	for _, m := range e.Members {
		numbers = append(numbers, int64(m.Id), int64(m.Role), int64(m.Weight), int64(m.Group))
	}
	return row(numbers...)
}

func voter(id, weight, group int) api.Member {
	return api.Member{Id: id, Role: api.Voter, Weight: weight, Group: group}
}

func observer(id int) api.Member { return api.Member{Id: id, Role: api.Observer} }

func config(members ...api.Member) api.Ensemble { return api.Ensemble{Members: members} }

// voters: of one group, with ids from 1 on.
func voters(weights ...int) api.Ensemble {
	var e api.Ensemble
	for i, weight := range weights {
		e.Members = append(e.Members, voter(i+1, weight, 0))
	}
	return e
}

// grouped: voters of weight 1, with ids from 1 on.
func grouped(groups ...int) api.Ensemble {
	var e api.Ensemble
	for i, group := range groups {
		e.Members = append(e.Members, voter(i+1, 1, group))
	}
	return e
}

// subset: the ids from 1 to 7 whose bits are set.
func subset(bits int) []int {
	var ids []int
	for id := 1; id <= 7; id++ {
		if bits>>(id-1)&1 == 1 {
			ids = append(ids, id)
		}
	}
	return ids
}

// smallConfigs: all of up to four members out of a few sorts, right ones and those without weight.
func smallConfigs() []api.Ensemble {
	sorts := []func(id int) []api.Member{
		func(int) []api.Member { return nil },
		func(id int) []api.Member { return []api.Member{observer(id)} },
	}
	for _, weight := range []int{0, 1, 2, 3} {
		for _, group := range []int{0, 1, 6} {
			sorts = append(sorts, func(id int) []api.Member { return []api.Member{voter(id, weight, group)} })
		}
	}
	out := []api.Ensemble{{}}
	for id := 1; id <= 4; id++ {
		var longer []api.Ensemble
		for _, e := range out {
			for _, sort := range sorts {
				longer = append(longer, config(append(slices.Clip(e.Members), sort(id)...)...))
			}
		}
		out = longer
	}
	return out
}

// largeConfigs: n that may be, of up to seven members, with all groups and weights to the limit.
func largeConfigs(n int) []api.Ensemble {
	var out []api.Ensemble
	next := testkit.Walk()
	for len(out) < n {
		e := api.Ensemble{Version: api.Zxid(next(1 << 30))}
		mostWeight, mostGroup := []int{2, 5, 1001}[next(3)], 1+next(7)
		for id := 1; id <= 7; id++ {
			switch next(6) {
			case 0:
			case 1:
				e.Members = append(e.Members, observer(id))
			default:
				e.Members = append(e.Members, voter(id, next(mostWeight), next(mostGroup)))
			}
		}
		if modelMayBe(e) {
			out = append(out, e)
		}
	}
	return out
}

// checkCheck holds Check against the model, and Put's error and Quorum's refusal with it.
func checkCheck(t *testing.T, e api.Ensemble) {
	t.Helper()
	want := modelCheck(e)
	if got := ensemble.Check(e); got != want {
		t.Errorf("Check(%v): %v, want %v", e, got, want)
	}
	b, errno := ensemble.Put(e)
	if errno != want || errno != api.OK && len(b) != 0 {
		t.Errorf("Put(%v): %x, %v, want %v", e, b, errno, want)
	}
	all := []int{1, 2, 3, 4, 5, 6, 7}
	if got := ensemble.Quorum(e, all); got != (want == api.OK) {
		t.Errorf("Quorum(%v) of all: %v", e, got)
	}
}

// P4.1

func TestExamplesOfCheck(t *testing.T) {
	for i, x := range []struct {
		e    api.Ensemble
		want api.Errno
	}{
		{config(), api.ErrConfig},
		{api.Ensemble{Members: []api.Member{}}, api.ErrConfig},
		{config(voter(1, 1, 0), api.Member{Id: 2, Role: api.Observer, Weight: 1}), api.ErrConfig},
		{config(voter(2, 1, 0), voter(1, 1, 0)), api.ErrConfig},
		{config(voter(8, 1, 0)), api.ErrConfig},
		{voters(0), api.ErrConfig},
		{voters(0, 0, 0, 0, 0, 0, 0), api.ErrConfig},
		{voters(1, 1, 1, 1, 1, 1, 1, 1), api.ErrLong},
		{voters(1), api.OK},
		{voters(1, 1, 1, 1, 1, 1, 1), api.OK},
		{voters(0, 0, 0, 0, 0, 0, 1), api.OK},
		{config(voter(7, 1000, 6)), api.OK},
		{config(observer(1), voter(4, 1, 3), observer(7)), api.OK},
		{config(observer(1)), api.ErrConfig},
		{config(observer(1), voter(2, 0, 0)), api.ErrConfig},
		{config(observer(1), observer(2), observer(3), observer(4), observer(5), observer(6), observer(7)), api.ErrConfig},
	} {
		if got := ensemble.Check(x.e); got != x.want {
			t.Errorf("%d: %v: %v, want %v", i, x.e, got, x.want)
		}
		checkCheck(t, x.e)
	}
}

func TestVersions(t *testing.T) {
	for _, x := range []struct {
		version api.Zxid
		want    api.Errno
	}{
		{math.MinInt64, api.ErrConfig},
		{-1 << 62, api.ErrConfig},
		{-1, api.ErrConfig},
		{0, api.OK},
		{1, api.OK},
		{1 << 32, api.OK},
		{1<<62 - 1, api.OK},
		{1 << 62, api.OK},
		{1<<62 + 1, api.ErrConfig},
		{math.MaxInt64, api.ErrConfig},
	} {
		e := voters(1, 1, 1)
		e.Version = x.version
		if got := ensemble.Check(e); got != x.want {
			t.Errorf("version %d: %v, want %v", x.version, got, x.want)
		}
		checkCheck(t, e)
	}
}

// strangeMembers: each field at its edges and beyond, all of them crossed.
func strangeMembers() []api.Member {
	var out []api.Member
	for _, id := range []int{math.MinInt, -1, 0, 1, 2, 7, 8, 1<<32 + 1, math.MaxInt} {
		for _, role := range []api.Role{0, api.Voter, api.Observer, 3, 255} {
			for _, weight := range []int{math.MinInt, -1, 0, 1, 1000, 1001, math.MaxInt} {
				for _, group := range []int{math.MinInt, -1, 0, 6, 7, math.MaxInt} {
					out = append(out, api.Member{Id: id, Role: role, Weight: weight, Group: group})
				}
			}
		}
	}
	return out
}

func TestMembersAtTheirEdges(t *testing.T) {
	for _, m := range strangeMembers() {
		checkCheck(t, config(m))
		checkCheck(t, config(voter(1, 1, 0), m))
		checkCheck(t, config(voter(2, 1, 0), m))
		checkCheck(t, config(m, voter(7, 1, 0)))
		checkCheck(t, config(voter(1, 1, 0), m, voter(7, 1, 0)))
	}
}

func TestIdsRise(t *testing.T) {
	ids := []int{0, 1, 2, 3, 6, 7, 8}
	for _, a := range ids {
		for _, b := range ids {
			for _, c := range ids {
				want := api.ErrConfig
				if 1 <= a && a < b && b < c && c <= 7 {
					want = api.OK
				}
				for _, e := range []api.Ensemble{
					config(voter(a, 1, 0), voter(b, 1, 0), voter(c, 1, 0)),
					config(voter(a, 1, 0), observer(b), observer(c)),
					config(observer(a), observer(b), voter(c, 1, 0)),
				} {
					if got := ensemble.Check(e); got != want {
						t.Errorf("ids %d, %d, %d: %v, want %v", a, b, c, got, want)
					}
				}
			}
		}
	}
}

// Of several errors the one named first counts.
func TestTooManyMembersComeFirst(t *testing.T) {
	for _, n := range []int{8, 9, 15, 256, 1 << 16} {
		for _, m := range []api.Member{{}, voter(1, 1, 0), voter(-1, 5000, 99), {Id: 1, Role: 9}} {
			e := api.Ensemble{Version: -1, Members: slices.Repeat([]api.Member{m}, n)}
			b, errno := ensemble.Put(e)
			if got := ensemble.Check(e); got != api.ErrLong || errno != api.ErrLong || len(b) != 0 {
				t.Errorf("%d members: Check %v, Put %x, %v", n, got, b, errno)
			}
			if ensemble.Quorum(e, []int{1}) {
				t.Errorf("%d members: a quorum", n)
			}
		}
	}
	// Spare room holds no members.
	roomy := voters(1, 1, 1, 1, 1, 1, 1, 1).Members
	if got := ensemble.Check(config(roomy[:7]...)); got != api.OK {
		t.Errorf("seven, an eighth one in the spare room: %v", got)
	}
}

func TestCheckOfManyConfigs(t *testing.T) {
	for _, e := range smallConfigs() {
		checkCheck(t, e)
	}
	for _, e := range largeConfigs(2000) {
		checkCheck(t, e)
		checkCheck(t, config(slices.Concat(e.Members, e.Members[:1])...))
		slices.Reverse(e.Members)
		checkCheck(t, e)
	}
}

func checkFind(t *testing.T, e api.Ensemble, id int, want api.Member, there bool) {
	t.Helper()
	if got, ok := ensemble.Find(e, id); got != want || ok != there {
		t.Errorf("Find(%v, %d): %v, %v, want %v, %v", e, id, got, ok, want, there)
	}
	if got := ensemble.Voter(e, id); got != (there && want.Role == api.Voter) {
		t.Errorf("Voter(%v, %d): %v", e, id, got)
	}
}

func TestFind(t *testing.T) {
	e := config(voter(1, 3, 2), observer(3), voter(6, 0, 0), voter(7, 1000, 6))
	e.Version = 9
	checkFind(t, e, 1, voter(1, 3, 2), true)
	checkFind(t, e, 3, observer(3), true)
	checkFind(t, e, 6, voter(6, 0, 0), true)
	checkFind(t, e, 7, voter(7, 1000, 6), true)
	for _, id := range []int{math.MinInt, -7, -1, 0, 2, 4, 5, 8, 1<<32 + 1, math.MaxInt} {
		checkFind(t, e, id, api.Member{}, false)
	}
	for _, id := range []int{-1, 0, 1, 7} {
		checkFind(t, api.Ensemble{}, id, api.Member{}, false)
	}
}

// Find asks not whether the config may be.
func TestFindInWrongConfigs(t *testing.T) {
	odd := api.Member{Id: 5, Role: 7, Weight: -3, Group: 50}
	e := api.Ensemble{Version: -4, Members: []api.Member{
		voter(9, 1, 1), observer(2), voter(2, 4, 4), voter(1, 1, 0), {Id: 1, Role: api.Observer, Weight: 8}, odd, voter(5, 1, 0), {}, voter(-3, 1, 1), voter(math.MinInt, 1, 1), voter(math.MaxInt, 2, 2),
	}}
	checkFind(t, e, 9, voter(9, 1, 1), true)
	checkFind(t, e, 2, observer(2), true)
	checkFind(t, e, 1, voter(1, 1, 0), true)
	checkFind(t, e, 5, odd, true)
	checkFind(t, e, 0, api.Member{}, true)
	checkFind(t, e, -3, voter(-3, 1, 1), true)
	checkFind(t, e, math.MinInt, voter(math.MinInt, 1, 1), true)
	checkFind(t, e, math.MaxInt, voter(math.MaxInt, 2, 2), true)
	checkFind(t, e, 3, api.Member{}, false)
	for role := range 256 {
		m := api.Member{Id: 1, Role: api.Role(role)}
		checkFind(t, config(m), 1, m, true)
	}
}

// P4.2

func checkQuorum(t *testing.T, e api.Ensemble, ids []int, want bool) {
	t.Helper()
	if got := ensemble.Quorum(e, ids); got != want {
		t.Errorf("Quorum(%v, %v): %v, want %v", e, ids, got, want)
	}
	if got := ensemble.All([]api.Ensemble{e}, ids); got != want {
		t.Errorf("All of %v alone, %v: %v, want %v", e, ids, got, want)
	}
}

func TestExamplesOfQuorums(t *testing.T) {
	three, heavy, groups := voters(1, 1, 1), voters(3, 1, 1), grouped(0, 0, 0, 1, 1, 2)
	for _, x := range []struct {
		e    api.Ensemble
		ids  []int
		want bool
	}{
		{three, []int{1, 2}, true},
		{three, []int{1}, false},
		{three, []int{3}, false},
		{three, []int{3, 2}, true},
		{three, nil, false},
		{heavy, []int{1}, true},
		{heavy, []int{2, 3}, false},
		{groups, []int{1, 2, 6}, true},
		{groups, []int{1, 2, 4}, false},
		{groups, []int{1, 2, 4, 5}, true},
		{groups, []int{4, 5, 6}, true},
		{groups, []int{1, 4, 6}, false},
		{groups, []int{6}, false},
	} {
		checkQuorum(t, x.e, x.ids, x.want)
	}
}

func TestJustHalf(t *testing.T) {
	for _, x := range []struct {
		e    api.Ensemble
		ids  []int
		want bool
	}{
		// Of a group's weight.
		{voters(1, 1), []int{1}, false},
		{voters(1, 1, 1, 1), []int{1, 2}, false},
		{voters(1, 1, 1, 1), []int{1, 2, 3}, true},
		{voters(1000, 1000), []int{2}, false},
		{voters(1000, 999), []int{1}, true},
		{voters(1000, 999), []int{2}, false},
		{voters(1000, 500, 500), []int{1}, false},
		{voters(1000, 500, 499), []int{1}, true},
		{voters(1000, 500, 500), []int{2, 3}, false},
		{voters(999, 500, 500), []int{2, 3}, true},
		{voters(1000, 1000, 1000, 1000, 1000, 1000, 1000), []int{1, 2, 3, 4}, true},
		{voters(1000, 1000, 1000, 1000, 1000, 1000, 1000), []int{5, 6, 7}, false},
		// Of the groups.
		{grouped(0, 1), []int{1}, false},
		{grouped(0, 1), []int{1, 2}, true},
		{grouped(0, 1, 2, 3), []int{3, 4}, false},
		{grouped(0, 1, 2, 3), []int{2, 3, 4}, true},
		{grouped(0, 1, 2, 3, 4, 5, 6), []int{1, 6, 7}, false},
		{grouped(0, 1, 2, 3, 4, 5, 6), []int{1, 5, 6, 7}, true},
		{grouped(6, 3), []int{2, 1}, true},
		// Most of the weight of all is not what counts.
		{config(voter(1, 1000, 0), voter(2, 1, 1), voter(3, 1, 2)), []int{1}, false},
		{config(voter(1, 1000, 0), voter(2, 1, 1), voter(3, 1, 2)), []int{2, 3}, true},
	} {
		checkQuorum(t, x.e, x.ids, x.want)
	}
}

// Voters whose weights come to 0 are no group, and neither won nor lost.
func TestGroupsWithoutWeight(t *testing.T) {
	e := config(voter(1, 1, 0), voter(2, 0, 1), voter(3, 0, 1), voter(4, 0, 5))
	checkQuorum(t, e, []int{1}, true)
	checkQuorum(t, e, []int{2, 3, 4}, false)
	e = config(voter(1, 1, 0), voter(2, 0, 1), voter(3, 1, 2), voter(4, 0, 2))
	checkQuorum(t, e, []int{1, 2}, false)
	checkQuorum(t, e, []int{1, 2, 4}, false)
	checkQuorum(t, e, []int{1, 3}, true)
	checkQuorum(t, voters(0, 1), []int{2}, true)
	checkQuorum(t, voters(0, 1), []int{1}, false)
}

func TestIdsThatCountNothing(t *testing.T) {
	e := config(voter(1, 1, 0), voter(3, 1, 0), observer(4), voter(6, 1, 0), observer(7))
	strangers := []int{math.MinInt, -6, -3, -1, 0, 2, 5, 8, 9, 1<<32 + 3, 1<<32 + 6, math.MaxInt}
	checkQuorum(t, e, strangers, false)
	for _, id := range strangers {
		checkQuorum(t, e, []int{id, 1}, false)
		checkQuorum(t, e, []int{1, id, 3}, true)
	}
	checkQuorum(t, e, append(slices.Clip(strangers), 6), false)
	checkQuorum(t, e, append(slices.Clip(strangers), 6, 1), true)
	// Repeats.
	checkQuorum(t, e, []int{1, 1}, false)
	checkQuorum(t, e, []int{6, 6, 6, 6}, false)
	checkQuorum(t, e, slices.Repeat([]int{3}, 100000), false)
	checkQuorum(t, e, append(slices.Repeat([]int{3}, 100000), 1), true)
	// Observers.
	checkQuorum(t, e, []int{4, 7}, false)
	checkQuorum(t, e, []int{1, 4, 7}, false)
	checkQuorum(t, e, []int{7, 6, 4, 3}, true)
	checkQuorum(t, e, []int{}, false)
	checkQuorum(t, e, nil, false)
	// In whatever order.
	checkQuorum(t, e, []int{6, 3, 1}, true)
	checkQuorum(t, e, []int{3, 1, 6, 3}, true)
}

func TestWrongConfigsHaveNoQuorum(t *testing.T) {
	old, late := voters(1, 1, 1), voters(1, 1, 1)
	old.Version, late.Version = -1, 1<<62+1
	everyone := []int{-1, 0, 1, 2, 3, 4, 5, 6, 7, 8}
	for _, e := range []api.Ensemble{
		{}, old, late, voters(0, 0), voters(1001), voters(1, -1), voters(1, 1, 1, 1, 1, 1, 1, 1), grouped(7), grouped(-1), grouped(math.MaxInt, math.MinInt),
		config(voter(2, 1, 0), voter(1, 1, 0)), config(voter(1, 1, 0), voter(1, 1, 0)), config(voter(0, 1, 0)), config(voter(8, 1, 0)), config(voter(math.MaxInt, 1, 0)),
		config(observer(1)), config(voter(1, 1, 0), api.Member{Id: 2, Role: api.Observer, Group: 1}), config(voter(1, 1, 0), api.Member{Id: 2, Role: 3}),
		voters(math.MaxInt, math.MaxInt),
	} {
		checkQuorum(t, e, everyone, false)
		checkQuorum(t, e, nil, false)
	}
}

func TestQuorumsAreTheModels(t *testing.T) {
	for _, e := range smallConfigs() {
		for bits := range 16 {
			ids := subset(bits)
			checkQuorum(t, e, ids, modelQuorum(e, ids))
		}
	}
	for _, e := range largeConfigs(2000) {
		for bits := range 128 {
			ids := subset(bits)
			checkQuorum(t, e, ids, modelQuorum(e, ids))
		}
	}
}

func TestAll(t *testing.T) {
	one, three, late := voters(1), voters(1, 1, 1), config(voter(2, 1, 0), voter(3, 1, 0), voter(4, 1, 0))
	wrong := voters(0)
	for i, x := range []struct {
		l    []api.Ensemble
		ids  []int
		want bool
	}{
		{nil, []int{1, 2, 3}, false},
		{[]api.Ensemble{}, []int{1, 2, 3}, false},
		{nil, nil, false},
		{[]api.Ensemble{one}, []int{1}, true},
		{[]api.Ensemble{one, three}, []int{1}, false},
		{[]api.Ensemble{three, one}, []int{1}, false},
		{[]api.Ensemble{one, three}, []int{2, 3}, false},
		{[]api.Ensemble{three, one}, []int{2, 3}, false},
		{[]api.Ensemble{one, three}, []int{3, 1}, true},
		{[]api.Ensemble{three, three}, []int{1, 3}, true},
		{[]api.Ensemble{three, late}, []int{1, 2}, false},
		{[]api.Ensemble{three, late}, []int{3, 4}, false},
		{[]api.Ensemble{three, late}, []int{2, 3}, true},
		{[]api.Ensemble{three, late}, []int{1, 2, 4}, true},
		{[]api.Ensemble{three, late, one}, []int{2, 3}, false},
		{[]api.Ensemble{three, late, one}, []int{1, 2, 3}, true},
		{[]api.Ensemble{wrong}, []int{1}, false},
		{[]api.Ensemble{one, wrong}, []int{1}, false},
		{[]api.Ensemble{wrong, one}, []int{1}, false},
		{[]api.Ensemble{one, wrong, one}, []int{1}, false},
		{[]api.Ensemble{one, {}}, []int{1}, false},
		{slices.Repeat([]api.Ensemble{three}, 10000), slices.Repeat([]int{9, 2, 3}, 10000), true},
	} {
		if got := ensemble.All(x.l, x.ids); got != x.want {
			t.Errorf("%d: %v, want %v", i, got, x.want)
		}
	}
}

func TestAllIsEachOne(t *testing.T) {
	configs := append(largeConfigs(40), api.Ensemble{}, voters(1), voters(1, 1, 1, 1, 1, 1, 1))
	for _, a := range configs {
		for _, b := range configs {
			for bits := range 128 {
				ids := subset(bits)
				if ensemble.All([]api.Ensemble{a, b}, ids) != (modelQuorum(a, ids) && modelQuorum(b, ids)) {
					t.Errorf("All of %v and %v, %v", a, b, ids)
				}
			}
		}
	}
}

// P4.3

func TestBytesOfConfigs(t *testing.T) {
	e := config(voter(1, 64, 0), observer(2), voter(7, 1000, 6))
	e.Version = 1 << 32
	want := []byte{
		0x80, 0x80, 0x80, 0x80, 0x20, // the version
		6,                // three members
		2, 2, 0x80, 1, 0, // 1, a voter, 64, 0
		4, 4, 0, 0, // 2, an observer
		14, 2, 0xd0, 0x0f, 12, // 7, a voter, 1000, 6
	}
	if b, errno := ensemble.Put(e); errno != api.OK || !bytes.Equal(b, want) {
		t.Errorf("Put: %x, %v, want %x", b, errno, want)
	}
	if b, errno := ensemble.Put(voters(1)); errno != api.OK || !bytes.Equal(b, []byte{0, 2, 2, 2, 2, 0}) {
		t.Errorf("Put of one voter: %x, %v", b, errno)
	}
	checkGet(t, want, e)
	checkGet(t, []byte{0, 2, 2, 2, 2, 0}, voters(1))
}

func checkGet(t *testing.T, b []byte, want api.Ensemble) {
	t.Helper()
	got, errno := ensemble.Get(b)
	if errno != api.OK || got.Version != want.Version || !slices.Equal(got.Members, want.Members) {
		t.Errorf("Get(%x): %v, %v, want %v", b, got, errno, want)
	}
}

// checkNoConfig: an error, and nothing beside it.
func checkNoConfig(t *testing.T, what string, b []byte) {
	t.Helper()
	if got, errno := ensemble.Get(b); errno != api.ErrShape || got.Version != 0 || len(got.Members) != 0 {
		t.Errorf("%s: Get(%x): %v, %v", what, b, got, errno)
	}
}

func checkThereAndBack(t *testing.T, e api.Ensemble) {
	t.Helper()
	b, errno := ensemble.Put(e)
	if errno != api.OK || !bytes.Equal(b, modelRow(e)) {
		t.Errorf("Put(%v): %x, %v", e, b, errno)
	}
	checkGet(t, b, e)
}

func TestConfigsAreReadBack(t *testing.T) {
	for _, version := range []api.Zxid{0, 1, 63, 64, 1<<32 - 1, 1 << 32, 1<<62 - 1, 1 << 62} {
		e := voters(0, 1, 63, 64, 999, 1000, 1)
		e.Version = version
		checkThereAndBack(t, e)
	}
	for _, e := range largeConfigs(2000) {
		checkThereAndBack(t, e)
	}
	for _, e := range smallConfigs() {
		if modelMayBe(e) {
			checkThereAndBack(t, e)
		} else {
			checkNoConfig(t, "may not be", modelRow(e))
		}
	}
}

func TestBytesOfConfigsThatMayNotBe(t *testing.T) {
	for _, m := range strangeMembers() {
		for _, e := range []api.Ensemble{config(m), config(voter(1, 1, 0), m), config(m, voter(7, 1, 0))} {
			if modelMayBe(e) {
				checkThereAndBack(t, e)
			} else {
				checkNoConfig(t, "may not be", modelRow(e))
			}
		}
	}
	for _, version := range []api.Zxid{math.MinInt64, -1, 1<<62 + 1, math.MaxInt64} {
		e := voters(1)
		e.Version = version
		checkNoConfig(t, "version", modelRow(e))
	}
	checkNoConfig(t, "no member", row(0, 0))
	checkNoConfig(t, "falling ids", modelRow(config(voter(2, 1, 0), voter(1, 1, 0))))
	checkNoConfig(t, "equal ids", modelRow(config(voter(2, 1, 0), voter(2, 1, 0))))
	checkNoConfig(t, "no weight", modelRow(voters(0, 0, 0)))
}

// Numbers of which only the lowest bits would be right.
func TestNumbersAreNotCutShort(t *testing.T) {
	right := []int64{5, 2, 1, 1, 10, 3, 2, 2, 0, 0}
	checkGet(t, row(right...), api.Ensemble{Version: 5, Members: []api.Member{voter(1, 10, 3), observer(2)}})
	for i := range right {
		for _, more := range []int64{1 << 8, 1 << 16, 1 << 31, 1 << 32, 1 << 62, math.MinInt64, -1 << 8, -1 << 32} {
			numbers := slices.Clone(right)
			numbers[i] += more
			if version, weight := numbers[0], numbers[4]; i == 0 && 0 <= version && version <= 1<<62 || i == 4 && 0 <= weight && weight <= 1000 {
				continue // another config
			}
			checkNoConfig(t, "number "+strconv.Itoa(i), row(numbers...))
		}
	}
}

func TestNumbersOfMembers(t *testing.T) {
	for have := range 10 {
		e := voters(1, 1, 1, 1, 1, 1, 1, 1, 1)
		e.Members = e.Members[:have]
		members := modelRow(e)[2:]
		for _, said := range []int64{math.MinInt64, -8, -1, 0, 1, 2, 3, 4, 5, 6, 7, 8, 9, 10, 1 << 20, 1 << 32, 1<<32 + 1, math.MaxInt64} {
			b := slices.Concat(row(0, said), members)
			if said == int64(have) && 1 <= have && have <= 7 {
				checkGet(t, b, e)
			} else {
				checkNoConfig(t, strconv.Itoa(have)+" members, said to be "+strconv.FormatInt(said, 10), b)
			}
		}
	}
}

func TestBytesThatEndTooSoonOrGoOn(t *testing.T) {
	checkNoConfig(t, "nil", nil)
	checkNoConfig(t, "nothing", []byte{})
	for _, e := range append(largeConfigs(200), voters(1), voters(1000, 64, 1, 1, 1, 1, 1)) {
		b := modelRow(e)
		for end := range b {
			checkNoConfig(t, "cut", b[:end:end])
			// What lies in the spare room is not of the row.
			checkNoConfig(t, "cut, the rest in the spare room", b[:end])
		}
		for more := range 256 {
			checkNoConfig(t, "one more", append(slices.Clip(b), byte(more)))
		}
		checkNoConfig(t, "a member more", slices.Concat(b, row(7, 2, 0, 0)))
		checkNoConfig(t, "twice", slices.Concat(b, b))
	}
}

// A number with more bytes than it takes is none.
func TestNumbersWithNoughtsAhead(t *testing.T) {
	right := []byte{0, 2, 2, 2, 2, 0}
	checkGet(t, right, voters(1))
	for i := range right {
		longer := slices.Concat(right[:i], []byte{right[i] | 128, 0}, right[i+1:])
		checkNoConfig(t, "number "+strconv.Itoa(i), longer)
	}
}

// Whatever the bytes are: a config is told only of the bytes that it has.
func TestOtherBytesAreOtherConfigs(t *testing.T) {
	look := func(b []byte) {
		t.Helper()
		got, errno := ensemble.Get(b)
		if errno != api.OK {
			checkNoConfig(t, "no config", b)
			return
		}
		if !modelMayBe(got) || len(got.Members) > 7 || !bytes.Equal(modelRow(got), b) {
			t.Errorf("Get(%x): %v", b, got)
		}
	}
	next := testkit.Walk()
	for _, e := range largeConfigs(300) {
		b := modelRow(e)
		for i := range b {
			for _, x := range []byte{0, 1, 2, 3, 4, 12, 14, 16, 127, 128, 255, b[i] ^ 1, b[i] ^ 128, b[i] + 2, b[i] - 2} {
				other := slices.Clone(b)
				other[i] = x
				look(other)
			}
			look(slices.Delete(slices.Clone(b), i, i+1))
			look(slices.Insert(slices.Clone(b), i, byte(next(256))))
		}
	}
	for range 100000 {
		b := make([]byte, next(14))
		for i := range b {
			b[i] = byte(next(8))
		}
		look(b)
	}
}

// P4.4

// checkWhatFollows: of all sets of servers of a config that may be.
func checkWhatFollows(t *testing.T, e api.Ensemble) {
	t.Helper()
	everyVoter, members := 0, 0
	for _, m := range e.Members {
		members |= 1 << (m.Id - 1)
		if m.Role == api.Voter {
			everyVoter |= 1 << (m.Id - 1)
		}
	}
	var is [128]bool
	for bits := range is {
		is[bits] = ensemble.Quorum(e, subset(bits))
	}
	if !is[everyVoter] || is[0] || is[127&^everyVoter] {
		t.Errorf("%v: all voters %v, none %v, all others %v", e, is[everyVoter], is[0], is[127&^everyVoter])
	}
	for a := range is {
		if is[a] != is[a&everyVoter] {
			t.Errorf("%v: of %v some count that are no voters", e, subset(a))
		}
		for id := range 7 {
			if is[a] && !is[a|1<<id] {
				t.Errorf("%v: %v are a quorum, with %d no more", e, subset(a), id+1)
			}
		}
		for b := range is {
			if is[a] && is[b] && a&b&members == 0 {
				t.Errorf("%v: %v and %v are quorums without a member in common", e, subset(a), subset(b))
			}
		}
	}
}

func TestWhatFollows(t *testing.T) {
	for i, e := range smallConfigs() {
		if i%9 == 0 && modelMayBe(e) { // of all of them it would take too long
			checkWhatFollows(t, e)
		}
	}
	for _, e := range largeConfigs(1500) {
		checkWhatFollows(t, e)
	}
}

// Observers play no part: with them or without, the same servers are quorums.
func TestObserversPlayNoPart(t *testing.T) {
	for _, e := range largeConfigs(1500) {
		bare := e
		bare.Members = slices.DeleteFunc(slices.Clone(e.Members), func(m api.Member) bool { return m.Role == api.Observer })
		for bits := range 128 {
			ids := subset(bits)
			if ensemble.Quorum(e, ids) != ensemble.Quorum(bare, ids) {
				t.Errorf("%v, %v: another answer without observers", e, ids)
			}
		}
	}
}

// R3

const room = 9

// roomyMembers, roomyIds, roomyBytes: the same list with spare room that is filled.
func roomyMembers(l []api.Member) []api.Member {
	return append(slices.Clone(l), slices.Repeat([]api.Member{{Id: 99}}, room)...)[:len(l)]
}

func roomyIds(l []int) []int {
	return append(slices.Clone(l), slices.Repeat([]int{99}, room)...)[:len(l)]
}

func roomyBytes(l []byte) []byte {
	return append(slices.Clone(l), bytes.Repeat([]byte{0xee}, room)...)[:len(l)]
}

// checkRoom: neither the list nor its spare room is another than that of a list like it.
func checkRoom[T any](t *testing.T, what string, l, like []T) {
	t.Helper()
	end := len(like) + room
	if len(l) != len(like) || !reflect.DeepEqual(l[:end], like[:end]) {
		t.Errorf("%s: changed to %v", what, l[:end])
	}
}

func TestArgumentsStayAsTheyAre(t *testing.T) {
	right := []api.Member{voter(1, 1, 0), observer(2), voter(3, 1, 6)}
	for _, members := range [][]api.Member{right, {voter(3, 1, 0), voter(1, 1, 0)}, voters(1, 1, 1, 1, 1, 1, 1, 1).Members} {
		e := api.Ensemble{Version: 5, Members: roomyMembers(members)}
		l := append(make([]api.Ensemble, 0, 2), e, voters(1))[:1]
		ids := roomyIds([]int{3, 1, 1, 9, 2})
		ensemble.Check(e)
		ensemble.Find(e, 3)
		ensemble.Voter(e, 3)
		ensemble.Quorum(e, ids)
		ensemble.All(l, ids)
		b, _ := ensemble.Put(e)
		testkit.Spoil(b, 0xdd)
		checkRoom(t, "members", e.Members, roomyMembers(members))
		checkRoom(t, "ids", ids, roomyIds([]int{3, 1, 1, 9, 2}))
		if !reflect.DeepEqual(l[:2], []api.Ensemble{{Version: 5, Members: members}, voters(1)}) {
			t.Errorf("the list of configs: %v", l[:2])
		}
	}
	for _, row := range [][]byte{modelRow(config(right...)), {0, 2, 2, 2}, {}} {
		b := roomyBytes(row)
		e, _ := ensemble.Get(b)
		testkit.Spoil(e.Members, api.Member{Id: 77})
		checkRoom(t, "bytes", b, roomyBytes(row))
	}
}

func TestArgumentsAreNotKept(t *testing.T) {
	e := voters(1, 2, 3)
	want := modelRow(e)
	b, _ := ensemble.Put(e)
	testkit.Spoil(e.Members, api.Member{})
	if !bytes.Equal(b, want) {
		t.Errorf("Put's bytes hang on what was put: %x", b)
	}
	got, _ := ensemble.Get(b)
	testkit.Spoil(b, 0xdd)
	if !slices.Equal(got.Members, voters(1, 2, 3).Members) {
		t.Errorf("Get's config hangs on its bytes: %v", got)
	}
	ids := []int{1, 2}
	first := ensemble.Quorum(voters(1, 1, 1), ids)
	testkit.Spoil(ids, 9)
	if !first || ensemble.Quorum(voters(1, 1, 1), ids) || !ensemble.Quorum(voters(1, 1, 1), []int{2, 3}) {
		t.Error("Quorum hangs on ids of an earlier call")
	}
}

func TestAnswersShareNothing(t *testing.T) {
	for _, e := range largeConfigs(50) {
		want := modelRow(e)
		a, _ := ensemble.Put(e)
		b, _ := ensemble.Put(e)
		testkit.Spoil(a, 0xdd)
		if !bytes.Equal(b, want) {
			t.Errorf("Put's answers share memory: %x", b)
		}
		one, _ := ensemble.Get(want)
		other, _ := ensemble.Get(want)
		testkit.Spoil(one.Members, api.Member{Id: 77})
		if !slices.Equal(other.Members, e.Members) {
			t.Errorf("Get's answers share memory: %v", other)
		}
		testkit.Spoil(b, 0xdd)
		checkThereAndBack(t, e)
	}
}
