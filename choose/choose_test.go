package choose_test

import (
	"fmt"
	"math"
	"slices"
	"testing"

	"beadle/api"
	"beadle/choose"
	"beadle/testkit"
)

var (
	noServers = []int{math.MinInt, -7, -1, 0, 8, 9, 255, 256, 257, 1 << 32, 1<<32 + 1, math.MaxInt}
	states    = []api.State{0, api.Following, api.Leading, 4, 255}
	numbers   = []int{math.MinInt, -1, 0, 1, 2, 1 << 30, 1<<32 + 1, math.MaxInt}
)

// The chapter's examples.

func TestExampleOfThreeVoters(t *testing.T) {
	for _, x := range []struct {
		epochs [3]int
		want   int
	}{{[3]int{1, 1, 1}, 3}, {[3]int{2, 1, 1}, 1}} {
		var l []*choose.Chooser
		for i, zxid := range []api.Zxid{5, 9, 9} {
			l = append(l, choose.New(i+1, x.epochs[i], zxid, []api.Ensemble{voters(1, 2, 3)}))
		}
		settle(l)
		for _, c := range l {
			if got := c.Vote().Leader; got != x.want {
				t.Errorf("epochs %v: a vote for %d, want %d", x.epochs, got, x.want)
			}
			wantTick(t, "the first tick", c, 0)
			wantTick(t, "the second tick", c, x.want)
		}
	}
}

func TestExampleOfAnObserver(t *testing.T) {
	c := choose.New(3, 9, 9, []api.Ensemble{config(voter(1, 1, 0), voter(2, 1, 0), observer(3))})
	wantVote(t, "new", c, 1, vote{})
	wantHear(t, "a vote", c, 1, looking(1, vote{2, 1, 1}), true)
	wantTick(t, "one of two", c, 0)
	wantTick(t, "one of two", c, 0)
	wantHear(t, "the same vote", c, 2, looking(1, vote{2, 1, 1}), false)
	wantTick(t, "both", c, 2)
	wantVote(t, "both", c, 1, vote{2, 1, 1})
}

// settle: all tell all others their votes till nothing turns any more.
func settle(l []*choose.Chooser) {
	for turned := true; turned; {
		turned = false
		for _, c := range l {
			for i, other := range l {
				turned = c.Hear(i+1, other.Vote()) || turned
			}
		}
	}
}

// P20.1

func TestNewIsForAServer(t *testing.T) {
	for _, id := range noServers {
		if choose.New(id, 1, 1, []api.Ensemble{voters(1, 2, 3)}) != nil {
			t.Errorf("New(%d, ..) is one", id)
		}
		if choose.New(id, 1, 1, []api.Ensemble{config(voter(id, 1, 0))}) != nil {
			t.Errorf("New(%d, ..), its own voter, is one", id)
		}
	}
	for id := 1; id <= 7; id++ {
		newTwin(t, "no config", id, 1, 1)
		newTwin(t, "seven voters", id, 1, 1, voters(1, 2, 3, 4, 5, 6, 7))
	}
}

// TestOwnVote: of a voter, of an observer and of a stranger, in the only config, in the first or the last one of some.
func TestOwnVote(t *testing.T) {
	with, without := voters(2, 4), voters(1, 5)
	watching := config(voter(1, 1, 0), observer(4))
	light := config(voter(1, 1, 0), voter(4, 0, 0))
	for _, x := range []struct {
		configs []api.Ensemble
		votes   bool
	}{
		{[]api.Ensemble{with}, true},
		{[]api.Ensemble{light}, true},
		{[]api.Ensemble{watching}, false},
		{[]api.Ensemble{without}, false},
		{nil, false},
		{[]api.Ensemble{{}}, false},
		{[]api.Ensemble{with, with}, true},
		{[]api.Ensemble{with, without}, true},
		{[]api.Ensemble{without, with}, true},
		{[]api.Ensemble{watching, light}, true},
		{[]api.Ensemble{without, watching}, false},
		{[]api.Ensemble{watching, {}, without, without, with}, true},
	} {
		want := vote{}
		if x.votes {
			want = vote{4, 3, 77}
		}
		what := fmt.Sprint(x.configs)
		wantVote(t, what, choose.New(4, 3, 77, x.configs), 1, want)
		c := choose.New(4, 9, 99, []api.Ensemble{voters(4)})
		c.Begin(3, 77, x.configs)
		wantVote(t, what+", begun", c, 2, want)
	}
}

// TestOddMembers: configs that may not be; who is a voter is told by ensemble.
func TestOddMembers(t *testing.T) {
	for _, e := range []api.Ensemble{
		config(voter(4, -5, 99)),
		config(observer(4), voter(4, 1, 0)),
		config(voter(4, 1, 0), observer(4)),
		config(api.Member{Id: 4}),
		config(api.Member{Id: 4, Role: 3, Weight: 1}),
		config(api.Member{Id: 4, Role: 255, Weight: 1}),
		config(append(voters(1, 2, 3, 5, 6, 7, 7).Members, voter(4, 1, 0))...),
		{Version: -1, Members: []api.Member{voter(4, 1, 0)}},
	} {
		x := newTwin(t, fmt.Sprint(e), 4, 1, 1, e)
		x.ticks(3)
		x.begin(2, 2, e, voters(4))
		x.ticks(3)
	}
}

func TestAnyEpochAndZxid(t *testing.T) {
	for _, epoch := range numbers {
		for _, zxid := range numbers {
			x := newTwin(t, "any numbers", 1, epoch, api.Zxid(zxid), voters(1))
			wantVote(t, "New", x.c, 1, vote{1, epoch, api.Zxid(zxid)})
			if got := x.ticks(2); got != 1 {
				t.Errorf("%d, %d: %d", epoch, zxid, got)
			}
			x.begin(zxid, api.Zxid(epoch), voters(1))
			x.begin(zxid, api.Zxid(epoch), voters(1, 2))
			wantVote(t, "Begin", x.c, 3, vote{1, zxid, api.Zxid(epoch)})
		}
	}
}

// TestBeginForgetsAll: of what was heard, voted for and counted ahead of it.
func TestBeginForgetsAll(t *testing.T) {
	x := newTwin(t, "begun", 1, 1, 1, voters(1, 2, 3))
	best := vote{3, 5, 5}
	x.hear(2, looking(1, best))
	x.hear(3, looking(1, best))
	if got := x.ticks(4); got != 3 {
		t.Errorf("told %d", got)
	}
	x.begin(1, 1, voters(1, 2, 3))
	if got := x.ticks(4); got != 0 {
		t.Errorf("begun, told %d", got)
	}
	x.begin(1, 1, voters(1))
	if got := x.ticks(1); got != 0 {
		t.Errorf("calm too soon: %d", got)
	}
	if got := x.ticks(1); got != 1 {
		t.Errorf("alone, told %d", got)
	}
	x.begin(7, 8, voters(2, 3))
	wantVote(t, "a stranger now", x.c, 4, vote{})
	x.hear(2, looking(4, best))
	x.hear(3, looking(4, best))
	if got := x.ticks(2); got != 3 {
		t.Errorf("of others, told %d", got)
	}
}

func TestBeginHeardOfOneServerOnly(t *testing.T) {
	x := newTwin(t, "begun", 1, 1, 1, voters(1, 2, 3))
	own := vote{1, 1, 1}
	x.hear(2, looking(1, own))
	x.begin(1, 1, voters(1, 2, 3))
	if got := x.ticks(3); got != 0 {
		t.Errorf("what was heard ahead of Begin tells %d", got)
	}
	x.hear(2, looking(2, own))
	if got := x.ticks(1); got != 1 {
		t.Errorf("told %d", got)
	}
}

// P20.2

func TestVoteTellsTheVote(t *testing.T) {
	x := newTwin(t, "a vote", 2, 3, 4, voters(2, 5))
	wantVote(t, "new", x.c, 1, vote{2, 3, 4})
	wantVote(t, "asked again", x.c, 1, vote{2, 3, 4})
	x.hear(5, looking(1<<40, vote{5, 1 << 30, 1 << 62}))
	wantVote(t, "turned", x.c, 1<<40, vote{5, 1 << 30, 1 << 62})
	x.ticks(3)
	wantVote(t, "ticked", x.c, 1<<40, vote{5, 1 << 30, 1 << 62})
}

func TestAskingForTheVoteChangesNothing(t *testing.T) {
	x := newTwin(t, "asked", 1, 1, 1, voters(1))
	x.tick()
	for range 5 {
		x.vote()
	}
	if got := x.ticks(1); got != 1 {
		t.Errorf("told %d", got)
	}
}

// P20.3

// TestWhatIsNotHeard: all of it better than what there is, and for many rounds.
func TestWhatIsNotHeard(t *testing.T) {
	x := newTwin(t, "not heard", 2, 5, 5, voters(1, 2, 3))
	x.begin(5, 5, voters(1, 2, 3))
	x.begin(5, 5, voters(1, 2, 3))
	best := vote{3, 9, 9}
	no := func(from int, l api.Letter) {
		t.Helper()
		if x.hear(from, l) {
			t.Errorf("of %d is heard: %s", from, tell(l))
		}
		if got, ok := x.tick(); ok {
			t.Errorf("told %d", got)
		}
	}
	for _, round := range []int{3, 4, 1 << 40, math.MaxInt} {
		for _, from := range append(slices.Clone(noServers), 2) {
			no(from, looking(round, best))
		}
		for kind := range 256 {
			l := looking(round, best)
			if l.Kind = api.LetterKind(kind); l.Kind != api.LetVote {
				no(1, l)
			}
		}
		for _, state := range states {
			l := looking(round, best)
			l.State = state
			no(1, l)
			no(3, l)
		}
	}
	for _, round := range []int{math.MinInt, -1, 0, 1, 2} {
		for from := 1; from <= 7; from++ {
			no(from, looking(round, best))
			no(from, looking(round, vote{2, 5, 5}))
		}
	}
	no(1, api.Letter{})
	wantVote(t, "in the end", x.c, 3, vote{2, 5, 5})
}

// TestWhatIsNotHeardLeavesAll: neither the calm nor what was heard is touched.
func TestWhatIsNotHeardLeavesAll(t *testing.T) {
	for _, l := range []api.Letter{
		{}, looking(0, vote{3, 9, 9}), looking(1, vote{3, 9, 9}), looking(-1, vote{}),
		{Kind: api.LetVote, State: api.Leading, Round: 9, Leader: 3, Epoch: 9},
		{Kind: api.LetInfo, State: api.Looking, Round: 9, Leader: 3, Epoch: 9},
	} {
		x := newTwin(t, "left", 1, 1, 1, voters(1, 2, 3))
		x.begin(1, 1, voters(1, 2, 3))
		x.hear(2, looking(2, vote{1, 1, 1}))
		x.tick()
		x.hear(2, l)
		x.hear(3, l)
		x.hear(1, looking(7, vote{3, 9, 9}))
		if got := x.ticks(1); got != 1 {
			t.Errorf("%s: told %d", tell(l), got)
		}
	}
}

func TestEveryOtherServerIsHeard(t *testing.T) {
	for id := 1; id <= 7; id++ {
		for from := 1; from <= 7; from++ {
			x := newTwin(t, fmt.Sprint(from, " to ", id), id, 1, 1, voters(id))
			best := vote{from%7 + 1, 9, 9}
			if x.hear(from, looking(1, best)) != (from != id) {
				t.Errorf("%d is heard by %d", from, id)
			}
			x.ticks(3)
		}
	}
}

// TestStrangersAreHeard: who is no member tells, too; its own word counts nothing.
func TestStrangersAreHeard(t *testing.T) {
	c := choose.New(1, 1, 1, []api.Ensemble{voters(1, 2)})
	wantHear(t, "of a stranger", c, 7, looking(1, vote{2, 2, 2}), true)
	wantTick(t, "one of two", c, 0)
	wantTick(t, "one of two", c, 0)
	wantHear(t, "of a voter", c, 2, looking(1, vote{2, 2, 2}), false)
	wantTick(t, "both", c, 2)
}

// TestBetterVotes: each pair of small votes, and of great ones.
func TestBetterVotes(t *testing.T) {
	var all []vote
	for _, epoch := range []int{-1, 0, 1, 2, math.MaxInt} {
		for _, zxid := range []api.Zxid{-1, 0, 1, 1 << 32, math.MaxInt64} {
			for _, leader := range []int{0, 1, 2, 7} {
				all = append(all, vote{leader, epoch, zxid})
			}
		}
	}
	for _, first := range all {
		for _, second := range all {
			x := newTwin(t, "two votes", 3, 1, 1, voters(1, 2, 3))
			x.hear(1, looking(1, first))
			x.tick()
			x.hear(2, looking(1, second))
			x.ticks(2)
		}
	}
}

// TestALaterRoundForgetsAll: the vote is its own again, ahead of what is heard.
func TestALaterRoundForgetsAll(t *testing.T) {
	for _, ahead := range []int{1, 2, 1 << 39} {
		x := newTwin(t, "a later round", 1, 5, 5, voters(1, 2, 3))
		best := vote{3, 9, 9}
		x.hear(2, looking(1, best))
		x.hear(3, looking(1, best))
		x.ticks(3)
		if !x.hear(2, looking(1+ahead, vote{2, 1, 1})) {
			t.Error("a later round is no turn")
		}
		wantVote(t, "worse", x.c, 1+ahead, vote{1, 5, 5})
		if got := x.ticks(3); got != 0 {
			t.Errorf("told %d", got)
		}
		if !x.hear(2, looking(2+ahead, vote{1, 5, 5})) {
			t.Error("a later round with the same vote is no turn")
		}
		if got := x.ticks(1); got != 0 {
			t.Errorf("calm too soon: %d", got)
		}
		if got := x.ticks(1); got != 1 {
			t.Errorf("told %d", got)
		}
		if !x.hear(3, looking(3+ahead, best)) {
			t.Error("a later round with a better vote is no turn")
		}
		wantVote(t, "better", x.c, 3+ahead, best)
		if x.hear(2, looking(2+ahead, best)) {
			t.Error("an earlier round is a turn")
		}
		if got := x.ticks(2); got != 3 {
			t.Errorf("told %d", got)
		}
	}
}

// TestBeginGoesOnBehindTheLastRound: the round of others counts, too.
func TestBeginGoesOnBehindTheLastRound(t *testing.T) {
	x := newTwin(t, "rounds", 1, 5, 5, voters(1, 2, 3))
	x.hear(2, looking(40, vote{2, 9, 9}))
	x.begin(6, 6, voters(1))
	wantVote(t, "begun", x.c, 41, vote{1, 6, 6})
	if x.hear(2, looking(40, vote{2, 9, 9})) {
		t.Error("the round before is heard")
	}
}

func TestGreatestRounds(t *testing.T) {
	x := newTwin(t, "the greatest round", 1, 5, 5, voters(1, 2))
	x.hear(2, looking(math.MaxInt-1, vote{1, 5, 5}))
	x.begin(5, 5, voters(1, 2))
	x.hear(2, looking(math.MaxInt, vote{1, 5, 5}))
	if got := x.ticks(2); got != 1 {
		t.Errorf("told %d", got)
	}
	x.begin(5, 5, voters(1, 2))
	x.hear(2, looking(1, vote{1, 5, 5}))
	x.ticks(3)
}

// TestTheLastVoteOfAServerCounts: not any that it had before.
func TestTheLastVoteOfAServerCounts(t *testing.T) {
	own := vote{1, 5, 5}
	for _, other := range []vote{{}, {2, 5, 4}, {2, 4, 9}, {1, 5, 4}, {1, 4, 5}, {0, 5, 5}} {
		x := newTwin(t, fmt.Sprint(other), 1, 5, 5, voters(1, 2, 3))
		x.hear(2, looking(1, own))
		if got := x.ticks(2); got != 1 {
			t.Errorf("%v: told %d", other, got)
		}
		if x.hear(2, looking(1, other)) {
			t.Errorf("%v: turned", other)
		}
		if got, ok := x.tick(); ok {
			t.Errorf("%v: told %d", other, got)
		}
		x.hear(2, looking(1, own))
		if got := x.ticks(1); got != 1 {
			t.Errorf("%v: told %d", other, got)
		}
	}
}

// TestWhatIsHeardWaits: what is worse than the vote now is heard, and counts for none till that server tells more.
func TestWhatIsHeardWaits(t *testing.T) {
	x := newTwin(t, "waits", 1, 1, 1, voters(1, 2, 3))
	x.hear(2, looking(1, vote{2, 3, 3}))
	x.hear(3, looking(1, vote{3, 3, 3}))
	if got := x.ticks(3); got != 3 {
		t.Errorf("told %d", got)
	}
	x.hear(3, looking(1, vote{2, 3, 3}))
	if got := x.ticks(3); got != 0 {
		t.Errorf("told %d", got)
	}
}

func TestOtherFieldsOfALetterPlayNoPart(t *testing.T) {
	l := looking(2, vote{2, 9, 9})
	l.Accepted, l.Fresh, l.Conn, l.Err = 99, true, 7, api.ErrNil
	l.Sessions, l.Bytes = []int64{5}, []byte{1}
	l.Deed, l.Ask = api.Deed{Zxid: 5, Path: "/x"}, api.Ask{Xid: 5, Path: "/x"}
	x := newTwin(t, "other fields", 1, 1, 1, voters(1, 2))
	if !x.hear(2, l) {
		t.Error("not heard")
	}
	wantVote(t, "heard", x.c, 2, vote{2, 9, 9})
	if got := x.ticks(2); got != 2 {
		t.Errorf("told %d", got)
	}
}

// P20.4

func TestCalmGoesOn(t *testing.T) {
	c := choose.New(1, 0, 0, []api.Ensemble{voters(1)})
	wantTick(t, "the first", c, 0)
	for range 100 {
		wantTick(t, "behind it", c, 1)
	}
}

// TestATurnBreaksTheCalm: nothing but a turn does.
func TestATurnBreaksTheCalm(t *testing.T) {
	x := newTwin(t, "calm", 1, 1, 1, voters(1))
	x.ticks(5)
	if x.hear(2, looking(1, vote{2, 0, 9})) {
		t.Error("a worse vote is a turn")
	}
	if got := x.ticks(1); got != 1 {
		t.Errorf("told %d", got)
	}
	if x.hear(2, looking(1, vote{1, 1, 1})) {
		t.Error("the same vote is a turn")
	}
	if got := x.ticks(1); got != 1 {
		t.Errorf("told %d", got)
	}
	x.hear(2, looking(1, vote{2, 1, 1}))
	if got := x.ticks(1); got != 0 {
		t.Errorf("told %d", got)
	}
	if got := x.ticks(1); got != 2 {
		t.Errorf("told %d", got)
	}
	x.hear(3, looking(2, vote{}))
	if got := x.ticks(1); got != 0 {
		t.Errorf("told %d", got)
	}
	if got := x.ticks(1); got != 1 {
		t.Errorf("told %d", got)
	}
}

// TestQuorums: each set of others that have the same vote, over configs of many shapes, one or two that bind.
func TestQuorums(t *testing.T) {
	shapes := []api.Ensemble{
		voters(1), voters(2), voters(1, 2), voters(1, 2, 3), voters(2, 3, 4), voters(1, 2, 3, 4), voters(1, 2, 3, 4, 5, 6, 7),
		config(voter(1, 3, 0), voter(2, 1, 0), voter(3, 1, 0)),
		config(voter(1, 0, 0), voter(2, 1, 0), voter(3, 1, 0)),
		config(observer(1), voter(2, 1, 0), voter(3, 1, 0), voter(4, 1, 0)),
		config(voter(1, 1, 0), voter(2, 1, 0), voter(3, 1, 0), voter(4, 1, 1), voter(5, 1, 1), voter(6, 1, 2)),
		{}, config(observer(1)), config(voter(1, 0, 0)), config(voter(2, 1, 0), voter(1, 1, 0)),
	}
	for i, e := range shapes {
		for k, f := range shapes {
			for others := range 1 << 6 {
				x := newTwin(t, fmt.Sprintf("%d, %d, %b", i, k, others), 1, 1, 1, e, f)
				best := vote{5, 9, 9}
				x.hear(7, looking(1, best))
				x.hear(7, looking(1, vote{}))
				for from := 2; from <= 7; from++ {
					if others>>(from-2)&1 == 1 {
						x.hear(from, looking(1, best))
					}
				}
				x.ticks(3)
				x.begin(1, 1, f)
				x.ticks(3)
			}
		}
	}
}

func TestBothConfigsCount(t *testing.T) {
	x := newTwin(t, "two configs", 1, 1, 1, voters(1, 2), voters(3, 4))
	best := vote{4, 2, 2}
	for _, y := range []struct{ from, want int }{{2, 0}, {4, 0}, {3, 4}} {
		x.hear(y.from, looking(1, best))
		if got := x.ticks(3); got != y.want {
			t.Errorf("with %d told %d, want %d", y.from, got, y.want)
		}
	}
}

// TestNoneIsTold: a quorum that votes for none, or for what is no server.
func TestNoneIsTold(t *testing.T) {
	for _, leader := range noServers {
		for _, epoch := range []int{0, 9} {
			x := newTwin(t, fmt.Sprint("a vote for ", leader), 3, 1, 1, config(voter(1, 1, 0), voter(2, 1, 0), observer(3)))
			x.hear(1, looking(1, vote{leader, epoch, 9}))
			x.hear(2, looking(1, vote{leader, epoch, 9}))
			if got := x.ticks(4); got != 0 {
				t.Errorf("%d is told", got)
			}
		}
	}
	for _, configs := range [][]api.Ensemble{nil, {}, {{}}, {{}, voters(1)}, {voters(1), {}}} {
		x := newTwin(t, fmt.Sprint(configs), 1, 1, 1, configs...)
		x.ticks(3)
		x.hear(2, looking(1, vote{2, 9, 9}))
		if got := x.ticks(3); got != 0 {
			t.Errorf("%v: %d is told", configs, got)
		}
	}
}

func TestAllConfigsCount(t *testing.T) {
	for n := range 12 {
		configs := slices.Repeat([]api.Ensemble{voters(1, 2)}, n)
		x := newTwin(t, fmt.Sprint(n, " configs"), 1, 1, 1, append(configs, voters(1, 2, 3), voters(3))...)
		x.hear(2, looking(1, vote{1, 1, 1}))
		if got := x.ticks(2); got != 0 {
			t.Errorf("%d: told %d", n, got)
		}
		x.hear(3, looking(1, vote{1, 1, 1}))
		if got := x.ticks(1); got != 1 {
			t.Errorf("%d: told %d", n, got)
		}
	}
}

// All of it, mixed.

// TestShortRows: all rows of some acts, each with all that is seen between them.
func TestShortRows(t *testing.T) {
	e, f := voters(1, 2, 3), config(voter(1, 1, 0), observer(2), voter(3, 1, 0))
	acts := []func(x twin){
		func(x twin) { x.tick() },
		func(x twin) { x.begin(1, 5, e) },
		func(x twin) { x.begin(2, 4, f, e) },
		func(x twin) { x.hear(2, looking(1, vote{2, 1, 5})) },
		func(x twin) { x.hear(2, looking(1, vote{1, 1, 5})) },
		func(x twin) { x.hear(3, looking(1, vote{1, 1, 5})) },
		func(x twin) { x.hear(3, looking(2, vote{2, 1, 5})) },
		func(x twin) { x.hear(2, looking(2, vote{})) },
		func(x twin) { x.hear(3, looking(2, vote{1, 1, 5})) },
		func(x twin) { x.hear(1, looking(3, vote{3, 9, 9})) },
		func(x twin) { x.hear(7, looking(3, vote{2, 1, 5})) },
	}
	n := len(acts)
	for i := range n * n * n * n {
		x := newTwin(t, fmt.Sprint("row ", i), 1, 1, 5, e)
		for rest := i; rest > 0; rest /= n {
			acts[rest%n](x)
		}
		x.ticks(3)
	}
}

// TestLongRows: mixed, with small numbers, so that votes often agree.
func TestLongRows(t *testing.T) {
	next := testkit.Walk()
	told := 0
	for row := range 300 {
		x := newTwin(t, fmt.Sprint("row ", row), 1+next(7), next(3), api.Zxid(next(3)), anyConfigs(next)...)
		for range 200 {
			switch next(12) {
			case 0, 1, 2, 3:
				if _, ok := x.tick(); ok {
					told++
				}
			case 4:
				if next(4) == 0 {
					x.begin(next(3), api.Zxid(next(3)), anyConfigs(next)...)
				}
			case 5:
				x.hear(next(9), looking(x.m.round+next(3)-1, anyVote(next)))
			case 6, 7:
				x.hear(next(9), looking(x.m.round, anyVote(next)))
			default:
				x.hear(next(9), x.m.letter())
			}
		}
	}
	if told < 1000 {
		t.Errorf("a leader is told %d times only", told)
	}
}

func anyVote(next func(int) int) vote {
	return vote{next(8), next(3), api.Zxid(next(3))}
}

// anyConfigs: one to three that may be, now and then one that may not.
func anyConfigs(next func(int) int) []api.Ensemble {
	var out []api.Ensemble
	for range 1 + next(3) {
		var e api.Ensemble
		for id := 1; id <= 7; id++ {
			switch next(4) {
			case 0:
				e.Members = append(e.Members, observer(id))
			case 1:
			default:
				e.Members = append(e.Members, voter(id, next(3), next(2)))
			}
		}
		out = append(out, e)
	}
	return out
}

func TestChoosersAreTheirOwn(t *testing.T) {
	one, other := newTwin(t, "one", 1, 1, 1, voters(1, 2)), newTwin(t, "the other one", 1, 1, 1, voters(1, 2))
	other.hear(2, looking(5, vote{2, 9, 9}))
	other.tick()
	other.begin(3, 3, voters(1))
	one.vote()
	one.tick()
	one.hear(2, looking(1, vote{1, 1, 1}))
	one.tick()
	other.ticks(3)
}

// R3

func TestWhatIsHandedInIsNeitherKeptNorChanged(t *testing.T) {
	for _, begun := range []bool{false, true} {
		plain := []api.Ensemble{voters(1, 2), config(voter(1, 1, 0), voter(2, 1, 0), observer(3))}
		configs := testkit.WithRoom(plain, config(voter(7, 1, 0)))
		for i := range configs {
			configs[i].Members = testkit.WithRoom(configs[i].Members, voter(6, 1000, 0))
		}
		before := fmt.Sprint(configs[:cap(configs)])
		c := choose.New(1, 1, 1, configs)
		if begun {
			c = choose.New(1, 9, 9, nil)
			c.Begin(1, 1, configs)
		}
		if now := fmt.Sprint(configs[:cap(configs)]); now != before {
			t.Errorf("changed: %s, was %s", now, before)
		}
		for i := range configs {
			testkit.Spoil(configs[i].Members, voter(5, 1000, 0))
		}
		testkit.Spoil(configs, voters(5))
		wantHear(t, "a later round", c, 2, looking(9, vote{1, 1, 1}), true)
		wantVote(t, "a later round", c, 9, vote{1, 1, 1})
		wantTick(t, "a later round", c, 0)
		wantTick(t, "a later round", c, 1)
	}
}

// TestSpareRoomOfConfigs: what lies behind the ends of lists plays no part.
func TestSpareRoomOfConfigs(t *testing.T) {
	e := voters(1, 2, 3)
	e.Members = e.Members[:1]
	configs := []api.Ensemble{e, voters(2, 3)}[:1]
	x := newTwin(t, "spare room", 1, 1, 1, configs...)
	if got := x.ticks(2); got != 1 {
		t.Errorf("told %d", got)
	}
	if !slices.Equal(configs[:2][1].Members, voters(2, 3).Members) || !slices.Equal(e.Members[:3], voters(1, 2, 3).Members) {
		t.Error("spare room is changed")
	}
}

// R4

func TestTheSameStepsAnswerTheSame(t *testing.T) {
	run := func() string {
		next := testkit.Walk()
		text := ""
		for range 50 {
			c := choose.New(1+next(7), next(3), api.Zxid(next(3)), anyConfigs(next))
			for range 40 {
				leader, ok := c.Tick()
				turned := c.Hear(1+next(7), looking(1+next(3), anyVote(next)))
				text += fmt.Sprint(leader, ok, turned, c.Vote().Round, c.Vote().Leader, ";")
			}
		}
		return text
	}
	if run() != run() {
		t.Error("two runs differ")
	}
}

// R5

func TestNoChooser(t *testing.T) {
	for what, c := range map[string]*choose.Chooser{"nil": nil, "unmade": {}, "new": new(choose.Chooser)} {
		for range 3 {
			c.Begin(1, 1, []api.Ensemble{voters(1, 2)})
			if got := tell(c.Vote()); got != tell(api.Letter{}) {
				t.Errorf("%s: Vote: %s", what, got)
			}
			for _, from := range []int{-1, 0, 1, 2, 7} {
				for _, round := range []int{-1, 0, 1, 9} {
					wantHear(t, what, c, from, looking(round, vote{2, 9, 9}), false)
				}
			}
			wantTick(t, what, c, 0)
		}
	}
}
