package choose_test

import (
	"fmt"
	"slices"
	"testing"

	"beadle/api"
	"beadle/choose"
	"beadle/ensemble"
)

// vote: for a server, with what it has.
type vote struct {
	leader, epoch int
	zxid          api.Zxid
}

// told: what was heard of a server.
type told struct {
	from int
	vote vote
}

// model: a chooser as the chapter's Words tell it. What was told in this round stands in a row; its vote and what it has heard are worked out of that each time.
type model struct {
	id, epoch, round int
	zxid             api.Zxid
	configs          []api.Ensemble
	row              []told
	calm             int
}

func newModel(id, epoch int, zxid api.Zxid, configs []api.Ensemble) *model {
	m := &model{id: id}
	m.begin(epoch, zxid, configs)
	return m
}

func (m *model) begin(epoch int, zxid api.Zxid, configs []api.Ensemble) {
	*m = model{id: m.id, round: m.round + 1, epoch: epoch, zxid: zxid, configs: configs}
}

// own: a vote for itself, if some config has it as a voter.
func (m *model) own() vote {
	for _, e := range m.configs {
		for i, x := range e.Members {
			first := slices.IndexFunc(e.Members, func(y api.Member) bool { return y.Id == x.Id }) == i
			if x.Id == m.id && x.Role == api.Voter && first {
				return vote{m.id, m.epoch, m.zxid}
			}
		}
	}
	return vote{}
}

// beats: whether a is the better one of two.
func (a vote) beats(b vote) bool {
	if a.epoch != b.epoch {
		return a.epoch > b.epoch
	}
	if a.zxid != b.zxid {
		return a.zxid > b.zxid
	}
	return a.leader > b.leader
}

// vote: the best of its own and of all that were told in this round.
func (m *model) vote() vote {
	best := m.own()
	for _, x := range m.row {
		if x.vote.beats(best) {
			best = x.vote
		}
	}
	return best
}

// heard: the last vote of that server in this round, if there is one.
func (m *model) heard(from int) (vote, bool) {
	for _, x := range slices.Backward(m.row) {
		if x.from == from {
			return x.vote, true
		}
	}
	return vote{}, false
}

func (m *model) hear(from int, l api.Letter) bool {
	if l.Kind != 1 || l.State != 1 || from < 1 || from > 7 || from == m.id || l.Round < m.round {
		return false
	}
	before, round := m.vote(), m.round
	if l.Round > m.round {
		m.round, m.row, m.calm = l.Round, nil, 0
		before = m.own()
	}
	m.row = append(m.row, told{from, vote{l.Leader, l.Epoch, l.Zxid}})
	if m.vote() != before {
		m.calm = 0
	}
	return m.round != round || m.vote() != before
}

func (m *model) tick() (int, bool) {
	m.calm++
	v := m.vote()
	ids := []int{m.id}
	for from := 1; from <= 7; from++ {
		if x, ok := m.heard(from); ok && x == v {
			ids = append(ids, from)
		}
	}
	if m.calm < 2 || v.leader < 1 || v.leader > 7 || len(m.configs) == 0 {
		return 0, false
	}
	for _, e := range m.configs {
		if !ensemble.Quorum(e, ids) {
			return 0, false
		}
	}
	return v.leader, true
}

func (m *model) letter() api.Letter {
	return looking(m.round, m.vote())
}

// looking: a letter of one that looks for a leader.
func looking(round int, v vote) api.Letter {
	return api.Letter{Kind: api.LetVote, State: api.Looking, Round: round, Leader: v.leader, Epoch: v.epoch, Zxid: v.zxid}
}

// twin: a chooser and its model, of which the same is asked.
type twin struct {
	*testing.T
	what string
	c    *choose.Chooser
	m    *model
}

func newTwin(t *testing.T, what string, id, epoch int, zxid api.Zxid, configs ...api.Ensemble) twin {
	t.Helper()
	c := choose.New(id, epoch, zxid, configs)
	if c == nil {
		t.Fatalf("%s: New(%d, ..) is none", what, id)
	}
	x := twin{t, what, c, newModel(id, epoch, zxid, configs)}
	x.vote()
	return x
}

func (x twin) begin(epoch int, zxid api.Zxid, configs ...api.Ensemble) {
	x.Helper()
	x.m.begin(epoch, zxid, configs)
	x.c.Begin(epoch, zxid, configs)
	x.vote()
}

func (x twin) vote() {
	x.Helper()
	if got, want := x.c.Vote(), x.m.letter(); tell(got) != tell(want) {
		x.Fatalf("%s: Vote: %s, want %s", x.what, tell(got), tell(want))
	}
}

func (x twin) hear(from int, l api.Letter) bool {
	x.Helper()
	want := x.m.hear(from, l)
	if got := x.c.Hear(from, l); got != want {
		x.Fatalf("%s: Hear(%d, %s): %v, want %v", x.what, from, tell(l), got, want)
	}
	x.vote()
	return want
}

func (x twin) tick() (int, bool) {
	x.Helper()
	want, wantOk := x.m.tick()
	if got, ok := x.c.Tick(); got != want || ok != wantOk {
		x.Fatalf("%s: Tick: %d, %v, want %d, %v", x.what, got, ok, want, wantOk)
	}
	x.vote()
	return want, wantOk
}

// ticks: as many; what the last one tells.
func (x twin) ticks(n int) int {
	x.Helper()
	last := 0
	for range n {
		last, _ = x.tick()
	}
	return last
}

// tell: all fields of a letter, so that one that must be zero is seen where it is not.
func tell(l api.Letter) string { return fmt.Sprintf("%+v", l) }

func voter(id, weight, group int) api.Member {
	return api.Member{Id: id, Role: api.Voter, Weight: weight, Group: group}
}

func observer(id int) api.Member { return api.Member{Id: id, Role: api.Observer} }

func config(members ...api.Member) api.Ensemble { return api.Ensemble{Members: members} }

// voters: those servers, each of weight 1, in one group.
func voters(ids ...int) api.Ensemble {
	var e api.Ensemble
	for _, id := range ids {
		e.Members = append(e.Members, voter(id, 1, 0))
	}
	return e
}

func wantTick(t *testing.T, what string, c *choose.Chooser, want int) {
	t.Helper()
	if got, ok := c.Tick(); got != want || ok != (want != 0) {
		t.Errorf("%s: Tick: %d, %v, want %d", what, got, ok, want)
	}
}

func wantVote(t *testing.T, what string, c *choose.Chooser, round int, v vote) {
	t.Helper()
	if got, want := c.Vote(), looking(round, v); tell(got) != tell(want) {
		t.Errorf("%s: Vote: %s, want %s", what, tell(got), tell(want))
	}
}

func wantHear(t *testing.T, what string, c *choose.Chooser, from int, l api.Letter, want bool) {
	t.Helper()
	if got := c.Hear(from, l); got != want {
		t.Errorf("%s: Hear(%d, %s): %v", what, from, tell(l), got)
	}
}
