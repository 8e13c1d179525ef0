package choose_test

import (
	"fmt"
	"testing"

	"beadle/api"
	"beadle/choose"
	"beadle/ensemble"
	"beadle/testkit"
)

// crowd: choosers of one config, by their servers' ids; nil where one is away.
type crowd struct {
	*testing.T
	what   string
	e      api.Ensemble
	has    [8]vote
	l      [8]*choose.Chooser
	onWay  []api.Letter
	onWayA []int // of whom each is
	next   func(int) int
}

func newCrowd(t *testing.T, what string, e api.Ensemble, away int, next func(int) int) *crowd {
	w := &crowd{T: t, what: what, e: e, next: next}
	for id := 1; id <= 7; id++ {
		if away>>id&1 == 1 {
			continue
		}
		w.has[id] = vote{id, next(3), api.Zxid(next(3))}
		w.l[id] = choose.New(id, 9, 9, []api.Ensemble{voters(id)})
		for range 1 + next(3) {
			w.l[id].Begin(w.has[id].epoch, w.has[id].zxid, []api.Ensemble{e})
		}
	}
	return w
}

// most: of the voters that are there the one that knows most, if those that are there are a quorum; else 0.
func (w *crowd) most() int {
	best, ids := vote{}, []int{}
	for id, c := range w.l {
		if c == nil || !ensemble.Voter(w.e, id) {
			continue
		}
		ids = append(ids, id)
		if best == (vote{}) || w.has[id].beats(best) {
			best = w.has[id]
		}
	}
	if !ensemble.Quorum(w.e, ids) {
		return 0
	}
	return best.leader
}

// stir: letters go out, come late, twice, out of order, or never; time goes on meanwhile.
func (w *crowd) stir() {
	for range 60 {
		id := 1 + w.next(7)
		c := w.l[id]
		if c == nil {
			continue
		}
		switch w.next(4) {
		case 0:
			c.Tick()
		case 1:
			w.onWay, w.onWayA = append(w.onWay, c.Vote()), append(w.onWayA, id)
		default:
			if len(w.onWay) > 0 {
				i := w.next(len(w.onWay))
				c.Hear(w.onWayA[i], w.onWay[i])
			}
		}
	}
}

// settle: all tell all their votes, till nothing turns.
func (w *crowd) settle() {
	w.Helper()
	for range 100 {
		turned := false
		for id, c := range w.l {
			for from, other := range w.l {
				if c != nil && other != nil && id != from {
					turned = c.Hear(from, other.Vote()) || turned
				}
			}
		}
		if !turned {
			return
		}
	}
	w.Fatalf("%s: something always turns", w.what)
}

func (w *crowd) wantAll(want int) {
	w.Helper()
	for id, c := range w.l {
		if c == nil {
			continue
		}
		c.Tick()
		if got, ok := c.Tick(); got != want || ok != (want != 0) {
			w.Errorf("%s: %d tells %d, %v, want %d: %v, %v", w.what, id, got, ok, want, w.e, w.has)
		}
	}
}

// P20.5

func TestAllTellTheOneThatKnowsMost(t *testing.T) {
	next := testkit.Walk()
	for i := range 3000 {
		e := anyConfigs(next)[0]
		if ensemble.Check(e) != api.OK {
			continue
		}
		w := newCrowd(t, fmt.Sprint("crowd ", i), e, 0, next)
		w.stir()
		w.settle()
		w.wantAll(w.most())
	}
}

// TestSomeAreAway: as long as the others are a quorum, they tell the one of them that knows most; else nobody tells any.
func TestSomeAreAway(t *testing.T) {
	next := testkit.Walk()
	told := [2]int{}
	for i := range 5000 {
		e := anyConfigs(next)[0]
		if ensemble.Check(e) != api.OK {
			continue
		}
		w := newCrowd(t, fmt.Sprint("crowd ", i), e, next(256), next)
		w.stir()
		w.settle()
		want := w.most()
		told[min(want, 1)]++
		w.wantAll(want)
	}
	if min(told[0], told[1]) < 500 {
		t.Errorf("none is told %d times, one %d times", told[0], told[1])
	}
}

// TestWhoIsToldIsThere: whatever comes late, twice or never, who tells one tells a voter that is there, and for which it votes.
func TestWhoIsToldIsThere(t *testing.T) {
	next := testkit.Walk()
	for i := range 2000 {
		e := anyConfigs(next)[0]
		if ensemble.Check(e) != api.OK {
			continue
		}
		w := newCrowd(t, fmt.Sprint("crowd ", i), e, next(256), next)
		w.stir()
		for id, c := range w.l {
			if c == nil {
				continue
			}
			c.Tick()
			got, ok := c.Tick()
			if ok && (got != c.Vote().Leader || !ensemble.Voter(e, got) || w.l[got] == nil) {
				t.Errorf("%s: %d tells %d", w.what, id, got)
			}
		}
	}
}

// TestNextRound: when the one that was told is away, the next one is chosen likewise, though some hear only of others that a round has begun.
func TestNextRound(t *testing.T) {
	next := testkit.Walk()
	for i := range 500 {
		e := voters(1, 2, 3, 4, 5)
		w := newCrowd(t, fmt.Sprint("crowd ", i), e, 1<<6|1<<7, next)
		w.settle()
		first := w.most()
		w.wantAll(first)
		w.l[first] = nil
		begins := first%5 + 1
		for id, c := range w.l {
			if c != nil && (id == begins || next(2) == 0) {
				w.has[id].zxid += api.Zxid(next(3))
				c.Begin(w.has[id].epoch, w.has[id].zxid, []api.Ensemble{e})
			}
		}
		w.stir()
		w.settle()
		w.wantAll(w.most())
	}
}
