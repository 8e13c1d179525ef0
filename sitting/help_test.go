package sitting_test

import (
	"cmp"
	"slices"
	"testing"

	"beadle/api"
	"beadle/sitting"
)

const (
	maxTimeout = 1000
	latest     = 1 << 60
)

// guest: a session of the model, when it was heard of last, and its timeout.
type guest struct {
	session, heard int64
	timeout        int
}

// model: a book as the chapter's Words tell it, its sessions in a row; ends are reckoned when they are asked for.
type model struct {
	now    int64
	guests []guest
}

func newModel(now int64) *model {
	if now < 0 {
		return &model{now: 0}
	}
	if now > 1152921504606846976 {
		return &model{now: 1152921504606846976}
	}
	return &model{now: now}
}

func (g guest) end() int64 {
	end := g.heard + int64(g.timeout)
	for end%4 != 0 {
		end++
	}
	return end
}

func (m *model) at(session int64) int {
	return slices.IndexFunc(m.guests, func(g guest) bool { return g.session == session })
}

func (m *model) add(session int64, timeout int) api.Errno {
	if session <= 0 || timeout <= 0 || timeout >= 1001 {
		return api.ErrArg
	}
	m.remove(session)
	m.guests = append(m.guests, guest{session, m.now, timeout})
	return api.OK
}

func (m *model) touch(session int64) bool {
	i := m.at(session)
	if i < 0 {
		return false
	}
	m.guests[i].heard = m.now
	return true
}

func (m *model) remove(session int64) bool {
	i := m.at(session)
	if i < 0 {
		return false
	}
	m.guests = slices.Delete(m.guests, i, i+1)
	return true
}

func (m *model) tick(now int64) []int64 {
	if now > m.now && now <= 1152921504606846976 {
		m.now = now
	}
	isOver := func(g guest) bool { return g.end() <= m.now }
	over := inOrder(m.guests, isOver)
	m.guests = slices.DeleteFunc(m.guests, isOver)
	return over
}

func (m *model) all() []int64 {
	return inOrder(m.guests, func(guest) bool { return true })
}

// inOrder: the sessions of which is asks, each put ahead of the first greater one.
func inOrder(guests []guest, is func(guest) bool) []int64 {
	var out []int64
	for _, g := range guests {
		if !is(g) {
			continue
		}
		i := 0
		for i < len(out) && out[i] < g.session {
			i++
		}
		out = slices.Insert(out, i, g.session)
	}
	return out
}

func checkAdd(t *testing.T, what string, b *sitting.Book, session int64, timeout int, want api.Errno) {
	t.Helper()
	if got := b.Add(session, timeout); got != want {
		t.Errorf("%s: Add(%d, %d): %v, want %v", what, session, timeout, got, want)
	}
}

func checkTouch(t *testing.T, what string, b *sitting.Book, session int64, want bool) {
	t.Helper()
	if got := b.Touch(session); got != want {
		t.Errorf("%s: Touch(%d): %v", what, session, got)
	}
}

func checkRemove(t *testing.T, what string, b *sitting.Book, session int64, want bool) {
	t.Helper()
	if got := b.Remove(session); got != want {
		t.Errorf("%s: Remove(%d): %v", what, session, got)
	}
}

func checkTick(t *testing.T, what string, b *sitting.Book, now int64, want ...int64) {
	t.Helper()
	if got := b.Tick(now); !slices.Equal(got, want) {
		t.Errorf("%s: Tick(%d): %v, want %v", what, now, got, want)
	}
}

func checkAll(t *testing.T, what string, b *sitting.Book, want ...int64) {
	t.Helper()
	if got := b.All(); !slices.Equal(got, want) {
		t.Errorf("%s: All: %v, want %v", what, got, want)
	}
}

// checkEnd: the session is over at end, and not sooner.
func checkEnd(t *testing.T, what string, b *sitting.Book, session, end int64) {
	t.Helper()
	checkTick(t, what, b, end-1)
	checkTick(t, what, b, end, session)
	checkTick(t, what+", told", b, end)
	checkTouch(t, what+", told", b, session, false)
}

// checkNow: it is now for the book, which has no sessions.
func checkNow(t *testing.T, what string, b *sitting.Book, now int64) {
	t.Helper()
	m := newModel(now)
	for timeout := range 4 {
		session := int64(timeout + 1)
		checkAdd(t, what, b, session, timeout+1, m.add(session, timeout+1))
	}
	checkLast(t, what, b, m)
}

// checkLast: the book has the sessions of the model, and each of them the same end. Nothing but ticks goes on behind that.
func checkLast(t *testing.T, what string, b *sitting.Book, m *model) {
	t.Helper()
	checkAll(t, what, b, m.all()...)
	guests := slices.Clone(m.guests)
	slices.SortFunc(guests, func(a, b guest) int { return cmp.Compare(a.end(), b.end()) })
	for _, g := range guests {
		for _, now := range []int64{g.end() - 1, g.end()} {
			checkTick(t, what, b, now, m.tick(now)...)
		}
		checkAll(t, what, b, m.all()...)
	}
}
