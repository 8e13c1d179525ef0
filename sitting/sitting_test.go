package sitting_test

import (
	"fmt"
	"math"
	"slices"
	"testing"

	"beadle/api"
	"beadle/sitting"
	"beadle/testkit"
)

// The chapter's examples.

func TestExampleOfASession(t *testing.T) {
	b := sitting.New(0)
	checkAdd(t, "7", b, 7, 5, api.OK)
	checkTick(t, "ahead of its end", b, 7)
	checkTouch(t, "ahead of its end", b, 7, true)
	checkTick(t, "touched", b, 11)
	checkTick(t, "its end", b, 12, 7)
	checkTick(t, "told", b, 12)
	checkTouch(t, "told", b, 7, false)
}

func TestExampleOfWrongArguments(t *testing.T) {
	b := sitting.New(0)
	checkAdd(t, "no session", b, 0, 5, api.ErrArg)
	checkAdd(t, "no timeout", b, 1, 0, api.ErrArg)
	checkAdd(t, "too long a timeout", b, 1, 1001, api.ErrArg)
	checkTick(t, "back", b, -5)
	checkNow(t, "back", b, 0)
}

// P17.1

func TestNewBookHasNoSessions(t *testing.T) {
	for _, now := range []int64{math.MinInt64, -1, 0, 5, latest, math.MaxInt64} {
		b := sitting.New(now)
		if b == nil {
			t.Fatalf("New(%d): none", now)
		}
		what := fmt.Sprintf("New(%d)", now)
		for _, session := range []int64{math.MinInt64, -1, 0, 1, 4, math.MaxInt64} {
			checkTouch(t, what, b, session, false)
			checkRemove(t, what, b, session, false)
		}
		checkAll(t, what, b)
		for _, then := range []int64{math.MinInt64, -1, 0, 1, 4, latest, latest + 1, math.MaxInt64} {
			checkTick(t, what, b, then)
		}
		checkAll(t, what+", ticked", b)
	}
}

func TestTimeOfANewBook(t *testing.T) {
	for now := range int64(20) {
		checkNow(t, fmt.Sprintf("New(%d)", now), sitting.New(now), now)
	}
	for _, now := range []int64{999, 1 << 31, 1<<32 - 1, 1<<32 + 1, 1 << 53, 1<<53 + 1, latest - 9, latest - 8, latest - 7} {
		checkNow(t, fmt.Sprintf("New(%d)", now), sitting.New(now), now)
	}
	for _, now := range []int64{-1, -2, -3, -4, -5, -1000, -1 << 32, -1 << 60, -1<<60 - 1, math.MinInt64, math.MinInt64 + 1} {
		checkNow(t, fmt.Sprintf("New(%d)", now), sitting.New(now), 0)
	}
}

// No tick comes behind 2^60: a session whose end lies there stays.
func TestTimeOfABookAtTheLast(t *testing.T) {
	for _, now := range []int64{latest - 1, latest, latest + 1, latest + 4, 1<<62 + 1, math.MaxInt64 - 1000, math.MaxInt64 - 3, math.MaxInt64} {
		for _, timeout := range []int{1, 2, 3, 4, 999, maxTimeout} {
			what := fmt.Sprintf("New(%d), a timeout of %d", now, timeout)
			b, m := sitting.New(now), newModel(now)
			checkAdd(t, what, b, 7, timeout, m.add(7, timeout))
			for _, then := range []int64{0, latest - 1, latest, latest + 1, latest + 4, latest + 2000, math.MaxInt64} {
				checkTick(t, what, b, then, m.tick(then)...)
			}
			checkAll(t, what, b, m.all()...)
		}
	}
}

func TestBooksAreTheirOwn(t *testing.T) {
	a, b := sitting.New(0), sitting.New(0)
	checkAdd(t, "one", a, 1, 4, api.OK)
	checkAll(t, "the other one", b)
	checkTick(t, "the other one", b, 100)
	checkRemove(t, "the other one", b, 1, false)
	checkAdd(t, "the other one", b, 2, 4, api.OK)
	checkAll(t, "one", a, 1)
	checkEnd(t, "one", a, 1, 4)
	checkEnd(t, "the other one", b, 2, 104)
}

// P17.2

func TestEnds(t *testing.T) {
	for _, x := range []struct {
		now     int64
		timeout int
		end     int64
	}{
		{0, 1, 4}, {0, 2, 4}, {0, 3, 4}, {0, 4, 4}, {0, 5, 8}, {0, 8, 8}, {0, 9, 12},
		{1, 1, 4}, {1, 2, 4}, {1, 3, 4}, {1, 4, 8}, {1, 7, 8}, {1, 8, 12},
		{2, 1, 4}, {2, 2, 4}, {2, 3, 8}, {3, 1, 4}, {3, 2, 8}, {4, 1, 8}, {4, 4, 8}, {4, 5, 12},
		{0, 999, 1000}, {0, 1000, 1000}, {1, 999, 1000}, {1, 1000, 1004}, {7, 1000, 1008}, {8, 1000, 1008},
		{1 << 40, 4, 1<<40 + 4}, {1<<53 + 1, 3, 1<<53 + 4}, {1<<53 + 1, 4, 1<<53 + 8},
		{latest - 1000, 1000, latest}, {latest - 1000, 997, latest}, {latest - 4, 1, latest}, {latest - 1, 1, latest},
	} {
		what := fmt.Sprintf("a timeout of %d at %d", x.timeout, x.now)
		b := sitting.New(x.now)
		checkAdd(t, what, b, 7, x.timeout, api.OK)
		checkAll(t, what, b, 7)
		checkEnd(t, what, b, 7, x.end)
		checkAll(t, what+", told", b)
	}
}

func TestEachTimeout(t *testing.T) {
	for timeout := 1; timeout <= maxTimeout; timeout++ {
		for now := range int64(4) {
			what := fmt.Sprintf("a timeout of %d at %d", timeout, now)
			b, m := sitting.New(now), newModel(now)
			checkAdd(t, what, b, 7, timeout, m.add(7, timeout))
			checkLast(t, what, b, m)
		}
	}
}

func TestEachSessionMayBe(t *testing.T) {
	b, m := sitting.New(0), newModel(0)
	for _, session := range []int64{1, 2, 3, 1<<31 - 1, 1 << 31, 1<<32 - 1, 1 << 32, 1<<32 + 1, 1 << 53, 1<<53 + 1, 1<<62 + 1, math.MaxInt64 - 1, math.MaxInt64} {
		checkAdd(t, "sessions", b, session, 5, m.add(session, 5))
	}
	checkLast(t, "sessions", b, m)
}

func TestWrongArgumentsChangeNothing(t *testing.T) {
	// Sessions and timeouts that would do if they were narrowed are among them.
	wrongSessions := []int64{0, -1, -2, -7, -1 << 32, -1<<32 + 7, math.MinInt64, math.MinInt64 + 7}
	wrongTimeouts := []int{0, -1, -5, -1000, 1001, 1002, 1 << 31, 1 << 32, 1<<32 + 5, 1<<32 + 1000, math.MaxInt, math.MinInt, math.MinInt + 5}
	type arguments struct {
		session int64
		timeout int
	}
	var wrong []arguments
	for _, session := range wrongSessions {
		for _, timeout := range append([]int{1, 5, 1000}, wrongTimeouts...) {
			wrong = append(wrong, arguments{session, timeout})
		}
	}
	for _, session := range []int64{1, 7, 8, math.MaxInt64} {
		for _, timeout := range wrongTimeouts {
			wrong = append(wrong, arguments{session, timeout})
		}
	}
	for _, x := range wrong {
		what := fmt.Sprintf("Add(%d, %d)", x.session, x.timeout)
		b := sitting.New(0)
		checkAdd(t, what, b, x.session, x.timeout, api.ErrArg)
		checkAll(t, what, b)
		checkAdd(t, what, b, 7, 5, api.OK)
		checkTick(t, what, b, 3)
		checkAdd(t, what, b, x.session, x.timeout, api.ErrArg)
		checkTouch(t, what, b, 8, false)
		checkAll(t, what, b, 7)
		checkEnd(t, what, b, 7, 8)

		b = sitting.New(0)
		checkAdd(t, what, b, 7, 5, api.OK)
		checkAdd(t, what, b, x.session, x.timeout, api.ErrArg)
		checkTick(t, what, b, 6)
		checkTouch(t, what, b, 7, true)
		checkEnd(t, what+", touched behind it", b, 7, 12)
	}
}

func TestAddOfASessionThatIsThere(t *testing.T) {
	for _, old := range []int{8, 9, 20, 1000} {
		for _, timeout := range []int{1, 2, 8, 9, 10, 20, 1000} {
			what := fmt.Sprintf("a timeout of %d, then of %d", old, timeout)
			b, m := sitting.New(0), newModel(0)
			checkAdd(t, what, b, 7, old, m.add(7, old))
			checkTick(t, what, b, 7, m.tick(7)...)
			checkAdd(t, what, b, 7, timeout, m.add(7, timeout))
			checkAll(t, what, b, 7)
			checkLast(t, what, b, m)

			b, m = sitting.New(0), newModel(0)
			checkAdd(t, what, b, 7, old, m.add(7, old))
			checkAdd(t, what, b, 7, timeout, m.add(7, timeout))
			checkTick(t, what, b, 2, m.tick(2)...)
			checkTouch(t, what, b, 7, m.touch(7))
			checkLast(t, what+", touched", b, m)
		}
	}
}

func TestTouchBeginsItsOwnTimeout(t *testing.T) {
	b := sitting.New(0)
	checkAdd(t, "added", b, 1, 5, api.OK)
	checkAdd(t, "added", b, 2, 6, api.OK)
	checkAdd(t, "added", b, 3, 100, api.OK)
	checkTick(t, "7", b, 7)
	checkTouch(t, "7", b, 2, true)
	checkTouch(t, "7", b, 2, true)
	checkAll(t, "7", b, 1, 2, 3)
	checkTick(t, "1, which was not touched", b, 8, 1)
	checkTick(t, "behind that", b, 15)
	checkTouch(t, "behind that", b, 3, true)
	checkTick(t, "2, which was touched", b, 16, 2)
	checkEnd(t, "3, which was touched", b, 3, 116)
}

func TestTouchOfNone(t *testing.T) {
	b := sitting.New(0)
	checkAdd(t, "added", b, 7, 5, api.OK)
	checkTick(t, "added", b, 5)
	for _, session := range []int64{math.MinInt64, -7, -1, 0, 1, 6, 8, 1<<32 + 7, math.MaxInt64} {
		checkTouch(t, "of none", b, session, false)
		checkRemove(t, "of none", b, session, false)
		checkAll(t, "of none", b, 7)
	}
	checkEnd(t, "of none", b, 7, 8)
}

func TestTouchAgainAndAgain(t *testing.T) {
	b := sitting.New(0)
	// The least timeout that a touch at each time holds up: one of 1, touched at 3, is over at 4.
	checkAdd(t, "added", b, 7, 2, api.OK)
	for now := range int64(1000) {
		checkTick(t, "touched at each time", b, now)
		checkTouch(t, "touched at each time", b, 7, true)
		if t.Failed() {
			t.FailNow()
		}
	}
	checkEnd(t, "touched no more", b, 7, 1004)
}

func TestRemove(t *testing.T) {
	b := sitting.New(0)
	for session := int64(1); session <= 3; session++ {
		checkAdd(t, "added", b, session, 5, api.OK)
	}
	checkRemove(t, "2", b, 2, true)
	checkAll(t, "removed", b, 1, 3)
	checkRemove(t, "removed", b, 2, false)
	checkTouch(t, "removed", b, 2, false)
	checkAll(t, "removed, touched", b, 1, 3)
	checkTick(t, "removed", b, 8, 1, 3)
	checkTick(t, "removed", b, 100)

	checkAdd(t, "anew", b, 2, 9, api.OK)
	checkRemove(t, "anew", b, 2, true)
	checkAdd(t, "anew", b, 2, 2, api.OK)
	checkTick(t, "anew", b, 101)
	checkTouch(t, "anew", b, 2, true)
	checkEnd(t, "anew", b, 2, 104)
	checkRemove(t, "told", b, 2, false)
}

func TestATickForgetsTimeouts(t *testing.T) {
	b := sitting.New(0)
	checkAdd(t, "added", b, 7, 100, api.OK)
	checkTick(t, "over", b, 100, 7)
	checkAdd(t, "anew", b, 7, 4, api.OK)
	checkTouch(t, "anew", b, 7, true)
	checkEnd(t, "anew", b, 7, 104)
}

// P17.3

func TestTimeStays(t *testing.T) {
	for _, now := range []int64{0, 1, 5, 1000, 1 << 40, latest - 2000} {
		for _, none := range []int64{math.MinInt64, -1 << 60, -1, 0, now - 5, now - 1, now, latest + 1, latest + 2, latest + 4, 1 << 61, math.MaxInt64 - 3, math.MaxInt64} {
			if none > now && none <= latest {
				continue
			}
			what := fmt.Sprintf("Tick(%d) at %d", none, now)
			b, m := sitting.New(0), newModel(0)
			checkTick(t, what, b, now, m.tick(now)...)
			checkAdd(t, what, b, 1, 1, m.add(1, 1))
			checkAdd(t, what, b, 2, 1000, m.add(2, 1000))
			checkTick(t, what, b, none)
			checkTick(t, what, b, none)
			checkAdd(t, what, b, 3, 5, m.add(3, 5))
			checkTouch(t, what, b, 2, m.touch(2))
			checkLast(t, what, b, m)
		}
	}
}

func TestTimeGoesOn(t *testing.T) {
	for _, now := range []int64{1, 2, 3, 4, 5, 1000, 1<<32 + 1, 1<<53 + 1, latest - 2000, latest - 8} {
		what := fmt.Sprintf("Tick(%d)", now)
		b := sitting.New(0)
		checkTick(t, what, b, now)
		checkNow(t, what, b, now)
	}
}

func TestTheLastTick(t *testing.T) {
	b := sitting.New(0)
	checkAdd(t, "added", b, 1, 5, api.OK)
	checkTick(t, "beyond the last", b, latest+1)
	checkTick(t, "the last", b, latest, 1)
	checkAdd(t, "at the last", b, 2, 1, api.OK)
	checkTick(t, "at the last", b, latest)
	checkTick(t, "beyond the last", b, latest+4)
	checkTick(t, "beyond the last", b, math.MaxInt64)
	checkAll(t, "at the last", b, 2)
	checkTouch(t, "at the last", b, 2, true)
	checkRemove(t, "at the last", b, 2, true)
}

func TestToldByRisingNumbers(t *testing.T) {
	next := testkit.Walk()
	for range 20 {
		b := sitting.New(0)
		var left, want []int64
		for i := range int64(api.MaxSittings) {
			left = append(left, 1+i*i*i*7)
		}
		want = slices.Clone(left)
		for len(left) > 0 {
			i := next(len(left))
			checkAdd(t, "mixed", b, left[i], 1+next(4), api.OK)
			left = slices.Delete(left, i, i+1)
		}
		for range 3 {
			checkAll(t, "mixed", b, want...)
		}
		checkTick(t, "mixed", b, 3)
		checkTick(t, "mixed", b, 4, want...)
		checkAll(t, "told", b)
	}
}

func TestOneTickTellsManyEnds(t *testing.T) {
	b := sitting.New(0)
	for i, timeout := range []int{1000, 4, 500, 1, 9, 400, 401} {
		checkAdd(t, "added", b, int64(10-i), timeout, api.OK)
	}
	checkTick(t, "far on", b, 402, 5, 6, 7, 9)
	checkAll(t, "far on", b, 4, 8, 10)
	checkTick(t, "farther on", b, 403)
	checkTick(t, "farther on", b, 404, 4)
	checkTick(t, "to the end", b, latest, 8, 10)
	checkAll(t, "to the end", b)
}

// P17.4

func TestToldOnceNeitherTooSoonNorTooLate(t *testing.T) {
	next := testkit.Walk()
	for round := range 100 {
		now := int64(next(5))
		b := sitting.New(now)
		due := map[int64]guest{}
		for range 400 {
			session := int64(1 + next(6))
			switch next(6) {
			case 0:
				timeout := 1 + next([]int{3, 12, maxTimeout}[round%3])
				checkAdd(t, "row", b, session, timeout, api.OK)
				due[session] = guest{session, now, timeout}
			case 1:
				g, ok := due[session]
				checkTouch(t, "row", b, session, ok)
				if ok {
					due[session] = guest{session, now, g.timeout}
				}
			case 2:
				_, ok := due[session]
				checkRemove(t, "row", b, session, ok)
				delete(due, session)
			default:
				now += int64(next([]int{3, 9, 300}[next(3)]))
				checkDue(t, now, b.Tick(now), due)
			}
			if t.Failed() {
				t.FailNow()
			}
		}
	}
}

// checkDue: of those that are due each one told has had its timeout, and none that is left has had it and 4 ticks more; who is told is due no more.
func checkDue(t *testing.T, now int64, told []int64, due map[int64]guest) {
	t.Helper()
	for _, session := range told {
		g, ok := due[session]
		if !ok {
			t.Errorf("%d is told at %d, and is not there", session, now)
		}
		if now-g.heard < int64(g.timeout) {
			t.Errorf("%d with a timeout of %d, heard of at %d, is told at %d", session, g.timeout, g.heard, now)
		}
		delete(due, session)
	}
	for session, g := range due {
		if now-g.heard >= int64(g.timeout)+4 {
			t.Errorf("%d with a timeout of %d, heard of at %d, is not told at %d", session, g.timeout, g.heard, now)
		}
	}
}

// R5

func TestNoBook(t *testing.T) {
	var none *sitting.Book
	for what, b := range map[string]*sitting.Book{"nil": none, "one that nobody made": {}, "new": new(sitting.Book)} {
		for range 2 {
			for _, session := range []int64{math.MinInt64, 0, 1, 7, math.MaxInt64} {
				for _, timeout := range []int{math.MinInt, 0, 1, 1000, 1001} {
					checkAdd(t, what, b, session, timeout, api.ErrNil)
				}
				checkTouch(t, what, b, session, false)
				checkRemove(t, what, b, session, false)
			}
			for _, now := range []int64{math.MinInt64, -1, 0, 1, latest, math.MaxInt64} {
				if told := b.Tick(now); told != nil {
					t.Errorf("%s: Tick(%d): %v", what, now, told)
				}
			}
			if all := b.All(); all != nil {
				t.Errorf("%s: All: %v", what, all)
			}
		}
	}
}

// R3

func TestListsAreNew(t *testing.T) {
	for count := int64(1); count < 20; count++ {
		b, m := sitting.New(0), newModel(0)
		for session := int64(1); session <= 2*count; session++ {
			timeout := 4 + 4*int(session%2)
			checkAdd(t, "added", b, session, timeout, m.add(session, timeout))
		}
		one, two, all := b.All(), b.All(), m.all()
		testkit.Spoil(one, 99)
		if !slices.Equal(two, all) {
			t.Errorf("two lists of all share memory: %v", two)
		}
		checkAll(t, "spoilt", b, all...)

		want, wantThen := m.tick(4), m.tick(8)
		over := b.Tick(4)
		kept := append(over, 98)
		then := b.Tick(8)
		if !slices.Equal(kept, append(slices.Clone(want), 98)) {
			t.Errorf("a list changes as the book goes on: %v", kept)
		}
		testkit.Spoil(over, 97)
		testkit.Spoil(kept, 97)
		if !slices.Equal(then, wantThen) {
			t.Errorf("two ticks share memory: %v", then)
		}
		if !slices.Equal(two, all) {
			t.Errorf("a list of all changes as the book goes on: %v", two)
		}
		checkAll(t, "told", b)
	}
}

// All promises at once.

// act: one thing done to a book and to its model, whose answers must agree.
type act struct {
	what string
	do   func(*testing.T, string, *sitting.Book, *model)
}

func adds(session int64, timeout int) act {
	return act{fmt.Sprintf("Add(%d, %d)", session, timeout), func(t *testing.T, what string, b *sitting.Book, m *model) {
		checkAdd(t, what, b, session, timeout, m.add(session, timeout))
	}}
}

func touches(session int64) act {
	return act{fmt.Sprintf("Touch(%d)", session), func(t *testing.T, what string, b *sitting.Book, m *model) {
		checkTouch(t, what, b, session, m.touch(session))
	}}
}

func removes(session int64) act {
	return act{fmt.Sprintf("Remove(%d)", session), func(t *testing.T, what string, b *sitting.Book, m *model) {
		checkRemove(t, what, b, session, m.remove(session))
	}}
}

func ticks(now int64) act {
	return act{fmt.Sprintf("Tick(%d)", now), func(t *testing.T, what string, b *sitting.Book, m *model) {
		checkTick(t, what, b, now, m.tick(now)...)
	}}
}

func tells() act {
	return act{"All()", func(t *testing.T, what string, b *sitting.Book, m *model) {
		checkAll(t, what, b, m.all()...)
	}}
}

// runRow does the acts to a new book, and looks at all that is left behind them.
func runRow(t *testing.T, row []act, now int64) {
	t.Helper()
	b, m, past := sitting.New(now), newModel(now), ""
	for _, x := range row {
		past += x.what + " "
		x.do(t, past, b, m)
	}
	checkLast(t, past, b, m)
	if t.Failed() {
		t.FailNow()
	}
}

// TestAllShortRows goes through all rows of a few acts.
func TestAllShortRows(t *testing.T) {
	all := []act{
		adds(7, 5), adds(7, 9), adds(3, 3), adds(0, 5), adds(7, 1001),
		touches(7), touches(3), removes(7), removes(3),
		ticks(3), ticks(7), ticks(8), ticks(13), ticks(-1), ticks(latest + 1),
		tells(),
	}
	var goOn func(row []act, left int)
	goOn = func(row []act, left int) {
		for i, x := range all {
			longer := append(slices.Clone(row), x)
			if left == 1 {
				runRow(t, longer, int64(i%4))
			} else {
				goOn(longer, left-1)
			}
		}
	}
	goOn(nil, 4)
}

// TestLongRows goes on with one book for long, at its first times and at its last.
func TestLongRows(t *testing.T) {
	next := testkit.Walk()
	for round := range 100 {
		start := []int64{0, -9, 3, 1 << 40, latest - 3000}[round%5]
		b, m := sitting.New(start), newModel(start)
		few := []int{2, 10, 300}[round%3]
		session := func() int64 { return int64(next(few)) }
		for step := range 500 {
			var x act
			switch next(8) {
			case 0, 1:
				x = adds(session(), next([]int{20, 1010}[round%2])-1)
			case 2, 3:
				x = touches(session())
			case 4:
				x = removes(session())
			case 5:
				x = tells()
			default:
				x = ticks(m.now + int64(next([]int{4, 30}[round%2])) - 2)
			}
			what := fmt.Sprintf("round %d, step %d: %s", round, step, x.what)
			x.do(t, what, b, m)
			if t.Failed() {
				t.FailNow()
			}
		}
		checkLast(t, fmt.Sprintf("round %d", round), b, m)
	}
}

// TestSameStepsSameAnswers: what a book tells hangs on its own past alone (R4).
func TestSameStepsSameAnswers(t *testing.T) {
	tell := func() string {
		b, out := sitting.New(0), ""
		for i := range 60 {
			b.Add(int64(i*37%61), 1+i*7%20)
			b.Touch(int64(i * 5 % 61))
			out += fmt.Sprint(b.Tick(int64(i/4)), b.All(), ";")
		}
		return out
	}
	first := tell()
	for range 50 {
		if again := tell(); again != first {
			t.Fatalf("%s, and %s", first, again)
		}
	}
}
