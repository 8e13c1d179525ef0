package net_test

import (
	"fmt"
	"math"
	"slices"
	"strings"
	"testing"

	"beadle/net"
	"beadle/testkit"
)

// The chapter's examples.

func TestExampleOfABag(t *testing.T) {
	n := net.New()
	checkSend(t, "x", n, 1, 2, "x", true)
	checkSend(t, "y", n, 1, 2, "y", true)
	checkCount(t, "both", n, 1, 2, 2)
	checkCount(t, "back", n, 2, 1, 0)
	checkLinks(t, "both", n, [2]int{1, 2})
	checkTwice(t, "x", n, 1, 2, 0, true)
	checkTake(t, "first", n, 1, 2, 0, "x")
	checkTake(t, "second", n, 1, 2, 1, "x")
	checkNone(t, "third", n, 1, 2, 1)
	checkTake(t, "last", n, 1, 2, 0, "y")
	checkLinks(t, "all taken", n)
}

func TestExampleOfLimits(t *testing.T) {
	n, all := filled(t, 32)
	checkSend(t, "the 33rd", n, 1, 2, "x", false)
	checkNone(t, "ahead of all", n, 1, 2, -1)
	checkBag(t, "then", n, 1, 2, all...)
	var none *net.Net
	checkSend(t, "of nil", none, 1, 2, "x", false)
}

// P9.1

func TestNewNetIsEmpty(t *testing.T) {
	n := net.New()
	if n == nil {
		t.Fatal("New: none")
	}
	checkNet(t, "new", n, &model{})
	checkNone(t, "new", n, 0, 0, 0)
	checkTwice(t, "new", n, 0, 0, 0, false)
	checkNet(t, "asked for something", n, &model{})
}

func TestNetsAreTheirOwn(t *testing.T) {
	a, b := net.New(), net.New()
	checkSend(t, "a", a, 1, 2, "x", true)
	checkNet(t, "the other one", b, &model{})
	checkSend(t, "the other one", b, 1, 2, "y", true)
	checkBag(t, "a", a, 1, 2, "x")
	checkBag(t, "the other one", b, 1, 2, "y")
}

func TestSendStandsAtTheEnd(t *testing.T) {
	n := net.New()
	var want []string
	for i, b := range []string{"one", "", "two", "two", "\x00", "\xff\x00", "", strings.Repeat("long", 1000)} {
		checkSend(t, "row", n, 3, 4, b, true)
		checkCount(t, "row", n, 3, 4, i+1)
		want = append(want, b)
	}
	checkBag(t, "row", n, 3, 4, want...)
}

func TestAnEmptyPacketIsOne(t *testing.T) {
	for _, b := range [][]byte{nil, {}, make([]byte, 0, 8)} {
		n := net.New()
		if !n.Send(1, 2, b) || !n.Twice(1, 2, 0) {
			t.Errorf("a packet of no bytes is refused")
		}
		checkLinks(t, "no bytes", n, [2]int{1, 2})
		checkBag(t, "no bytes", n, 1, 2, "", "")
	}
}

func TestGreatestBag(t *testing.T) {
	for count := range maxBag + 1 {
		what := fmt.Sprintf("%d packets", count)
		n, all := filled(t, count)
		checkSend(t, what+", one more", n, 1, 2, "more", count < maxBag)
		if count < maxBag {
			all = append(all, "more")
		}
		checkCount(t, what, n, 1, 2, len(all))
		checkBag(t, what, n, 1, 2, all...)
	}
	n, all := filled(t, maxBag)
	for _, b := range []string{"", "x", strings.Repeat("x", maxBytes), strings.Repeat("x", maxBytes+1)} {
		checkSend(t, "full", n, 1, 2, b, false)
	}
	for _, l := range [][2]int{{2, 1}, {1, 1}, {2, 2}, {1, 3}, {3, 2}, {-1, -2}, {0, 0}} {
		checkSend(t, "another link", n, l[0], l[1], "x", true)
	}
	checkTake(t, "full", n, 1, 2, 5, "p5")
	checkSend(t, "with room again", n, 1, 2, "new", true)
	checkSend(t, "full again", n, 1, 2, "newer", false)
	checkBag(t, "full again", n, 1, 2, append(slices.Delete(all, 5, 6), "new")...)
}

func TestGreatestPacket(t *testing.T) {
	for _, size := range []int{maxBytes - 1, maxBytes} {
		b := strings.Repeat("ab", size/2) + strings.Repeat("c", size%2)
		n := net.New()
		checkSend(t, "long", n, 1, 2, b, true)
		checkTwice(t, "long", n, 1, 2, 0, true)
		checkBag(t, "long", n, 1, 2, b, b)
	}
	for _, size := range []int{maxBytes + 1, maxBytes + 2, 2 * maxBytes, 1 << 22} {
		n := net.New()
		checkSend(t, "too long", n, 1, 2, strings.Repeat("a", size), false)
		checkNet(t, "too long", n, &model{})
		checkSend(t, "ahead", n, 1, 2, "x", true)
		checkSend(t, "too long", n, 1, 2, strings.Repeat("a", size), false)
		checkBag(t, "too long, behind another one", n, 1, 2, "x")
	}
	n := net.New()
	b := make([]byte, maxBytes, 2*maxBytes)
	if !n.Send(1, 2, b) {
		t.Error("spare room counts as bytes")
	}
}

// P9.2

func TestTakeAtEachPlace(t *testing.T) {
	for count := range maxBag + 1 {
		for at := range count {
			what := fmt.Sprintf("the place %d of %d", at, count)
			n, all := filled(t, count)
			checkTake(t, what, n, 1, 2, at, all[at])
			checkBag(t, what, n, 1, 2, slices.Delete(all, at, at+1)...)
		}
	}
}

func TestNothingAtNoPlace(t *testing.T) {
	for _, count := range []int{0, 1, 2, 3, 31, 32} {
		for _, at := range noPlaces(count) {
			what := fmt.Sprintf("the place %d of %d", at, count)
			n, all := filled(t, count)
			checkNone(t, what, n, 1, 2, at)
			checkTwice(t, what, n, 1, 2, at, false)
			checkCount(t, what, n, 2, 1, 0)
			checkBag(t, what, n, 1, 2, all...)
			checkLinks(t, what, n)
		}
	}
}

func TestTwiceAtEachPlace(t *testing.T) {
	for count := range maxBag + 1 {
		for at := range count {
			what := fmt.Sprintf("the place %d of %d", at, count)
			n, all := filled(t, count)
			checkTwice(t, what, n, 1, 2, at, count < maxBag)
			if count < maxBag {
				all = append(all, all[at])
			}
			checkBag(t, what, n, 1, 2, all...)
		}
	}
}

func TestTwiceTillTheBagIsFull(t *testing.T) {
	n := net.New()
	checkSend(t, "one", n, 1, 2, "x", true)
	for i := 1; i < maxBag; i++ {
		checkTwice(t, "once more", n, 1, 2, i-1, true)
		checkCount(t, "once more", n, 1, 2, i+1)
	}
	checkTwice(t, "full", n, 1, 2, 0, false)
	checkSend(t, "full", n, 1, 2, "y", false)
	for range maxBag {
		checkTake(t, "all", n, 1, 2, 0, "x")
	}
	checkTwice(t, "all taken", n, 1, 2, 0, false)
	checkLinks(t, "all taken", n)
}

func TestClear(t *testing.T) {
	nodes := []int{-1, 0, 1, 2}
	for _, a := range nodes {
		for _, b := range nodes {
			what := fmt.Sprintf("Clear(%d, %d)", a, b)
			n, m := net.New(), &model{}
			for _, from := range nodes {
				for _, to := range nodes {
					for i := range 2 {
						x := fmt.Sprintf("%d to %d, %d", from, to, i)
						checkSend(t, what, n, from, to, x, m.send(from, to, x))
					}
				}
			}
			n.Clear(a, b)
			m.clear(a, b)
			checkCount(t, what, n, a, b, 0)
			checkCount(t, what, n, b, a, 0)
			checkNone(t, what, n, a, b, 0)
			checkTwice(t, what, n, b, a, 0, false)
			checkNet(t, what, n, m)
			n.Clear(b, a)
			checkNet(t, what+", again the other way", n, m)
			checkSend(t, what, n, b, a, "new", m.send(b, a, "new"))
			checkNet(t, what+", sent anew", n, m)
			checkDrained(t, what, n, m, 0)
		}
	}
}

func TestClearOfOneWay(t *testing.T) {
	for _, l := range [][2]int{{1, 2}, {2, 1}} {
		n := net.New()
		checkSend(t, "one way", n, l[0], l[1], "x", true)
		n.Clear(1, 2)
		checkNet(t, "one way", n, &model{})
	}
	n := net.New()
	n.Clear(1, 2)
	n.Clear(3, 3)
	n.Clear(math.MinInt, math.MaxInt)
	checkNet(t, "of nothing", n, &model{})
}

func TestClearOfAFullBag(t *testing.T) {
	n, _ := filled(t, maxBag)
	n.Clear(2, 1)
	for range maxBag {
		checkSend(t, "cleared", n, 1, 2, "x", true)
	}
	checkSend(t, "full again", n, 1, 2, "x", false)
}

// P9.3

func TestLinksRise(t *testing.T) {
	nodes := []int{math.MinInt, math.MinInt + 1, -1 << 32, -10, -2, -1, 0, 1, 2, 10, 1 << 32, 1<<32 + 1, math.MaxInt - 1, math.MaxInt}
	var want [][2]int
	for _, from := range nodes {
		for _, to := range nodes {
			want = append(want, [2]int{from, to})
		}
	}
	next := testkit.Walk()
	for range 10 {
		n, left := net.New(), slices.Clone(want)
		for len(left) > 0 {
			i := next(len(left))
			checkSend(t, "mixed", n, left[i][0], left[i][1], fmt.Sprint(left[i]), true)
			left = slices.Delete(left, i, i+1)
		}
		for range 3 {
			checkLinks(t, "all", n, want...)
		}
		for _, l := range want {
			checkBag(t, "all", n, l[0], l[1], fmt.Sprint(l))
		}
		checkLinks(t, "all taken", n)
	}
}

func TestLinksAreThoseWithPackets(t *testing.T) {
	n := net.New()
	for i, l := range [][2]int{{2, 1}, {1, 2}, {1, 1}, {2, 1}} {
		checkSend(t, "sent", n, l[0], l[1], fmt.Sprint(i), true)
	}
	checkLinks(t, "sent", n, [2]int{1, 1}, [2]int{1, 2}, [2]int{2, 1})
	checkTake(t, "one of two", n, 2, 1, 1, "3")
	checkLinks(t, "one of two", n, [2]int{1, 1}, [2]int{1, 2}, [2]int{2, 1})
	checkTake(t, "the other one", n, 2, 1, 0, "0")
	checkLinks(t, "the other one", n, [2]int{1, 1}, [2]int{1, 2})
	checkSend(t, "too long", n, 9, 9, strings.Repeat("x", maxBytes+1), false)
	checkNone(t, "none", n, 8, 8, 0)
	checkTwice(t, "none", n, 7, 7, 0, false)
	checkCount(t, "none", n, 6, 6, 0)
	checkLinks(t, "asked of others", n, [2]int{1, 1}, [2]int{1, 2})
	n.Clear(1, 1)
	checkLinks(t, "cleared", n, [2]int{1, 2})
	n.Clear(2, 1)
	checkLinks(t, "cleared", n)
	checkSend(t, "anew", n, 2, 1, "x", true)
	checkLinks(t, "anew", n, [2]int{2, 1})
}

// P9.4

func TestOneLinkChangesNoOther(t *testing.T) {
	others := [][2]int{{2, 1}, {1, 1}, {2, 2}, {1, 3}, {3, 2}, {-1, 2}, {1, -2}, {-1, -2}, {12, 0}, {0, 12}, {1, 2 + 1<<32}, {1 + 1<<32, 2}}
	for what, change := range map[string]func(*net.Net){
		"Send":  func(n *net.Net) { n.Send(1, 2, []byte("more")) },
		"Take":  func(n *net.Net) { n.Take(1, 2, 1) },
		"empty": func(n *net.Net) { n.Take(1, 2, 2); n.Take(1, 2, 0); n.Take(1, 2, 0) },
		"Twice": func(n *net.Net) { n.Twice(1, 2, 1) },
		"full": func(n *net.Net) {
			for range maxBag {
				n.Twice(1, 2, 0)
			}
		},
	} {
		n, _ := filled(t, 3)
		m := &model{}
		for i, l := range others {
			for j := range i%3 + 1 {
				x := fmt.Sprintf("%v, %d", l, j)
				checkSend(t, what, n, l[0], l[1], x, m.send(l[0], l[1], x))
			}
		}
		change(n)
		for range maxBag {
			n.Take(1, 2, 0)
		}
		checkNet(t, what, n, m)
		checkDrained(t, what, n, m, 1)
	}
}

func TestTakenAsOftenAsSentAndDoubled(t *testing.T) {
	next := testkit.Walk()
	for range 200 {
		n, may := net.New(), map[string]int{}
		for i := range 100 {
			from, to, at := next(2), next(2), next(5)
			switch next(4) {
			case 0:
				b := fmt.Sprintf("%d to %d, %d", from, to, i)
				if n.Send(from, to, []byte(b)) {
					may[b]++
				}
			case 1, 2:
				b, ok := n.Take(from, to, at)
				if !ok {
					continue
				}
				if !strings.HasPrefix(string(b), fmt.Sprintf("%d to %d,", from, to)) {
					t.Fatalf("on the link from %d to %d %q was taken", from, to, b)
				}
				if may[string(b)]--; may[string(b)] < 0 {
					t.Fatalf("%q was taken too often", b)
				}
			case 3:
				if !n.Twice(from, to, at) {
					continue
				}
				// What was doubled is told by taking it off the end, to which it then comes back.
				b, ok := n.Take(from, to, n.Count(from, to)-1)
				if !ok || may[string(b)] < 1 || !n.Send(from, to, b) {
					t.Fatalf("%q was doubled, though it is not on its way", b)
				}
				may[string(b)]++
			}
		}
	}
}

// R5

func TestNoNet(t *testing.T) {
	var none *net.Net
	for what, n := range map[string]*net.Net{"nil": none, "one that nobody made": {}, "new": new(net.Net)} {
		for range 2 {
			for _, b := range []string{"", "x", strings.Repeat("x", maxBytes+1)} {
				checkSend(t, what, n, 1, 2, b, false)
			}
			if n.Send(1, 2, nil) {
				t.Errorf("%s: Send of no bytes", what)
			}
			for _, at := range []int{math.MinInt, -1, 0, 1, math.MaxInt} {
				checkNone(t, what, n, 1, 2, at)
				checkTwice(t, what, n, 1, 2, at, false)
			}
			n.Clear(1, 2)
			n.Clear(0, 0)
			checkCount(t, what, n, 1, 2, 0)
			checkCount(t, what, n, 0, 0, 0)
			if n.Links() != nil {
				t.Errorf("%s: Links %v", what, n.Links())
			}
		}
	}
}

// R3

func TestBytesHandedInAreNeitherKeptNorChanged(t *testing.T) {
	for size := range 40 {
		n := net.New()
		full := []byte(strings.Repeat("b", size+20))
		for range 3 {
			if !n.Send(1, 2, full[:size]) {
				t.Fatal("Send")
			}
		}
		checkTwice(t, "doubled", n, 1, 2, 0, true)
		b, _ := n.Take(1, 2, 1)
		testkit.Spoil(b, 'Z')
		if string(full) != strings.Repeat("b", size+20) {
			t.Errorf("%d bytes handed in are changed, or the room behind them: %s", size, full)
		}
		testkit.Spoil(full, 'Z')
		want := strings.Repeat("b", size)
		checkBag(t, "changed afterwards", n, 1, 2, want, want, want)
	}
}

func TestBytesHandedOutAreNew(t *testing.T) {
	for size := range 40 {
		want := strings.Repeat("b", size)
		for at := range 4 {
			what := fmt.Sprintf("%d bytes at the place %d", size, at)
			n := net.New()
			checkSend(t, what, n, 1, 2, want, true)
			checkTwice(t, what, n, 1, 2, 0, true)
			checkTwice(t, what, n, 1, 2, 1, true)
			checkSend(t, what, n, 1, 2, want, true)
			one, _ := n.Take(1, 2, at)
			two, _ := n.Take(1, 2, at/2)
			testkit.Spoil(one, 'Z')
			if string(two) != want {
				t.Errorf("%s: two answers share memory", what)
			}
			kept := append(two, "more"...)
			checkTwice(t, what, n, 1, 2, 1, true)
			checkSend(t, what, n, 1, 2, "else", true)
			if string(kept) != want+"more" {
				t.Errorf("%s: an answer changes as the net goes on", what)
			}
			testkit.Spoil(kept, 'Z')
			testkit.Spoil(two, 'Z')
			checkBag(t, what, n, 1, 2, want, want, want, "else")
			if string(one) != strings.Repeat("Z", size) {
				t.Errorf("%s: an answer changes as the net goes on: %s", what, one)
			}
		}
	}
}

func TestLinksAreNew(t *testing.T) {
	n := net.New()
	want := [][2]int{{1, 2}, {2, 1}, {3, 3}}
	for _, l := range want {
		checkSend(t, "sent", n, l[0], l[1], "x", true)
	}
	one, two := n.Links(), n.Links()
	one = one[:cap(one)]
	for i := range one {
		one[i] = [2]int{9, 9}
	}
	if !slices.Equal(two, want) {
		t.Errorf("two lists share memory: %v", two)
	}
	checkLinks(t, "then", n, want...)
	n.Clear(1, 2)
	checkSend(t, "then", n, 0, 0, "x", true)
	if !slices.Equal(two, want) {
		t.Errorf("a list changes as the net goes on: %v", two)
	}
}

// All promises at once.

// act: one thing done to a net and to its model, whose answers must agree.
type act struct {
	what string
	do   func(*testing.T, string, *net.Net, *model)
}

func sends(from, to int, b string) act {
	return act{fmt.Sprintf("Send(%d, %d, %.20q)", from, to, b), func(t *testing.T, what string, n *net.Net, m *model) {
		checkSend(t, what, n, from, to, b, m.send(from, to, b))
	}}
}

func takes(from, to, at int) act {
	return act{fmt.Sprintf("Take(%d, %d, %d)", from, to, at), func(t *testing.T, what string, n *net.Net, m *model) {
		checkTakenLike(t, what, n, m, from, to, at)
	}}
}

func doubles(from, to, at int) act {
	return act{fmt.Sprintf("Twice(%d, %d, %d)", from, to, at), func(t *testing.T, what string, n *net.Net, m *model) {
		checkTwice(t, what, n, from, to, at, m.twice(from, to, at))
	}}
}

func clears(a, b int) act {
	return act{fmt.Sprintf("Clear(%d, %d)", a, b), func(t *testing.T, what string, n *net.Net, m *model) {
		n.Clear(a, b)
		m.clear(a, b)
	}}
}

// runRow does the acts to a new net, and looks at all that is on its way behind them.
func runRow(t *testing.T, row []act, way int) {
	t.Helper()
	n, m, past := net.New(), &model{}, ""
	for _, x := range row {
		past += x.what + " "
		x.do(t, past, n, m)
	}
	checkNet(t, past, n, m)
	checkDrained(t, past, n, m, way)
	if t.Failed() {
		t.FailNow()
	}
}

// TestAllShortRows goes through all rows of a few acts.
func TestAllShortRows(t *testing.T) {
	all := []act{
		sends(1, 2, "x"), sends(1, 2, "y"), sends(2, 1, "z"), sends(1, 1, ""),
		takes(1, 2, 0), takes(1, 2, 1), takes(2, 1, 0), takes(1, 1, -1),
		doubles(1, 2, 0), doubles(1, 2, 1), doubles(2, 1, 0), doubles(1, 1, 1),
		clears(1, 2), clears(1, 1),
	}
	var goOn func(row []act, left int)
	goOn = func(row []act, left int) {
		for i, x := range all {
			longer := append(slices.Clone(row), x)
			if left == 1 {
				runRow(t, longer, i%3)
			} else {
				goOn(longer, left-1)
			}
		}
	}
	goOn(nil, 4)
}

// TestLongRows goes on with one net for long; its bags come to be full and empty again.
func TestLongRows(t *testing.T) {
	next := testkit.Walk()
	nodes := []int{1, 2, 3, -1, math.MinInt, math.MaxInt}
	for round := range 60 {
		n, m := net.New(), &model{}
		few := round%len(nodes) + 1
		node := func() int { return nodes[next(few)] }
		for step := range 600 {
			var x act
			switch kind := next(10); {
			case kind < 4:
				x = sends(node(), node(), strings.Repeat(fmt.Sprint(step), next(4)))
			case kind < 6:
				x = doubles(node(), node(), next(36)-2)
			case kind < 9:
				x = takes(node(), node(), next(36)-2)
			case next(20) == 0:
				x = clears(node(), node())
			default:
				x = takes(node(), node(), 0)
			}
			what := fmt.Sprintf("round %d, step %d: %s", round, step, x.what)
			x.do(t, what, n, m)
			checkNet(t, what, n, m)
			if t.Failed() {
				t.FailNow()
			}
		}
		checkDrained(t, fmt.Sprintf("round %d", round), n, m, round%3)
	}
}

// TestSameStepsSameAnswers: what a net tells hangs on its own past alone (R4).
func TestSameStepsSameAnswers(t *testing.T) {
	tell := func() string {
		n, out := net.New(), ""
		for i := range 60 {
			n.Send(i*7%20, i*3%5, fmt.Append(nil, i))
			n.Twice(i%20, i%5, 0)
		}
		for _, l := range n.Links() {
			b, ok := n.Take(l[0], l[1], 0)
			out += fmt.Sprintf("%v %d %s %v;", l, n.Count(l[0], l[1]), b, ok)
		}
		return out
	}
	first := tell()
	for range 50 {
		if again := tell(); again != first {
			t.Fatalf("%s, and %s", first, again)
		}
	}
}
