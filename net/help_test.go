package net_test

import (
	"fmt"
	"math"
	"slices"
	"testing"

	"beadle/net"
)

const (
	maxBag   = 32
	maxBytes = 1 << 20
)

// parcel: a packet of the model, and where it goes.
type parcel struct {
	from, to int
	b        string
}

// model: a net as the chapter's Words tell it, the packets of all links in one row.
type model struct {
	all []parcel
}

// places: where in the row the packets of a link stand.
func (m *model) places(from, to int) []int {
	var out []int
	for i, p := range m.all {
		if p.from == from && p.to == to {
			out = append(out, i)
		}
	}
	return out
}

func (m *model) send(from, to int, b string) bool {
	if len(m.places(from, to)) == 32 || len(b) > 1048576 {
		return false
	}
	m.all = append(m.all, parcel{from, to, b})
	return true
}

func (m *model) take(from, to, at int) (string, bool) {
	for i, place := range m.places(from, to) {
		if i == at {
			b := m.all[place].b
			m.all = slices.Delete(m.all, place, place+1)
			return b, true
		}
	}
	return "", false
}

func (m *model) twice(from, to, at int) bool {
	for i, place := range m.places(from, to) {
		if i == at {
			return m.send(from, to, m.all[place].b)
		}
	}
	return false
}

func (m *model) clear(a, b int) {
	m.all = slices.DeleteFunc(m.all, func(p parcel) bool { return p.from == a && p.to == b || p.from == b && p.to == a })
}

func (m *model) links() [][2]int {
	var out [][2]int
	for _, p := range m.all {
		link := [2]int{p.from, p.to}
		if slices.Contains(out, link) {
			continue
		}
		at := 0
		for at < len(out) && (out[at][0] < link[0] || out[at][0] == link[0] && out[at][1] < link[1]) {
			at++
		}
		out = slices.Insert(out, at, link)
	}
	return out
}

// checkNet: the net tells what the model tells, of its links and those of some nodes.
func checkNet(t *testing.T, what string, n *net.Net, m *model) {
	t.Helper()
	links := m.links()
	checkLinks(t, what, n, links...)
	for from := -1; from < 4; from++ {
		for to := -1; to < 4; to++ {
			links = append(links, [2]int{from, to})
		}
	}
	for _, l := range links {
		checkCount(t, what, n, l[0], l[1], len(m.places(l[0], l[1])))
	}
}

// checkDrained: all that is on its way is as the model has it; nothing is on its way then. Packets are taken from the first, the last or the middle place.
func checkDrained(t *testing.T, what string, n *net.Net, m *model, way int) {
	t.Helper()
	for _, l := range m.links() {
		for {
			count := len(m.places(l[0], l[1]))
			if count == 0 {
				break
			}
			checkTakenLike(t, what, n, m, l[0], l[1], []int{0, count - 1, count / 2}[way])
		}
		checkNone(t, what+", drained", n, l[0], l[1], 0)
		checkCount(t, what+", drained", n, l[0], l[1], 0)
	}
	checkLinks(t, what+", drained", n)
}

// checkTakenLike: Take answers of the net what it answers of the model.
func checkTakenLike(t *testing.T, what string, n *net.Net, m *model, from, to, at int) {
	t.Helper()
	if want, ok := m.take(from, to, at); ok {
		checkTake(t, what, n, from, to, at, want)
	} else {
		checkNone(t, what, n, from, to, at)
	}
}

func checkTake(t *testing.T, what string, n *net.Net, from, to, at int, want string) {
	t.Helper()
	if b, ok := n.Take(from, to, at); string(b) != want || !ok {
		t.Errorf("%s: Take(%d, %d, %d): %.60q, %v; want %.60q", what, from, to, at, b, ok, want)
	}
}

func checkNone(t *testing.T, what string, n *net.Net, from, to, at int) {
	t.Helper()
	if b, ok := n.Take(from, to, at); b != nil || ok {
		t.Errorf("%s: Take(%d, %d, %d): %.60q, %v; want nothing", what, from, to, at, b, ok)
	}
}

func checkBag(t *testing.T, what string, n *net.Net, from, to int, want ...string) {
	t.Helper()
	checkCount(t, what, n, from, to, len(want))
	for _, b := range want {
		checkTake(t, what, n, from, to, 0, b)
	}
	checkNone(t, what, n, from, to, 0)
}

func checkSend(t *testing.T, what string, n *net.Net, from, to int, b string, want bool) {
	t.Helper()
	if got := n.Send(from, to, []byte(b)); got != want {
		t.Errorf("%s: Send(%d, %d, %.20q): %v", what, from, to, b, got)
	}
}

func checkTwice(t *testing.T, what string, n *net.Net, from, to, at int, want bool) {
	t.Helper()
	if got := n.Twice(from, to, at); got != want {
		t.Errorf("%s: Twice(%d, %d, %d): %v", what, from, to, at, got)
	}
}

func checkCount(t *testing.T, what string, n *net.Net, from, to, want int) {
	t.Helper()
	if got := n.Count(from, to); got != want {
		t.Errorf("%s: Count(%d, %d): %d, want %d", what, from, to, got, want)
	}
}

func checkLinks(t *testing.T, what string, n *net.Net, want ...[2]int) {
	t.Helper()
	if got := n.Links(); !slices.Equal(got, want) {
		t.Errorf("%s: Links %v, want %v", what, got, want)
	}
}

// filled: a net whose bag from 1 to 2 has so many packets: p0, p1 ..
func filled(t *testing.T, count int) (*net.Net, []string) {
	t.Helper()
	n := net.New()
	var all []string
	for i := range count {
		all = append(all, fmt.Sprintf("p%d", i))
		checkSend(t, "filled", n, 1, 2, all[i], true)
	}
	return n, all
}

// noPlaces: places that a bag of so many packets has not.
func noPlaces(count int) []int {
	return []int{math.MinInt, math.MinInt + 1, -1 << 32, -count - 1, -2, -1, count, count + 1, 1 << 32, 1<<32 + count/2, math.MaxInt - 1, math.MaxInt}
}
