package link_test

import (
	"fmt"
	"math"
	"testing"

	"beadle/api"
	"beadle/link"
)

const (
	maxInc   = 1 << 40
	maxLoad  = 1<<20 - 100
	maxLoads = 1000
)

// model: a link as the chapter's Words tell it. It keeps all loads of the connection, those that were acknowledged too.
type model struct {
	inc, peer  int
	all        []string
	acked, got int
}

func (m *model) waiting() int {
	return len(m.all) - m.acked
}

func (m *model) send(b string) api.Errno {
	if b == "" {
		return api.ErrArg
	}
	if len(b) > 1048476 {
		return api.ErrLong
	}
	if m.waiting() == 1000 {
		return api.ErrFull
	}
	m.all = append(m.all, b)
	return api.OK
}

func (m *model) out() api.Packet {
	if m.peer == 0 || m.waiting() == 0 {
		return api.Packet{From: m.inc, To: m.peer, Ack: m.got}
	}
	return api.Packet{From: m.inc, To: m.peer, Ack: m.got, Seq: m.acked + 1, Load: []byte(m.all[m.acked])}
}

// take: what is told, and whether something is; and whether the connection broke.
func (m *model) take(p api.Packet) (string, bool, bool) {
	if p.From <= 0 || p.From < m.peer {
		return "", false, false
	}
	broke := false
	if p.From != m.peer {
		broke = m.peer != 0
		next := model{inc: m.inc, peer: p.From}
		if !broke {
			next.all = m.all
		}
		*m = next
	}
	if p.To != m.inc {
		return "", false, broke
	}
	if m.waiting() > 0 && p.Ack-m.acked == 1 {
		m.acked++
	}
	if p.Seq-m.got != 1 {
		return "", false, broke
	}
	m.got++
	return string(p.Load), true, broke
}

func (m *model) reset(inc int) {
	if inc > m.inc && inc <= 1099511627776 {
		*m = model{inc: inc}
	}
}

// twin: a link and its model, to which the same is done.
type twin struct {
	*testing.T
	what string
	l    *link.Link
	m    *model
}

func newTwin(t *testing.T, what string, inc int) twin {
	t.Helper()
	l := link.New(inc)
	if l == nil {
		t.Fatalf("%s: New(%d) is none", what, inc)
	}
	w := twin{t, what, l, &model{inc: inc}}
	w.look("new")
	return w
}

// look: the link tells what the model tells.
func (w twin) look(what string) {
	w.Helper()
	what = w.what + ", " + what
	checkOut(w.T, what, w.l, w.m.out())
	checkWaiting(w.T, what, w.l, w.m.waiting())
	checkKnown(w.T, what, w.l, w.m.peer != 0)
}

func (w twin) send(b string) {
	w.Helper()
	checkSend(w.T, w.what, w.l, b, w.m.send(b))
	w.look(fmt.Sprintf("Send(%.20q)", b))
}

// take: what the link tells of the packet is what the model does.
func (w twin) take(p api.Packet) (string, bool, bool) {
	w.Helper()
	want, ok, broke := w.m.take(p)
	b, gotOk, gotBroke := w.l.Take(p)
	if string(b) != want || gotOk != ok || gotBroke != broke || !ok && b != nil {
		w.Errorf("%s: Take(%s): %.40q, %v, %v; want %.40q, %v, %v", w.what, tell(p), b, gotOk, gotBroke, want, ok, broke)
	}
	w.look("Take(" + tell(p) + ")")
	return want, ok, broke
}

func (w twin) reset(inc int) {
	w.Helper()
	w.l.Reset(inc)
	w.m.reset(inc)
	w.look(fmt.Sprintf("Reset(%d)", inc))
}

// drain looks at all loads that wait, as the other side acknowledges one by one.
func (w twin) drain() {
	w.Helper()
	if w.m.peer == 0 {
		w.take(api.Packet{From: 1})
	}
	for range w.m.waiting() {
		w.take(api.Packet{From: w.m.peer, To: w.m.inc, Ack: w.m.acked + 1})
	}
	checkWaiting(w.T, w.what+", drained", w.l, 0)
	w.take(api.Packet{From: w.m.peer, To: w.m.inc, Ack: w.m.acked + 1, Seq: w.m.got + 1, Load: []byte("last")})
}

func checkSend(t *testing.T, what string, l *link.Link, b string, want api.Errno) {
	t.Helper()
	if got := l.Send([]byte(b)); got != want {
		t.Errorf("%s: Send(%.20q), %d bytes: %v, want %v", what, b, len(b), got, want)
	}
}

func checkOut(t *testing.T, what string, l *link.Link, want api.Packet) {
	t.Helper()
	if got := l.Out(); !same(got, want) {
		t.Errorf("%s: Out %s, want %s", what, tell(got), tell(want))
	}
}

func checkTake(t *testing.T, what string, l *link.Link, p api.Packet, want string) {
	t.Helper()
	if b, ok, broke := l.Take(p); string(b) != want || !ok || broke {
		t.Errorf("%s: Take(%s): %.40q, %v, %v; want %.40q", what, tell(p), b, ok, broke, want)
	}
}

// checkNothing: the packet brings no load; nor does the connection break, unless it is said to.
func checkNothing(t *testing.T, what string, l *link.Link, p api.Packet, breaks bool) {
	t.Helper()
	if b, ok, broke := l.Take(p); b != nil || ok || broke != breaks {
		t.Errorf("%s: Take(%s): %.40q, %v, %v; want nothing, and %v", what, tell(p), b, ok, broke, breaks)
	}
}

func checkWaiting(t *testing.T, what string, l *link.Link, want int) {
	t.Helper()
	if got := l.Waiting(); got != want {
		t.Errorf("%s: Waiting %d, want %d", what, got, want)
	}
}

func checkKnown(t *testing.T, what string, l *link.Link, want bool) {
	t.Helper()
	if got := l.Known(); got != want {
		t.Errorf("%s: Known %v", what, got)
	}
}

// same: an empty load and none are one (R6).
func same(p, q api.Packet) bool {
	return p.From == q.From && p.To == q.To && p.Seq == q.Seq && p.Ack == q.Ack && string(p.Load) == string(q.Load)
}

func tell(p api.Packet) string {
	return fmt.Sprintf("{%d, %d, %d, %d, %.20q}", p.From, p.To, p.Seq, p.Ack, p.Load)
}

// packet: one as the chapter writes it.
func packet(from, to, seq, ack int, load string) api.Packet {
	return api.Packet{From: from, To: to, Seq: seq, Ack: ack, Load: []byte(load)}
}

// met: two links that know each other.
func met(t *testing.T, incA, incB int) (*link.Link, *link.Link) {
	t.Helper()
	a, b := link.New(incA), link.New(incB)
	if a == nil || b == nil {
		t.Fatalf("New(%d) or New(%d) is none", incA, incB)
	}
	checkNothing(t, "met", b, a.Out(), false)
	checkNothing(t, "met", a, b.Out(), false)
	return a, b
}

// about: numbers about x, and those at the ends of all.
func about(x int) []int {
	return []int{x - 1, x, x + 1, x + 2, -x - 1, 0, 1, x + 1<<32, math.MinInt, math.MinInt + 1, math.MaxInt - 1, math.MaxInt}
}
