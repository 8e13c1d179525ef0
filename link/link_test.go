package link_test

import (
	"fmt"
	"math"
	"slices"
	"strings"
	"testing"

	"beadle/api"
	"beadle/link"
	"beadle/testkit"
)

// The chapter's examples.

func TestExampleOfTwoLinks(t *testing.T) {
	a, b := link.New(5), link.New(9)
	checkSend(t, "a", a, "x", api.OK)
	checkOut(t, "a", a, packet(5, 0, 0, 0, ""))
	checkNothing(t, "b", b, a.Out(), false)
	checkOut(t, "b", b, packet(9, 5, 0, 0, ""))
	checkNothing(t, "a", a, b.Out(), false)
	p := a.Out()
	checkOut(t, "a, met", a, packet(5, 9, 1, 0, "x"))
	checkTake(t, "b", b, p, "x")
	checkNothing(t, "b, twice", b, p, false)
	checkOut(t, "b, got it", b, packet(9, 5, 0, 1, ""))
	checkNothing(t, "a", a, b.Out(), false)
	checkWaiting(t, "a, acknowledged", a, 0)

	a.Reset(6)
	checkOut(t, "a, reset", a, packet(6, 0, 0, 0, ""))
	checkNothing(t, "b", b, a.Out(), true)
}

// P10.1

func TestNew(t *testing.T) {
	for _, inc := range []int{1, 2, 3, 1 << 31, 1 << 32, 1<<32 + 1, maxInc - 1, maxInc} {
		w := newTwin(t, fmt.Sprintf("New(%d)", inc), inc)
		checkOut(t, w.what, w.l, api.Packet{From: inc})
		w.drain()
	}
	for _, inc := range []int{math.MinInt, math.MinInt + 1, -maxInc, -2, -1, 0, maxInc + 1, maxInc + 2, 2 * maxInc, 1 << 62, math.MaxInt} {
		if link.New(inc) != nil {
			t.Errorf("New(%d) is a link", inc)
		}
	}
}

func TestLinksAreTheirOwn(t *testing.T) {
	a, b := newTwin(t, "a", 5), newTwin(t, "b", 5)
	a.send("x")
	a.take(packet(7, 5, 1, 0, "y"))
	b.look("beside another one")
	b.send("z")
	b.reset(6)
	a.look("beside another one")
	a.drain()
	b.drain()
}

// busy: a twin of the number 10 with all that a link may have.
func busy(t *testing.T, what string) twin {
	w := newTwin(t, what, 10)
	for _, b := range []string{"x", "y", "z"} {
		w.send(b)
	}
	w.take(packet(20, 10, 1, 1, "p"))
	w.take(packet(20, 10, 2, 1, "q"))
	checkOut(t, what+", busy", w.l, packet(10, 20, 2, 2, "y"))
	return w
}

func TestResetOfNoGreaterNumber(t *testing.T) {
	for _, inc := range []int{math.MinInt, -11, -1, 0, 1, 9, 10, maxInc + 1, maxInc + 10, 2 * maxInc, 1 << 62, math.MaxInt} {
		w := busy(t, fmt.Sprintf("Reset(%d)", inc))
		w.reset(inc)
		checkOut(t, w.what, w.l, packet(10, 20, 2, 2, "y"))
		w.drain()
	}
	w := newTwin(t, "the greatest", maxInc)
	w.send("x")
	w.reset(maxInc)
	w.reset(maxInc + 1)
	checkWaiting(t, w.what, w.l, 1)
}

func TestReset(t *testing.T) {
	for _, inc := range []int{11, 12, 19, 20, 21, 1 << 32, maxInc - 1, maxInc} {
		w := busy(t, fmt.Sprintf("Reset(%d)", inc))
		w.reset(inc)
		checkOut(t, w.what, w.l, api.Packet{From: inc})
		checkWaiting(t, w.what, w.l, 0)
		checkKnown(t, w.what, w.l, false)
		// No peer is known, so that a lower one than before is met, and no connection breaks.
		w.send("new")
		checkNothing(t, w.what, w.l, packet(3, 0, 0, 0, ""), false)
		w.m.take(packet(3, 0, 0, 0, ""))
		checkOut(t, w.what, w.l, packet(inc, 3, 1, 0, "new"))
		w.take(packet(3, inc, 1, 1, "first"))
		w.drain()
		w.reset(inc)
		w.look("reset to its own number")
	}
}

func TestResetsRise(t *testing.T) {
	w := newTwin(t, "resets", 1)
	for inc := 2; inc < 300; inc++ {
		w.send("x")
		w.take(packet(inc%7+1, w.m.inc, 1, 0, "y"))
		w.reset(inc)
		w.reset(inc - 1)
		checkOut(t, w.what, w.l, api.Packet{From: inc})
	}
}

// P10.2

func TestSendWaitsBehindTheOthers(t *testing.T) {
	w := newTwin(t, "row", 1)
	for i, b := range []string{"one", "two", "two", "\x00", "\xff\x00", " ", strings.Repeat("long", 1000)} {
		w.send(b)
		checkWaiting(t, w.what, w.l, i+1)
	}
	w.drain()
}

func TestSendOfNoBytes(t *testing.T) {
	w := newTwin(t, "no bytes", 1)
	for _, b := range [][]byte{nil, {}, make([]byte, 0, 8)} {
		if e := w.l.Send(b); e != api.ErrArg {
			t.Errorf("Send of no bytes: %v", e)
		}
		w.look("no bytes")
	}
	w.send("\x00")
	w.drain()
}

func TestGreatestLoad(t *testing.T) {
	for _, size := range []int{1, 2, 1 << 16, maxLoad - 1, maxLoad} {
		w := newTwin(t, fmt.Sprintf("%d bytes", size), 1)
		w.send(strings.Repeat("ab", size/2) + strings.Repeat("c", size%2))
		checkWaiting(t, w.what, w.l, 1)
		w.drain()
	}
	for _, size := range []int{maxLoad + 1, maxLoad + 2, 1<<20 - 1, 1 << 20, 1<<20 + 1, 1 << 22} {
		w := newTwin(t, fmt.Sprintf("%d bytes", size), 1)
		checkSend(t, w.what, w.l, strings.Repeat("a", size), api.ErrLong)
		w.look("too long")
		w.send("x")
		checkSend(t, w.what, w.l, strings.Repeat("a", size), api.ErrLong)
		w.drain()
	}
	w := newTwin(t, "spare room", 1)
	if e := w.l.Send(make([]byte, maxLoad, 2*maxLoad)); e != api.OK {
		t.Errorf("spare room counts as bytes: %v", e)
	}
}

func TestMostLoads(t *testing.T) {
	w := newTwin(t, "full", 3)
	for i := range maxLoads {
		checkSend(t, w.what, w.l, fmt.Sprint("load ", i), w.m.send(fmt.Sprint("load ", i)))
	}
	checkWaiting(t, w.what, w.l, maxLoads)
	for range 2 {
		checkSend(t, w.what, w.l, "", api.ErrArg)
		checkSend(t, w.what, w.l, strings.Repeat("x", maxLoad+1), api.ErrLong)
		checkSend(t, w.what, w.l, strings.Repeat("x", maxLoad), api.ErrFull)
		checkSend(t, w.what, w.l, "x", api.ErrFull)
		w.look("full")
	}
	w.take(packet(4, 0, 0, 0, ""))
	w.send("still full")
	w.take(packet(4, 3, 0, 1, ""))
	w.send("with room again")
	w.send("full again")
	checkWaiting(t, w.what, w.l, maxLoads)
	w.drain()
	for i := range maxLoads + 1 {
		want := api.OK
		if i == maxLoads {
			want = api.ErrFull
		}
		checkSend(t, "filled once more", w.l, fmt.Sprint(i), want)
		w.m.send(fmt.Sprint(i))
	}
	w.drain()
}

func TestFullLinksThatLoseTheirLoads(t *testing.T) {
	w := newTwin(t, "full", 3)
	for _, lose := range []func(){func() { w.reset(4) }, func() { w.take(packet(6, 0, 0, 0, "")) }} {
		w.take(packet(5, 0, 0, 0, ""))
		for i := range maxLoads {
			checkSend(t, w.what, w.l, fmt.Sprint(i), w.m.send(fmt.Sprint(i)))
		}
		lose()
		checkWaiting(t, w.what, w.l, 0)
		w.send("new")
	}
	w.drain()
}

// P10.3

func TestOut(t *testing.T) {
	a := link.New(5)
	checkOut(t, "new", a, packet(5, 0, 0, 0, ""))
	a.Send([]byte("x"))
	a.Send([]byte("y"))
	checkOut(t, "peer not known", a, packet(5, 0, 0, 0, ""))
	a.Take(packet(9, 0, 0, 0, ""))
	checkOut(t, "peer known", a, packet(5, 9, 1, 0, "x"))
	a.Take(packet(9, 5, 1, 0, "p"))
	checkOut(t, "a load has come", a, packet(5, 9, 1, 1, "x"))
	a.Take(packet(9, 5, 2, 1, "q"))
	checkOut(t, "the first one acknowledged", a, packet(5, 9, 2, 2, "y"))
	a.Take(packet(9, 5, 2, 2, "q"))
	checkOut(t, "all acknowledged", a, packet(5, 9, 0, 2, ""))
	a.Send([]byte("z"))
	checkOut(t, "one more", a, packet(5, 9, 3, 2, "z"))
	a.Take(packet(10, 5, 1, 1, "r"))
	checkOut(t, "another peer", a, packet(5, 10, 0, 1, ""))
}

func TestOutHasNoLoadBesideNoSeq(t *testing.T) {
	a := link.New(5)
	a.Send([]byte("x"))
	if p := a.Out(); p.Load != nil {
		t.Errorf("no peer known: %s", tell(p))
	}
	b, _ := met(t, 1, 2)
	if p := b.Out(); p.Load != nil {
		t.Errorf("no load waits: %s", tell(p))
	}
}

func TestOutAsOftenAsOneLikes(t *testing.T) {
	w := busy(t, "often")
	for range 100 {
		checkOut(t, "often", w.l, packet(10, 20, 2, 2, "y"))
	}
	w.look("often")
	w.drain()
}

// P10.4

func TestTakeOfNoPeer(t *testing.T) {
	for _, from := range []int{math.MinInt, -maxInc, -20, -1, 0} {
		w := newTwin(t, fmt.Sprintf("from %d", from), 10)
		w.send("x")
		checkNothing(t, w.what, w.l, packet(from, 10, 1, 1, "p"), false)
		w.look("no peer")
		w.drain()
	}
}

func TestTakeOfAnEarlierPeer(t *testing.T) {
	for _, from := range []int{math.MinInt, -20, -1, 0, 1, 10, 18, 19} {
		w := busy(t, fmt.Sprintf("from %d", from))
		checkNothing(t, w.what, w.l, packet(from, 10, 3, 2, "r"), false)
		checkNothing(t, w.what, w.l, packet(from, 10, 1, 1, "r"), false)
		w.look("earlier")
		w.drain()
	}
}

func TestTakeOfTheFirstPeer(t *testing.T) {
	for _, from := range []int{1, 2, 9, 10, 11, maxInc - 1, maxInc} {
		w := newTwin(t, fmt.Sprintf("from %d", from), 10)
		w.send("x")
		w.send("y")
		if _, ok, broke := w.take(packet(from, 0, 1, 1, "p")); ok || broke {
			t.Errorf("%s: %v, %v", w.what, ok, broke)
		}
		checkOut(t, w.what, w.l, packet(10, from, 1, 0, "x"))
		checkWaiting(t, w.what, w.l, 2)
		checkKnown(t, w.what, w.l, true)
		w.drain()
	}
}

// TestFirstPacketOfAll: one that knows this side already acknowledges and brings something, though no peer was known ahead of it.
func TestFirstPacketOfAll(t *testing.T) {
	w := newTwin(t, "first of all", 10)
	w.send("x")
	w.send("y")
	checkTake(t, w.what, w.l, packet(20, 10, 1, 1, "p"), "p")
	checkOut(t, w.what, w.l, packet(10, 20, 2, 1, "y"))
	checkWaiting(t, w.what, w.l, 1)
}

func TestTakeOfALaterPeer(t *testing.T) {
	for _, from := range []int{21, 22, 1 << 32, maxInc - 1, maxInc} {
		for _, to := range []int{0, 9, 11, -10, 20, from, math.MinInt, math.MaxInt} {
			w := busy(t, fmt.Sprintf("from %d to %d", from, to))
			checkNothing(t, w.what, w.l, packet(from, to, 1, 1, "p"), true)
			checkOut(t, w.what, w.l, packet(10, from, 0, 0, ""))
			checkWaiting(t, w.what, w.l, 0)
			checkNothing(t, w.what+", again", w.l, packet(from, to, 1, 1, "p"), false)
			w.m.take(packet(from, to, 1, 1, "p"))
			w.look("another connection")
			w.take(packet(20, 10, 3, 2, "earlier"))
			w.send("new")
			w.drain()
		}
	}
}

// TestLaterPeerThatBringsSomething: the connection breaks, and the new one begins with the same packet.
func TestLaterPeerThatBringsSomething(t *testing.T) {
	w := busy(t, "both")
	if b, ok, broke := w.take(packet(21, 10, 1, 1, "p")); b != "p" || !ok || !broke {
		t.Errorf("%q, %v, %v", b, ok, broke)
	}
	checkOut(t, w.what, w.l, packet(10, 21, 0, 1, ""))
	// What was counted with the peer before is over.
	w = busy(t, "counted before")
	checkNothing(t, w.what, w.l, packet(21, 10, 3, 2, "p"), true)
	checkOut(t, w.what, w.l, packet(10, 21, 0, 0, ""))
}

func TestBreakOfAConnectionWithoutLoads(t *testing.T) {
	a, _ := met(t, 5, 9)
	checkNothing(t, "nothing sent", a, packet(10, 0, 0, 0, ""), true)
	checkNothing(t, "nothing sent", a, packet(11, 5, 0, 0, ""), true)
	checkNothing(t, "nothing sent", a, packet(11, 5, 0, 0, ""), false)
}

func TestTakeForAnother(t *testing.T) {
	for _, to := range []int{math.MinInt, -10, -1, 0, 1, 9, 11, 20, 10 + 1<<32, maxInc, math.MaxInt} {
		w := busy(t, fmt.Sprintf("to %d", to))
		checkNothing(t, w.what, w.l, packet(20, to, 3, 2, "r"), false)
		w.look("for another")
		w.drain()
	}
}

func TestTakeOfEachAck(t *testing.T) {
	for _, ack := range append(about(2), about(3)...) {
		w := busy(t, fmt.Sprintf("Ack %d", ack))
		w.take(packet(20, 10, 0, ack, ""))
		left := 2
		if ack == 2 {
			left = 1
		}
		checkWaiting(t, w.what, w.l, left)
		w.drain()
	}
}

func TestAckOfNothingThatWaits(t *testing.T) {
	a, _ := met(t, 5, 9)
	for _, ack := range about(1) {
		checkNothing(t, "nothing waits", a, packet(9, 5, 0, ack, ""), false)
	}
	a.Send([]byte("x"))
	checkOut(t, "then", a, packet(5, 9, 1, 0, "x"))
	checkNothing(t, "then", a, packet(9, 5, 0, 1, ""), false)
	checkNothing(t, "all acknowledged", a, packet(9, 5, 0, 2, ""), false)
	a.Send([]byte("y"))
	checkOut(t, "at last", a, packet(5, 9, 2, 0, "y"))
}

func TestTakeOfEachSeq(t *testing.T) {
	for _, seq := range append(about(2), about(3)...) {
		w := busy(t, fmt.Sprintf("Seq %d", seq))
		if b, ok, _ := w.take(packet(20, 10, seq, 0, "r")); ok != (seq == 3) || ok && b != "r" {
			t.Errorf("%s: %q, %v", w.what, b, ok)
		}
		w.take(packet(20, 10, 3, 0, "s"))
		w.drain()
	}
}

// TestAckAndSeqInOnePacket: each counts, whatever the other one is.
func TestAckAndSeqInOnePacket(t *testing.T) {
	for ack := range 5 {
		for seq := range 6 {
			w := busy(t, fmt.Sprintf("Ack %d, Seq %d", ack, seq))
			_, ok, _ := w.take(packet(20, 10, seq, ack, "r"))
			if ok != (seq == 3) || w.l.Waiting() != 2 && ack != 2 || w.l.Waiting() != 1 && ack == 2 {
				t.Errorf("%s: %v, %d wait", w.what, ok, w.l.Waiting())
			}
			w.drain()
		}
	}
}

func TestLoadsThatCome(t *testing.T) {
	w := newTwin(t, "come", 10)
	w.take(packet(20, 10, 0, 0, ""))
	for i, b := range []string{"x", "x", "\x00", "\xff\xfe", strings.Repeat("long", 1<<18), ""} {
		if got, ok, _ := w.take(packet(20, 10, i+1, 0, b)); got != b || !ok {
			t.Errorf("%.20q came as %.20q, %v", b, got, ok)
		}
		checkNothing(t, "twice", w.l, packet(20, 10, i+1, 0, b), false)
	}
	checkOut(t, w.what, w.l, packet(10, 20, 0, 6, ""))
}

// TestAllSmallPackets holds links of several pasts against the model, at all packets of small numbers.
func TestAllSmallPackets(t *testing.T) {
	for past := range 8 {
		for from := -1; from < 5; from++ {
			for to := -1; to < 4; to++ {
				for seq := -1; seq < 4; seq++ {
					for ack := -1; ack < 4; ack++ {
						w := newTwin(t, fmt.Sprintf("past %d", past), 2)
						for i := range past % 4 {
							w.send(fmt.Sprint("load ", i))
						}
						if past > 3 {
							w.take(packet(3, 2, 1, 0, "p"))
							w.take(packet(3, 2, 2, 1, "q"))
						}
						w.take(packet(from, to, seq, ack, "r"))
						w.drain()
						if t.Failed() {
							t.FailNow()
						}
					}
				}
			}
		}
	}
}

// P10.5

func TestWaitingAndKnown(t *testing.T) {
	a := link.New(5)
	for i := range 10 {
		checkWaiting(t, "not known", a, i)
		checkKnown(t, "not known", a, false)
		a.Send([]byte("x"))
	}
	a.Take(packet(0, 5, 1, 1, "p"))
	checkKnown(t, "from nobody", a, false)
	a.Take(packet(1, 0, 0, 0, ""))
	checkKnown(t, "known", a, true)
	for i := range 10 {
		checkWaiting(t, "known", a, 10-i)
		a.Take(packet(1, 5, 0, i+1, ""))
	}
	checkWaiting(t, "all acknowledged", a, 0)
	a.Take(packet(2, 0, 0, 0, ""))
	checkKnown(t, "another one", a, true)
	a.Reset(6)
	checkKnown(t, "reset", a, false)
}

// P10.6

// side: one end of a pair whose packets are lost, doubled and reordered; what it has sent, and what it was told.
type side struct {
	l          *link.Link
	inc        int
	sent, told []string
	onWay      []api.Packet // to the other side
}

func (s *side) send(t *testing.T, b string) {
	t.Helper()
	checkSend(t, "pair", s.l, b, api.OK)
	s.sent = append(s.sent, b)
}

// bring: a packet from the other side; whether the connection broke.
func (s *side) bring(p api.Packet) bool {
	b, ok, broke := s.l.Take(p)
	if ok {
		s.told = append(s.told, string(b))
	}
	return broke
}

func isBeginning(of, row []string) bool {
	return len(row) <= len(of) && slices.Equal(row, of[:len(row)])
}

// handOn hands each other what Out tells, till nothing waits any more, but no more than so many times.
func handOn(a, b *side, most int) {
	for range most {
		b.bring(a.l.Out())
		a.bring(b.l.Out())
		if a.l.Waiting() == 0 && b.l.Waiting() == 0 {
			return
		}
	}
}

func TestWhatComesIsTheBeginningOfWhatWasSent(t *testing.T) {
	next := testkit.Walk()
	for round := range 200 {
		sides := []*side{{l: link.New(5 + round%3)}, {l: link.New(6)}}
		for i := range 300 {
			s, other := sides[i%2], sides[1-i%2]
			switch next(5) {
			case 0:
				if len(s.sent) < 40 {
					s.send(t, fmt.Sprintf("%d of %d", len(s.sent), i%2))
				}
			case 1, 2:
				s.onWay = append(s.onWay, s.l.Out())
			default:
				if len(s.onWay) == 0 {
					continue
				}
				at := next(len(s.onWay)) // brought out of order, and then gone, or brought again
				if other.bring(s.onWay[at]) {
					t.Fatal("a connection broke")
				}
				if next(3) == 0 {
					s.onWay = slices.Delete(s.onWay, at, at+1)
				}
			}
			if !isBeginning(s.sent, other.told) || !isBeginning(other.sent, s.told) {
				t.Fatalf("round %d: sent %q, told %q; sent %q, told %q", round, s.sent, other.told, other.sent, s.told)
			}
		}
		handOn(sides[0], sides[1], 100)
		if !slices.Equal(sides[0].sent, sides[1].told) || !slices.Equal(sides[1].sent, sides[0].told) {
			t.Fatalf("round %d: sent %q, told %q; sent %q, told %q", round, sides[0].sent, sides[1].told, sides[1].sent, sides[0].told)
		}
	}
}

func TestAllOfMostLoadsComes(t *testing.T) {
	a, b := &side{l: link.New(1)}, &side{l: link.New(maxInc)}
	for i := range maxLoads {
		a.send(t, fmt.Sprint("a ", i))
		b.send(t, fmt.Sprint("b ", i))
	}
	handOn(a, b, 2*maxLoads)
	if !slices.Equal(a.sent, b.told) || !slices.Equal(b.sent, a.told) {
		t.Errorf("%d of a's and %d of b's loads came", len(b.told), len(a.told))
	}
	checkWaiting(t, "a", a.l, 0)
	checkWaiting(t, "b", b.l, 0)
}

// TestNothingIsToldInAnotherConnection: sides are reset now and then, while packets of all connections are still brought.
func TestNothingIsToldInAnotherConnection(t *testing.T) {
	next := testkit.Walk()
	for round := range 300 {
		sides := []*side{{l: link.New(1), inc: 1}, {l: link.New(1), inc: 1}}
		toldIn := map[string]string{}
		for i := range 300 {
			s, other := sides[i%2], sides[1-i%2]
			switch next(7) {
			case 0:
				s.send(t, fmt.Sprintf("%d:%d:%d", i%2, s.inc, i))
			case 1, 2:
				s.onWay = append(s.onWay, s.l.Out())
			case 3:
				if next(8) == 0 {
					s.inc += 1 + next(2)
					s.l.Reset(s.inc)
				}
			default:
				if len(s.onWay) == 0 {
					continue
				}
				p := s.onWay[next(len(s.onWay))]
				told := len(other.told)
				other.bring(p)
				if len(other.told) == told {
					continue
				}
				b := other.told[told]
				if !strings.HasPrefix(b, fmt.Sprintf("%d:%d:", i%2, p.From)) || p.To != other.inc {
					t.Fatalf("round %d: %q was told in the connection of %d and %d", round, b, p.From, other.inc)
				}
				if before := toldIn[b]; before != "" {
					t.Fatalf("round %d: %q was told to %d, and ahead of that to %s", round, b, other.inc, before)
				}
				toldIn[b] = fmt.Sprint(other.inc)
			}
		}
	}
}

// TestGoesOnBehindAReset: whatever was before, two sides that hand each other what Out tells come to know each other, and what is sent then comes.
func TestGoesOnBehindAReset(t *testing.T) {
	a, b := &side{l: link.New(1)}, &side{l: link.New(1)}
	for inc := 2; inc < 40; inc++ {
		a.send(t, "lost, or not")
		b.send(t, "lost, or not")
		handOn(a, b, inc%4)
		if inc%3 != 0 {
			a.l.Reset(inc)
		}
		if inc%3 != 1 {
			b.l.Reset(inc)
		}
		handOn(a, b, 10)
		*a, *b = side{l: a.l}, side{l: b.l}
		a.send(t, fmt.Sprint("a ", inc))
		b.send(t, fmt.Sprint("b ", inc))
		handOn(a, b, 10)
		if !slices.Equal(a.sent, b.told) || !slices.Equal(b.sent, a.told) {
			t.Fatalf("reset to %d: sent %q, told %q; sent %q, told %q", inc, a.sent, b.told, b.sent, a.told)
		}
	}
}

// R5

func TestNoLink(t *testing.T) {
	var none *link.Link
	for what, l := range map[string]*link.Link{"nil": none, "one that nobody made": {}, "new": new(link.Link)} {
		for range 2 {
			for _, b := range []string{"", "x", strings.Repeat("x", maxLoad+1)} {
				checkSend(t, what, l, b, api.ErrNil)
			}
			if e := l.Send(nil); e != api.ErrNil {
				t.Errorf("%s: Send of no bytes: %v", what, e)
			}
			for _, p := range []api.Packet{{}, packet(5, 0, 0, 0, ""), packet(5, 0, 1, 1, "x"), packet(6, 0, 1, 0, "x"), packet(7, 9, 1, 0, "x")} {
				checkNothing(t, what, l, p, false)
			}
			l.Reset(4)
			l.Reset(0)
			checkOut(t, what, l, api.Packet{})
			if l.Out().Load != nil {
				t.Errorf("%s: Out has a load", what)
			}
			checkWaiting(t, what, l, 0)
			checkKnown(t, what, l, false)
		}
	}
}

// R3

func TestBytesHandedInAreNeitherKeptNorChanged(t *testing.T) {
	for size := 1; size < 40; size++ {
		a, b := met(t, 5, 9)
		full := []byte(strings.Repeat("b", size+20))
		want := strings.Repeat("b", size)
		for range 2 {
			if e := a.Send(full[:size]); e != api.OK {
				t.Fatal(e)
			}
		}
		testkit.Spoil(a.Out().Load, 'Z')
		got, _, _ := b.Take(api.Packet{From: 5, To: 9, Seq: 1, Load: full[:size]})
		testkit.Spoil(got, 'Z')
		if string(full) != want+strings.Repeat("b", 20) {
			t.Errorf("%d bytes handed in are changed, or the room behind them: %s", size, full)
		}
		testkit.Spoil(full, 'Z')
		checkOut(t, "changed afterwards", a, packet(5, 9, 1, 0, want))
		a.Take(b.Out())
		checkOut(t, "changed afterwards", a, packet(5, 9, 2, 0, want))
	}
}

func TestTakenLoadsAreNoPartOfThePacket(t *testing.T) {
	for size := range 40 {
		_, b := met(t, 5, 9)
		full := []byte(strings.Repeat("b", size+20))
		got, ok, _ := b.Take(api.Packet{From: 5, To: 9, Seq: 1, Load: full[:size]})
		testkit.Spoil(full, 'Z')
		if string(got) != strings.Repeat("b", size) || !ok {
			t.Errorf("what was told changes with the packet: %s", got)
		}
		if got = append(got, "more"...); strings.Contains(string(full), "more") {
			t.Errorf("what was told has the packet's room: %s", full)
		}
	}
}

func TestLoadsHandedOutAreNew(t *testing.T) {
	for size := 1; size < 40; size++ {
		what := fmt.Sprintf("%d bytes", size)
		want := strings.Repeat("b", size)
		a, _ := met(t, 5, 9)
		for range 2 {
			checkSend(t, what, a, want, api.OK)
		}
		one, two := a.Out().Load, a.Out().Load
		testkit.Spoil(one, 'Z')
		if string(two) != want {
			t.Errorf("%s: two answers share memory", what)
		}
		kept := append(two, "more"...)
		checkSend(t, what, a, "else", api.OK)
		checkNothing(t, what, a, packet(9, 5, 0, 1, ""), false)
		if string(kept) != want+"more" {
			t.Errorf("%s: an answer changes as the link goes on", what)
		}
		testkit.Spoil(kept, 'Z')
		testkit.Spoil(two, 'Z')
		checkOut(t, what, a, packet(5, 9, 2, 0, want))
		checkNothing(t, what, a, packet(9, 5, 0, 2, ""), false)
		checkOut(t, what, a, packet(5, 9, 3, 0, "else"))
		if string(one) != strings.Repeat("Z", size) {
			t.Errorf("%s: an answer changes as the link goes on: %s", what, one)
		}
	}
}

// All promises at once.

// pair: two links, and packets of a's that were kept back.
type pair struct {
	a, b twin
	old  []api.Packet
}

type act struct {
	what string
	do   func(*pair)
}

// shortActs: what may happen to a pair, of which all short rows are gone through.
func shortActs() []act {
	return []act{
		{"a sends x", func(p *pair) { p.a.send("x") }},
		{"a sends y", func(p *pair) { p.a.send("y") }},
		{"b sends z", func(p *pair) { p.b.send("z") }},
		{"a to b", func(p *pair) { p.b.take(p.a.m.out()) }},
		{"b to a", func(p *pair) { p.a.take(p.b.m.out()) }},
		{"a's is kept", func(p *pair) { p.old = append(p.old, p.a.m.out()) }},
		{"what was kept to b", func(p *pair) {
			for _, x := range p.old {
				p.b.take(x)
			}
		}},
		{"a is reset", func(p *pair) { p.a.reset(p.a.m.inc + 1) }},
		{"b is reset", func(p *pair) { p.b.reset(p.b.m.inc + 1) }},
	}
}

func TestAllShortRows(t *testing.T) {
	all := shortActs()
	var goOn func(row []act, left int)
	goOn = func(row []act, left int) {
		if left > 0 {
			for _, x := range all {
				goOn(append(slices.Clone(row), x), left-1)
			}
			return
		}
		past := ""
		for _, x := range row {
			past += x.what + "; "
		}
		p := &pair{a: newTwin(t, past, 5), b: newTwin(t, past, 9)}
		// They know each other, as most do for most of their time.
		p.b.take(p.a.m.out())
		p.a.take(p.b.m.out())
		for _, x := range row {
			x.do(p)
		}
		p.a.drain()
		p.b.drain()
		if t.Failed() {
			t.FailNow()
		}
	}
	goOn(nil, 5)
}

// TestLongRows goes on with one link for long, whatever packets come.
func TestLongRows(t *testing.T) {
	next := testkit.Walk()
	for round := range 60 {
		w := newTwin(t, fmt.Sprintf("round %d", round), 1+next(5))
		near := func(x int) int { return x + next(4) - 1 }
		for step := range 600 {
			switch next(10) {
			case 0, 1, 2:
				w.send(strings.Repeat(fmt.Sprint(step, " "), next(4)))
			case 3:
				if next(20) == 0 {
					w.reset(near(w.m.inc))
				}
			case 4:
				from, to := near(w.m.peer), near(w.m.inc)
				if next(10) > 0 {
					from = min(from, w.m.peer)
				}
				w.take(packet(from, to, near(w.m.got), near(w.m.acked), fmt.Sprint(step)))
			default:
				w.take(packet(max(w.m.peer, 1), w.m.inc, near(w.m.got), near(w.m.acked), fmt.Sprint(step)))
			}
			if t.Failed() {
				t.FailNow()
			}
		}
		w.drain()
	}
}

// TestSameStepsSameAnswers: what a link tells hangs on its own past alone (R4).
func TestSameStepsSameAnswers(t *testing.T) {
	tellAll := func() string {
		a, b, out := link.New(5), link.New(9), ""
		for i := range 60 {
			a.Send(fmt.Append(nil, i))
			b.Send(fmt.Append(nil, -i))
			x, ok, broke := b.Take(a.Out())
			out += fmt.Sprintf("%s %v %v;", x, ok, broke)
			x, ok, broke = a.Take(b.Out())
			out += fmt.Sprintf("%s %v %v %s %d %v;", x, ok, broke, tell(a.Out()), a.Waiting(), b.Known())
			if i%20 == 19 {
				a.Reset(i)
			}
		}
		return out
	}
	first := tellAll()
	for range 20 {
		if again := tellAll(); again != first {
			t.Fatalf("%s, and %s", first, again)
		}
	}
}
