package letter_test

import (
	"bytes"
	"math"
	"slices"
	"testing"

	"beadle/api"
	"beadle/letter"
	"beadle/testkit"
)

func rightPacket(p api.Packet) bool {
	for _, n := range []int{p.To, p.Seq, p.Ack} {
		if n < 0 || n > 1<<40 {
			return false
		}
	}
	if p.Seq == 0 && len(p.Load) > 0 || p.Seq > 0 && (len(p.Load) < 1 || len(p.Load) > 1<<20-100) {
		return false
	}
	return p.From >= 1 && p.From <= 1<<40
}

func packetInner(p api.Packet) line {
	return line{}.int(int64(p.From), int64(p.To), int64(p.Seq), int64(p.Ack)).row(p.Load)
}

// checkPacket holds PutPacket and, of the bytes that p has or would have, GetPacket against the model; it tells whether p is right.
func checkPacket(t *testing.T, p api.Packet) bool {
	t.Helper()
	b, errno := letter.PutPacket(p)
	want := packetInner(p).frame()
	if !rightPacket(p) {
		if errno != api.ErrShape || len(b) != 0 {
			t.Errorf("PutPacket(%s): %s, %v", short(p), short(b), errno)
		}
		noPacket(t, "not right", want)
		return false
	}
	if errno != api.OK || !bytes.Equal(b, want) {
		t.Errorf("PutPacket(%s): %s, %v, want %s", short(p), short(b), errno, short(want))
	}
	getPacket(t, want, p)
	return true
}

func getPacket(t *testing.T, b []byte, want api.Packet) {
	t.Helper()
	if got, errno := letter.GetPacket(b); errno != api.OK || !same(got, want) {
		t.Errorf("GetPacket(%s): %s, %v, want %s", short(b), short(got), errno, short(want))
	}
}

func noPacket(t *testing.T, what string, b []byte) {
	t.Helper()
	if got, errno := letter.GetPacket(b); errno != api.ErrShape || !same(got, api.Packet{}) {
		t.Errorf("%s: GetPacket(%s): %s, %v", what, short(b), short(got), errno)
	}
}

// lookPacket: whatever b is, only a right packet is told of it, and only that whose bytes it is.
func lookPacket(t *testing.T, b []byte) {
	t.Helper()
	got, errno := letter.GetPacket(b)
	if errno != api.OK {
		if errno != api.ErrShape || !same(got, api.Packet{}) {
			t.Errorf("GetPacket(%s): %s, %v", short(b), short(got), errno)
		}
	} else if !rightPacket(got) || !bytes.Equal(packetInner(got).frame(), b) {
		t.Errorf("GetPacket(%s): %s", short(b), short(got))
	}
}

func packets() []api.Packet {
	return []api.Packet{
		{From: 1},
		{From: 1 << 40, To: 1 << 40, Ack: 1 << 40},
		{From: 3, To: 4, Seq: 5, Ack: 6, Load: []byte{7, 8}},
		{From: 1, Seq: 1, Load: []byte{0}},
		{From: 1 << 40, To: 1 << 40, Seq: 1 << 40, Ack: 1 << 40, Load: bytes.Repeat([]byte{255}, 300)},
	}
}

// P7.3

func TestExamplesOfPackets(t *testing.T) {
	for _, x := range []struct {
		p    api.Packet
		want line
	}{
		{api.Packet{From: 1}, line{2, 0, 0, 0, 0}},
		{api.Packet{From: 3, To: 4, Seq: 5, Ack: 64, Load: []byte{7, 8}}, line{6, 8, 10, 0x80, 1, 4, 7, 8}},
	} {
		if b, errno := letter.PutPacket(x.p); errno != api.OK || !bytes.Equal(b, x.want.frame()) {
			t.Errorf("PutPacket(%s): %x, %v", short(x.p), b, errno)
		}
		getPacket(t, x.want.frame(), x.p)
	}
	for _, p := range []api.Packet{{}, {From: 1, Seq: 1}, {From: 1, Load: []byte{1}}, {From: 1, To: -1}, {From: 1 << 41}} {
		if b, errno := letter.PutPacket(p); errno != api.ErrShape || len(b) != 0 || checkPacket(t, p) {
			t.Errorf("PutPacket(%s): %x, %v", short(p), b, errno)
		}
	}
}

func TestPackets(t *testing.T) {
	edges := []int{math.MinInt, -1, 0, 1, 64, 1 << 32, 1<<40 - 1, 1 << 40, 1<<40 + 1, math.MaxInt}
	for _, from := range edges {
		for _, to := range edges {
			for _, seq := range edges {
				for _, ack := range edges {
					for _, load := range []int{0, 1, 2} {
						p := api.Packet{From: from, To: to, Seq: seq, Ack: ack, Load: make([]byte, load)}
						low, high := min(from-1, to, seq, ack), max(from, to, seq, ack)
						want := from > 0 && low >= 0 && high <= 1<<40 && (seq > 0) == (load > 0)
						if got := checkPacket(t, p); got != want {
							t.Errorf("%s: %v", short(p), got)
						}
					}
				}
			}
		}
	}
}

func TestLoads(t *testing.T) {
	for _, x := range []struct {
		length int
		right  bool
	}{{0, false}, {1, true}, {1<<20 - 101, true}, {1<<20 - 100, true}, {1<<20 - 99, false}, {1<<20 - 30, false}, {1 << 20, false}, {1<<20 + 1, false}, {1 << 22, false}} {
		for _, seq := range []int{1, 1 << 40} {
			p := api.Packet{From: 1 << 40, To: seq, Seq: seq, Ack: seq, Load: make([]byte, x.length)}
			if checkPacket(t, p) != x.right {
				t.Errorf("a load of %d bytes: %v", x.length, !x.right)
			}
		}
		if x.length > 0 && checkPacket(t, api.Packet{From: 1, Load: make([]byte, x.length)}) {
			t.Errorf("a load of %d bytes without a number", x.length)
		}
	}
	if b, errno := letter.PutPacket(api.Packet{From: 1, Load: []byte{}}); errno != api.OK || !bytes.Equal(b, packetInner(api.Packet{From: 1}).frame()) {
		t.Errorf("an empty load: %x, %v", b, errno)
	}
}

func TestBytesThatAreNoPackets(t *testing.T) {
	noPacket(t, "nil", nil)
	noPacket(t, "nothing", []byte{})
	noPacket(t, "a frame of nothing", line{}.frame())
	for _, p := range packets() {
		inner := packetInner(p)
		b := inner.frame()
		for end := range b {
			noPacket(t, "cut", b[:end:end])
			noPacket(t, "cut, the rest in the spare room", b[:end])
		}
		for end := range inner {
			noPacket(t, "the fields end early", inner[:end].frame())
		}
		for more := range 256 {
			noPacket(t, "a byte behind the frame", append(slices.Clip(b), byte(more)))
			noPacket(t, "a byte behind the load", slices.Concat(inner, line{byte(more)}).frame())
		}
		noPacket(t, "twice", slices.Concat(b, b))
		noPacket(t, "without a frame", inner)
		noPacket(t, "a frame in a frame", line(b).frame())
	}
}

func TestNumbersOfPackets(t *testing.T) {
	for _, p := range packets() {
		numbers := []int64{int64(p.From), int64(p.To), int64(p.Seq), int64(p.Ack), int64(len(p.Load))}
		for i, n := range numbers {
			ahead, behind := line{}.int(numbers[:i]...), append(line{}.int(numbers[i+1:]...), p.Load...)
			nought := line{}.int(n)
			nought[len(nought)-1] |= 128
			noPacket(t, "a nought ahead", slices.Concat(ahead, nought, line{0}, behind).frame())
			noPacket(t, "two noughts ahead", slices.Concat(ahead, nought, line{128, 0}, behind).frame())
			for _, digits := range beyond() {
				noPacket(t, "no number", slices.Concat(ahead, digits, behind).frame())
			}
			for _, wrong := range []int64{math.MinInt64, -1 << 40, n - 1<<41, n - 1<<62, -2, -1, n + 1<<40 + 1, n + 1<<62, math.MaxInt64} {
				noPacket(t, "beyond", slices.Concat(ahead.int(wrong), behind).frame())
			}
			if i == 4 {
				for _, wrong := range []int64{n + 1, n + 1<<8, n + 1<<32, n - 1} {
					noPacket(t, "another length", slices.Concat(ahead.int(wrong), behind).frame())
				}
			}
		}
	}
}

func TestRowsOfBytesAsPackets(t *testing.T) {
	next := testkit.Walk()
	for range 100000 {
		inner := make(line, next(10))
		for i := range inner {
			inner[i] = []byte{0, 0, 2, 2, 4, 6, 128, byte(next(256))}[next(8)]
		}
		lookPacket(t, inner.frame())
		lookPacket(t, inner)
	}
}

// P7.4, of packets

func TestPacketsThatArePutAreGot(t *testing.T) {
	next := testkit.Walk()
	count := func() int { return int(anyNumber(next) % (1<<40 + 1)) }
	for range 400 {
		p := api.Packet{From: 1 + count()%(1<<40), To: count(), Ack: count()}
		if next(3) > 0 {
			p.Seq, p.Load = 1+count()%(1<<40), slices.Repeat([]byte{byte(next(256))}, 1+next(40))
		}
		if !checkPacket(t, p) {
			t.Errorf("%s is not right", short(p))
		}
		b, _ := letter.PutPacket(p)
		getPacket(t, b, p)
		turnBytes(next, packetInner(p), func(b []byte) { lookPacket(t, line(b).frame()) })
	}
}

func TestTurnedBytesOfPackets(t *testing.T) {
	for _, p := range packets() {
		eachTurn(packetInner(p).frame(), func(b []byte) { noPacket(t, "a byte is turned", b) })
	}
}

// R3, of packets

func TestPacketsHandedInStayAsTheyAre(t *testing.T) {
	for _, p := range append(packets(), api.Packet{From: 1, Load: []byte{1}}, api.Packet{From: -1, Seq: 1, Load: []byte{1}}) {
		given := roomy(p)
		b, _ := letter.PutPacket(given)
		spoil(b)
		checkRoom(t, given, p)
		bytes := roomy(packetInner(p).frame())
		got, _ := letter.GetPacket(bytes)
		spoil(got)
		checkRoom(t, bytes, packetInner(p).frame())
	}
}

func TestPacketsShareNothing(t *testing.T) {
	for _, p := range packets() {
		given := roomy(p)
		one, _ := letter.PutPacket(given)
		other, _ := letter.PutPacket(given)
		spoil(one)
		spoil(given)
		if !bytes.Equal(other, packetInner(p).frame()) {
			t.Errorf("%s: PutPacket's answers share memory", short(p))
		}
		first, _ := letter.GetPacket(other)
		second, _ := letter.GetPacket(other)
		spoil(first)
		spoil(other)
		if !same(second, p) {
			t.Errorf("%s: GetPacket's answers share memory", short(p))
		}
	}
}
