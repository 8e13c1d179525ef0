package ask_test

import (
	"bytes"
	"math"
	"slices"
	"testing"

	"beadle/api"
	"beadle/ask"
	"beadle/testkit"
)

func rightEvent(e api.Event) bool {
	return e.Kind >= 1 && e.Kind <= 4 && e.Sort >= 1 && e.Sort <= 3 && len(e.Path) <= 220 && e.Zxid >= 0
}

func eventBytes(e api.Event) line {
	return line{}.byte(int(e.Kind)).byte(int(e.Sort)).text(e.Path).int(int64(e.Zxid))
}

func checkEvent(t *testing.T, e api.Event) bool {
	t.Helper()
	right := rightEvent(e)
	b, errno := ask.PutEvent(e)
	want := eventBytes(e)
	if !right {
		if errno != api.ErrShape || len(b) != 0 {
			t.Errorf("PutEvent(%s): %x, %v", short(e), b, errno)
		}
		noEvent(t, "not right", want)
		return false
	}
	if errno != api.OK || !bytes.Equal(b, want) {
		t.Errorf("PutEvent(%s): %x, %v, want %x", short(e), b, errno, want)
	}
	if got, errno := ask.GetEvent(want); errno != api.OK || got != e {
		t.Errorf("GetEvent(%x): %s, %v, want %s", want, short(got), errno, short(e))
	}
	return true
}

func noEvent(t *testing.T, what string, b []byte) {
	t.Helper()
	if got, errno := ask.GetEvent(b); errno != api.ErrShape || got != (api.Event{}) {
		t.Errorf("%s: GetEvent(%s): %s, %v", what, short(b), short(got), errno)
	}
}

func lookEvent(t *testing.T, b []byte) {
	t.Helper()
	got, errno := ask.GetEvent(b)
	if errno != api.OK {
		noEvent(t, "no event", b)
	} else if !rightEvent(got) || !bytes.Equal(eventBytes(got), b) {
		t.Errorf("GetEvent(%x): %s", b, short(got))
	}
}

// P6.4

func TestEvents(t *testing.T) {
	for _, kind := range []api.EventKind{0, 1, 2, 3, 4, 5, 6, 128, 255} {
		for _, sort := range []api.WatchSort{0, 1, 2, 3, 4, 5, 128, 255} {
			for _, path := range []string{"", "/", "/a", "a b", "\x00\xff", longest, longest + "x", longest + longest} {
				for _, zxid := range []api.Zxid{math.MinInt64, -1 << 32, -1, 0, 1, 1 << 32, math.MaxInt64} {
					want := kind >= 1 && kind <= 4 && sort >= 1 && sort <= 3 && len(path) < 221 && zxid > -1
					if got := checkEvent(t, api.Event{Kind: kind, Sort: sort, Path: path, Zxid: zxid}); got != want {
						t.Errorf("%d, %d, %q, %d: %v", kind, sort, path, zxid, got)
					}
				}
			}
		}
	}
}

func TestExampleOfAnEvent(t *testing.T) {
	e := api.Event{Kind: api.Deleted, Sort: api.WatchData, Path: "/a", Zxid: 7}
	want := []byte{2, 1, 4, '/', 'a', 14}
	if b, errno := ask.PutEvent(e); errno != api.OK || !bytes.Equal(b, want) {
		t.Errorf("%x, %v", b, errno)
	}
	if got, errno := ask.GetEvent(want); errno != api.OK || got != e {
		t.Errorf("%s, %v", short(got), errno)
	}
	noEvent(t, "and 00", append(want, 0))
}

// P6.5, of events

func TestBytesThatAreNoEvents(t *testing.T) {
	noEvent(t, "nil", nil)
	noEvent(t, "nothing", []byte{})
	for _, e := range []api.Event{{Kind: 1, Sort: 1}, {Kind: 4, Sort: 3, Path: longest, Zxid: math.MaxInt64}, {Kind: 2, Sort: 2, Path: "/a", Zxid: 64}} {
		b := eventBytes(e)
		for end := range b {
			noEvent(t, "cut", b[:end:end])
			noEvent(t, "cut, the rest in the spare room", b[:end])
		}
		for more := range 256 {
			noEvent(t, "one more", append(slices.Clip(b), byte(more)))
			lookEvent(t, append([]byte{byte(more)}, b...))
		}
	}
	for _, n := range append(beyond(), []byte{0x80, 0}, []byte{0x8e, 0x80, 0}, []byte{1}, []byte{0x80}) {
		noEvent(t, "zxid", slices.Concat([]byte{2, 1, 4, '/', 'a'}, n))
		noEvent(t, "a path's length", slices.Concat([]byte{2, 1}, n, []byte{'/', 'a', 14}))
	}
	noEvent(t, "a path's length with a nought ahead", []byte{2, 1, 0x84, 0, '/', 'a', 14})
	next := testkit.Walk()
	for range 200000 {
		b := make([]byte, next(9))
		for i := range b {
			b[i] = []byte{0, 1, 2, 3, 4, 5, 6, '/', 'a', 128, byte(next(256))}[next(11)]
		}
		lookEvent(t, b)
	}
}

// P6.6, of events

func TestEventsThatArePutAreGot(t *testing.T) {
	next := testkit.Walk()
	for range 2000 {
		e := api.Event{Kind: api.EventKind(1 + next(4)), Sort: api.WatchSort(1 + next(3)), Path: anyText(next), Zxid: api.Zxid(anyNumber(next))}
		if !checkEvent(t, e) {
			t.Errorf("%s is not right", short(e))
		}
		turnBytes(next, eventBytes(e)[:min(len(eventBytes(e)), 20)], func(b []byte) { lookEvent(t, b) })
		b, _ := ask.PutEvent(e)
		if got, errno := ask.GetEvent(b); errno != api.OK || got != e {
			t.Errorf("%s: %x: %s, %v", short(e), b, short(got), errno)
		}
	}
}

// R3, of events

func TestEventsShareNothing(t *testing.T) {
	e := api.Event{Kind: 3, Sort: 2, Path: "/a/b", Zxid: 9}
	one, _ := ask.PutEvent(e)
	other, _ := ask.PutEvent(e)
	spoil(one)
	if !bytes.Equal(other, eventBytes(e)) {
		t.Error("PutEvent's answers share memory")
	}
	b := roomy([]byte(eventBytes(e)))
	got, _ := ask.GetEvent(b)
	checkRoom(t, b, eventBytes(e))
	spoil(b)
	if got != e {
		t.Error("GetEvent's event hangs on its bytes")
	}
}
