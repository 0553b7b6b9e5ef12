package udp_test

import (
	"math"
	"testing"

	"towrope/api"
	"towrope/udp"
)

// extremes are the least ints, the greatest ones, and some that are less far.
func extremes() []int {
	return []int{math.MinInt, math.MinInt + 1, -1<<32 - 1, -1 << 32, -1<<32 + 1, -1 << 20, -65, -64, -2, -1, 0, 1, 2, 63, 64, 65, 1<<20 - 1, 1 << 20, 1<<20 + 1, 1<<32 - 1, 1 << 32, 1<<32 + 1, 1<<32 + 64, math.MaxInt - 1, math.MaxInt}
}

// far is the greatest address.
const far = api.Addr(math.MaxUint32)

func end(a api.Addr, port uint16) api.End { return api.End{Addr: a, Port: port} }

// ends are some from which datagrams come: the zero end is the first one, and none has the port 0 alone.
func ends() []api.End {
	return []api.End{{}, end(1, 10), end(1, 11), end(2, 10), end(10, 1), end(0, 10), end(0, 65535), end(far, 1), end(far, 65535), end(1<<31, 256)}
}

func mail(from api.End, text string) api.Mail { return api.Mail{From: from, Data: []byte(text)} }

// letters are n bytes of which neighbours differ.
func letters(n int) string {
	b := make([]byte, n)
	for i := range b {
		b[i] = byte('a' + i%23)
	}
	return string(b)
}

// state is what a box tells without being changed.
type state struct {
	len, held, lost int
	ready           bool
	peer            api.End
	restricted      bool
}

func stateOf(b *udp.Box) state {
	peer, restricted := b.Peer()
	return state{b.Len(), b.Held(), b.Lost(), b.Ready(), peer, restricted}
}

// stands compares the state of a box.
func stands(t *testing.T, b *udp.Box, want state) {
	t.Helper()
	if got := stateOf(b); got != want {
		t.Errorf("%+v, not %+v", got, want)
	}
}

// start returns a new box.
func start(t *testing.T, most, room int) *udp.Box {
	t.Helper()
	b, e := udp.New(most, room)
	if b == nil || e != api.OK {
		t.Fatalf("New(%d, %d): error %d", most, room, int(e))
	}
	stands(t, b, state{})
	return b
}

// filled returns a box in which these datagrams are.
func filled(t *testing.T, mails ...api.Mail) *udp.Box {
	t.Helper()
	b := start(t, api.MaxGrams, 1000)
	for _, m := range mails {
		put(t, b, m.From, string(m.Data))
	}
	return b
}

// meet restricts a box: that many datagrams of others, with that many bytes, are lost by it. Where datagrams and an error wait, one datagram is left.
func meet(t *testing.T, b *udp.Box, e api.End, lost, bytes int) {
	t.Helper()
	want := stateOf(b)
	told := want.ready && want.len == 0
	want.len -= lost
	want.held -= bytes
	want.lost += lost
	want.peer, want.restricted = e, e != api.End{}
	want.ready = want.len > 0 || told
	if err := b.Meet(e); err != api.OK {
		t.Errorf("Meet(%v): error %d", e, int(err))
	}
	stands(t, b, want)
}

// meetNot restricts a box to what is no end: nothing changes.
func meetNot(t *testing.T, b *udp.Box, e api.End, want api.Errno) {
	t.Helper()
	was := stateOf(b)
	if err := b.Meet(e); err != want {
		t.Errorf("Meet(%v): error %d, not %d", e, int(err), int(want))
	}
	stands(t, b, was)
}

// put puts a datagram.
func put(t *testing.T, b *udp.Box, from api.End, text string) {
	t.Helper()
	want := stateOf(b)
	want.len++
	want.held += len(text)
	want.ready = true
	if e := b.Put(mail(from, text)); e != api.OK {
		t.Errorf("Put of %d bytes from %v: error %d", len(text), from, int(e))
	}
	stands(t, b, want)
}

// putNot puts a datagram that is refused: it counts as lost if there is no room for it, and nothing else changes.
func putNot(t *testing.T, b *udp.Box, from api.End, text string, err api.Errno) {
	t.Helper()
	want := stateOf(b)
	if err == api.ErrFull {
		want.lost++
	}
	if e := b.Put(mail(from, text)); e != err {
		t.Errorf("Put of %d bytes from %v: error %d, not %d", len(text), from, int(e), int(err))
	}
	stands(t, b, want)
}

// take takes the first n bytes of a datagram with the whole text.
func take(t *testing.T, b *udp.Box, n int, from api.End, text string) {
	t.Helper()
	want := stateOf(b)
	want.len--
	want.held -= len(text)
	want.ready = want.len > 0
	m, whole, e := b.Take(n)
	if m.From != from || string(m.Data) != text[:min(n, len(text))] || whole != len(text) || e != api.OK {
		t.Errorf("Take(%d) = %q from %v of %d, error %d, not %q from %v", n, m.Data, m.From, whole, int(e), text, from)
	}
	stands(t, b, want)
}

// takeNot takes where there is nothing to be taken, or a number of bytes that is none: nothing changes.
func takeNot(t *testing.T, b *udp.Box, n int, want api.Errno) {
	t.Helper()
	was := stateOf(b)
	m, whole, e := b.Take(n)
	if m.From != (api.End{}) || len(m.Data) != 0 || whole != 0 || e != want {
		t.Errorf("Take(%d) = %q from %v of %d, error %d, not %d", n, m.Data, m.From, whole, int(e), int(want))
	}
	stands(t, b, was)
}

// takeTold takes an error that was told: it is gone then, and nothing else is.
func takeTold(t *testing.T, b *udp.Box, n int, want api.Errno) {
	t.Helper()
	was := stateOf(b)
	if !was.ready {
		t.Errorf("an error %d was told, and the box isn't ready", int(want))
	}
	was.ready = was.len > 0
	m, whole, e := b.Take(n)
	if m.From != (api.End{}) || len(m.Data) != 0 || whole != 0 || e != want {
		t.Errorf("Take(%d) = %q from %v of %d, error %d, not %d", n, m.Data, m.From, whole, int(e), int(want))
	}
	stands(t, b, was)
}

// tell tells an error: the box is ready then.
func tell(t *testing.T, b *udp.Box, e api.Errno) {
	t.Helper()
	want := stateOf(b)
	want.ready = true
	b.Tell(e)
	stands(t, b, want)
}

// drain takes all datagrams: these and no others are there.
func drain(t *testing.T, b *udp.Box, mails ...api.Mail) {
	t.Helper()
	if b.Len() != len(mails) {
		t.Errorf("Len() = %d, not %d", b.Len(), len(mails))
	}
	for _, m := range mails {
		take(t, b, math.MaxInt, m.From, string(m.Data))
	}
	takeNot(t, b, math.MaxInt, api.ErrNone)
	if b.Len() != 0 || b.Held() != 0 || b.Ready() {
		t.Errorf("behind all: %+v", stateOf(b))
	}
}

// P19.2: the chapter's example.
func TestExample(t *testing.T) {
	b := start(t, 8, 4)
	if e := b.Put(mail(end(1, 10), "abc")); e != api.OK {
		t.Errorf("Put of 3 bytes: error %d", int(e))
	}
	if e := b.Put(mail(end(1, 10), "de")); e != api.ErrFull {
		t.Errorf("Put of 2 bytes: error %d", int(e))
	}
	m, whole, e := b.Take(2)
	if string(m.Data) != "ab" || m.From != end(1, 10) || whole != 3 || e != api.OK {
		t.Errorf("Take(2) = %v, %d, error %d", m, whole, int(e))
	}
	if b.Lost() != 1 {
		t.Errorf("Lost() = %d", b.Lost())
	}
}

// P19.1: a new box is empty, without a restriction, and has the capacity that was asked for.
func TestNew(t *testing.T) {
	for _, most := range []int{1, 2, 3, 63, 64} {
		for _, room := range []int{1, 2, 65, 1000, 65535, 1<<20 - 1, 1 << 20} {
			b := start(t, most, room)
			takeNot(t, b, 0, api.ErrNone)
			putNot(t, b, end(1, 10), letters(room+1), api.ErrFull)
			put(t, b, end(1, 10), letters(room))
			putNot(t, b, end(1, 10), "x", api.ErrFull)
			drain(t, b, mail(end(1, 10), letters(room)))
			for range most {
				put(t, b, end(1, 10), "")
			}
			putNot(t, b, end(1, 10), "", api.ErrFull)
			if b.Lost() != 3 {
				t.Errorf("New(%d, %d): Lost() = %d", most, room, b.Lost())
			}
		}
	}
}

// P19.1: most may be 1 to MaxGrams, and room 1 to MaxHose.
func TestNewOutOfRange(t *testing.T) {
	for _, most := range extremes() {
		for _, room := range extremes() {
			b, e := udp.New(most, room)
			if 1 <= most && most <= 64 && 1 <= room && room <= 1<<20 {
				if b == nil || e != api.OK {
					t.Errorf("New(%d, %d): error %d", most, room, int(e))
				}
				continue
			}
			if b != nil || e != api.ErrArg {
				t.Errorf("New(%d, %d) = %v, error %d", most, room, b, int(e))
			}
		}
	}
}

// P19.1 to P19.3: what a nil box answers, whatever it is given.
func TestNilBox(t *testing.T) {
	var b *udp.Box
	for _, e := range append(ends(), end(1, 0), end(far, 0)) {
		meetNot(t, b, e, api.ErrNil)
		for _, text := range []string{"", "a", letters(1<<20 + 1)} {
			if err := b.Put(mail(e, text)); err != api.ErrNil {
				t.Errorf("Put of %d bytes from %v: error %d", len(text), e, int(err))
			}
		}
		if err := b.Put(api.Mail{From: e}); err != api.ErrNil {
			t.Errorf("Put of nil from %v: error %d", e, int(err))
		}
	}
	for _, n := range extremes() {
		takeNot(t, b, n, api.ErrNil)
		b.Tell(api.Errno(n))
		takeNot(t, b, n, api.ErrNil)
	}
	stands(t, b, state{})
}

// P19.1 to P19.3: no call of one box shows in another.
func TestBoxesDoNotAffectOneAnother(t *testing.T) {
	one, two := end(1, 10), end(2, 10)
	b, other, third := start(t, 2, 10), start(t, 2, 10), start(t, 2, 10)
	put(t, b, one, "abc")
	put(t, b, two, "defg")
	stands(t, other, state{})
	meet(t, other, two, 0, 0)
	putNot(t, other, one, "abc", api.ErrNone)
	put(t, other, two, "xy")
	tell(t, other, api.ErrRefused)
	stands(t, b, state{len: 2, held: 7, ready: true})
	putNot(t, b, one, "", api.ErrFull)
	stands(t, other, state{1, 2, 0, true, two, true})
	takeTold(t, other, 5, api.ErrRefused)
	take(t, b, 9, one, "abc")
	tell(t, b, api.ErrReset)
	take(t, other, 9, two, "xy")
	stands(t, other, state{0, 0, 0, false, two, true})
	takeTold(t, b, 9, api.ErrReset)
	meet(t, b, one, 1, 4)
	stands(t, other, state{0, 0, 0, false, two, true})
	takeNot(t, b, 9, api.ErrNone)
	stands(t, third, state{})
	put(t, third, end(3, 10), "z")
	drain(t, third, mail(end(3, 10), "z"))
}

// P19.1 to P19.3: asking changes nothing, neither what is told nor what is taken.
func TestAskingChangesNothing(t *testing.T) {
	b := start(t, 3, 10)
	meet(t, b, end(1, 10), 0, 0)
	put(t, b, end(1, 10), "abc")
	put(t, b, end(1, 10), "")
	putNot(t, b, end(1, 10), letters(8), api.ErrFull)
	tell(t, b, api.ErrRefused)
	for range 5 {
		stands(t, b, state{2, 3, 1, true, end(1, 10), true})
	}
	takeTold(t, b, 1, api.ErrRefused)
	for range 5 {
		stands(t, b, state{2, 3, 1, true, end(1, 10), true})
	}
	drain(t, b, mail(end(1, 10), "abc"), mail(end(1, 10), ""))
}
