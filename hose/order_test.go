package hose_test

import (
	"math"
	"testing"

	"towrope/api"
)

// stream tells the byte with a number, of a long row in which no short part comes again soon.
func stream(no int) byte { return byte(no*31 + no/256*7 + no>>16) }

// part is a piece of the stream, from one number to another.
func part(from, to int) []byte {
	b := make([]byte, to-from)
	for i := range b {
		b[i] = stream(from + i)
	}
	return b
}

// isPart tells whether bytes are those of the stream from a number on.
func isPart(b []byte, from int) bool {
	for i, c := range b {
		if c != stream(from+i) {
			return false
		}
	}
	return true
}

// P15.3: over long runs of calls, the bytes removed are, in order, the first of those written: what is written goes on where the last write ended, and so does what is removed.
func TestRemovedInTheOrderWritten(t *testing.T) {
	for seed := range uint64(60) {
		next := chance(seed)
		room := 1 + next(1<<(1+seed%12))
		h := start(t, room)
		in, out := 0, 0
		for step := range 3000 {
			switch next(4) {
			case 0, 1:
				in += h.Write(part(in, in+next(room*3/2+2)))
			case 2:
				b := h.Read(next(room + 2))
				if !isPart(b, out) {
					t.Fatalf("room %d, step %d: Read = %v, not the bytes from %d on", room, step, b, out)
				}
				out += len(b)
			default:
				at := next(room)
				if b := h.Peek(at, next(room+2)); !isPart(b, out+at) {
					t.Fatalf("room %d, step %d: Peek = %v, not the bytes from %d on", room, step, b, out+at)
				}
				out += h.Drop(next(room/2 + 2))
			}
			if i, o := h.Passed(); i != in || o != out || o > i || h.Len() != in-out {
				t.Fatalf("room %d, step %d: %d in, %d out, of %d and %d", room, step, i, o, in, out)
			}
		}
		if b := h.Read(room); len(b) != in-out || !isPart(b, out) {
			t.Fatalf("room %d: at last %v, not the bytes from %d to %d", room, b, out, in)
		}
		if in < 20*room {
			t.Errorf("room %d: %d bytes", room, in)
		}
	}
}

// P15.3: with writes and reads of one size each, for all sizes up to a room.
func TestOrderForAllSizes(t *testing.T) {
	for room := 1; room <= 10; room++ {
		for more := 1; more <= room+1; more++ {
			for less := 1; less <= room+1; less++ {
				h := start(t, room)
				in, out := 0, 0
				for range 5 * room {
					in += h.Write(part(in, in+more))
					b := h.Read(less)
					if !isPart(b, out) {
						t.Fatal(room, more, less, out, b)
					}
					out += len(b)
				}
				if in-out != h.Len() || out < 5*room {
					t.Fatal(room, more, less, in, out)
				}
			}
		}
	}
}

// P15.3: a hose that is kept full, and is as great as it may be.
func TestOrderInTheGreatestHose(t *testing.T) {
	h := start(t, api.MaxHose)
	in := h.Write(part(0, api.MaxHose))
	out := 0
	for _, n := range []int{1, 4095, 65536, 1 << 19, 1<<20 - 1, 1 << 20, 3} {
		b := h.Read(n)
		if len(b) != n || !isPart(b, out) {
			t.Fatal(n, len(b), out)
		}
		out += n
		in += h.Write(part(in, in+n+1))
		if h.Room() != 0 || in-out != api.MaxHose {
			t.Fatal(n, h.Room(), in, out)
		}
	}
	if b := h.Read(math.MaxInt); len(b) != api.MaxHose || !isPart(b, out) {
		t.Fatal(len(b), out)
	}
}
