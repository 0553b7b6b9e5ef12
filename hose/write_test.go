package hose_test

import (
	"testing"

	"towrope/api"
)

// P15.1: no bytes, into a hose that is empty, in part full, and full.
func TestWriteOfNoBytes(t *testing.T) {
	h := start(t, 3)
	for n := range 4 {
		if got := h.Write(nil); got != 0 {
			t.Errorf("Write(nil) = %d", got)
		}
		if got := h.Write([]byte{}); got != 0 {
			t.Errorf("Write of no bytes = %d", got)
		}
		if got := h.Write(make([]byte, 0, 9)); got != 0 {
			t.Errorf("Write of no bytes with a capacity = %d", got)
		}
		expect(t, h, letters(n), 3-n, n, 0)
		h.Write([]byte(letters(n + 1)[n:]))
	}
}

// P15.1: of each number of bytes, as many of the first as there is room for: from each place in the ring on, into a hose with each number of bytes.
func TestWriteTakesTheFirstThatHaveRoom(t *testing.T) {
	for room := 1; room <= 9; room++ {
		for place := range 2*room + 1 {
			for had := range room + 1 {
				for n := range room + 4 {
					h := filled(t, room, place, letters(had))
					bytes := "ABCDEFGHIJKLMNOP"[:n]
					write(t, h, bytes, min(n, room-had))
					want := letters(had) + bytes[:min(n, room-had)]
					expect(t, h, want, room-len(want), place+len(want), place)
					read(t, h, room, want)
				}
			}
		}
	}
}

// P15.1: writes one behind the other, which come to go round the end of the ring at every place.
func TestWritesGoRoundTheEnd(t *testing.T) {
	for room := 1; room <= 12; room++ {
		for n := 1; n <= room; n++ {
			h := start(t, room)
			for round := range 3 * room {
				bytes := letters(26)[round%10:][:n]
				write(t, h, bytes, n)
				peek(t, h, 0, n, bytes)
				write(t, h, letters(room), room-n)
				write(t, h, "!", 0)
				read(t, h, n, bytes)
				read(t, h, room, letters(room-n))
			}
		}
	}
}

// P15.1: byte by byte, as all at once.
func TestWriteByteByByte(t *testing.T) {
	for place := range 7 {
		h := filled(t, 7, place, "")
		for i, c := range letters(9) {
			write(t, h, string(c), min(1, 7-min(i, 7)))
		}
		expect(t, h, letters(7), 0, place+7, place)
		read(t, h, 7, letters(7))
	}
}

// P15.1: any bytes are written, 0 and 255 among them.
func TestWriteOfAnyBytes(t *testing.T) {
	all := make([]byte, 256)
	for i := range all {
		all[i] = byte(i)
	}
	for _, place := range []int{0, 1, 100, 255, 256} {
		h := filled(t, 257, place, string(all))
		peek(t, h, 0, 256, string(all))
		write(t, h, "\x00\x00", 1)
		read(t, h, 257, string(all)+"\x00")
	}
}

// P15.1: what was in the ring before does not come out again, whatever was there.
func TestWhatIsGoneStaysGone(t *testing.T) {
	h := start(t, 6)
	for round := range 30 {
		write(t, h, "SECRET", 6)
		drop(t, h, 6, 6)
		read(t, h, 6, "")
		write(t, h, "ab", 2)
		peek(t, h, 0, 6, "ab")
		peek(t, h, 2, 1, "")
		if round%2 == 0 {
			read(t, h, 6, "ab")
		} else {
			drop(t, h, 6, 2)
		}
	}
}

// The greatest hose, from several places on.
func TestWriteToTheGreatestHose(t *testing.T) {
	s := letters(api.MaxHose + 5)
	for _, place := range []int{0, 1, 1 << 19, 1<<20 - 1, 1 << 20} {
		h := start(t, api.MaxHose)
		write(t, h, s[:place], place)
		drop(t, h, place, place)
		write(t, h, s, api.MaxHose)
		write(t, h, "a", 0)
		read(t, h, 3, "abc")
		write(t, h, "XYZ!", 3)
		drop(t, h, api.MaxHose-3, api.MaxHose-3)
		read(t, h, api.MaxHose, "XYZ")
		expect(t, h, "", api.MaxHose, place+api.MaxHose+3, place+api.MaxHose+3)
	}
}
