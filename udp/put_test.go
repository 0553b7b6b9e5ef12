package udp_test

import (
	"testing"

	"towrope/api"
)

// P19.2: datagrams from any ends wait in the order in which they were put.
func TestPut(t *testing.T) {
	b := start(t, 64, 1000)
	var all []api.Mail
	for i, e := range append(ends(), end(1, 0), end(far, 0)) {
		for _, n := range []int{i, 0, 7} {
			put(t, b, e, letters(n))
			all = append(all, mail(e, letters(n)))
		}
	}
	drain(t, b, all...)
	if b.Lost() != 0 {
		t.Errorf("Lost() = %d", b.Lost())
	}
}

// P19.2: the bytes may be any.
func TestPutAnyBytes(t *testing.T) {
	b := start(t, 64, 1000)
	data := make([]byte, 256)
	for i := range data {
		data[i] = byte(i)
	}
	put(t, b, end(1, 10), string(data))
	put(t, b, end(1, 10), "\x00\x00")
	put(t, b, end(1, 10), "\xff")
	drain(t, b, mail(end(1, 10), string(data)), mail(end(1, 10), "\x00\x00"), mail(end(1, 10), "\xff"))
}

// P19.2: where one end is met, datagrams from others are refused, and are not lost.
func TestPutFromAnother(t *testing.T) {
	one := end(1, 10)
	b := start(t, 64, 1000)
	meet(t, b, one, 0, 0)
	for _, e := range append(ends(), end(1, 0), end(far, 0)) {
		if e == one {
			put(t, b, e, "abc")
		} else {
			putNot(t, b, e, "abc", api.ErrNone)
			putNot(t, b, e, "", api.ErrNone)
		}
	}
	put(t, b, one, "d")
	stands(t, b, state{2, 4, 0, true, one, true})
	drain(t, b, mail(one, "abc"), mail(one, "d"))
}

// P19.2: as many datagrams as most, and no more, though they have no bytes.
func TestPutMost(t *testing.T) {
	for most := 1; most <= 64; most++ {
		b := start(t, most, 64)
		for i := range most {
			put(t, b, end(1, uint16(1+i)), letters(i%2))
		}
		putNot(t, b, end(1, 10), "", api.ErrFull)
		putNot(t, b, end(1, 10), "a", api.ErrFull)
		stands(t, b, state{len: most, held: most / 2, lost: 2, ready: true})
		for i := range most {
			take(t, b, 9, end(1, uint16(1+i)), letters(i%2))
			put(t, b, end(2, uint16(1+i)), letters(1-i%2))
			putNot(t, b, end(1, 10), "", api.ErrFull)
		}
		for i := range most {
			take(t, b, 9, end(2, uint16(1+i)), letters(1-i%2))
		}
		takeNot(t, b, 9, api.ErrNone)
	}
}

// P19.2: as many bytes as room, in one datagram and in several, and no more; a datagram without bytes needs none.
func TestPutRoom(t *testing.T) {
	one := end(1, 10)
	for room := 1; room <= 20; room++ {
		for first := range room + 1 {
			b := start(t, 64, room)
			put(t, b, one, letters(first))
			for n := range room + 3 {
				if first+n > room {
					putNot(t, b, one, letters(n), api.ErrFull)
				}
			}
			stands(t, b, state{len: 1, held: first, lost: first + 2, ready: true})
			put(t, b, one, letters(room-first))
			putNot(t, b, one, "x", api.ErrFull)
			put(t, b, one, "")
			take(t, b, 0, one, letters(first))
			putNot(t, b, one, letters(first+1), api.ErrFull)
			put(t, b, one, letters(first))
			drain(t, b, mail(one, letters(room-first)), mail(one, ""), mail(one, letters(first)))
		}
	}
}

// P19.2: a datagram that is refused does not stand in the way of a smaller one.
func TestPutSmallerBehindRefused(t *testing.T) {
	one := end(1, 10)
	b := start(t, 64, 10)
	put(t, b, one, letters(7))
	putNot(t, b, one, letters(4), api.ErrFull)
	put(t, b, one, letters(2))
	putNot(t, b, one, letters(2), api.ErrFull)
	put(t, b, one, "z")
	putNot(t, b, one, "z", api.ErrFull)
	if b.Lost() != 3 {
		t.Errorf("Lost() = %d", b.Lost())
	}
	drain(t, b, mail(one, letters(7)), mail(one, letters(2)), mail(one, "z"))
}

// P19.2: the greatest box takes MaxGrams datagrams with MaxHose bytes in all.
func TestPutGreatest(t *testing.T) {
	one := end(1, 10)
	b := start(t, 64, 1<<20)
	for range 63 {
		put(t, b, one, letters(16384))
	}
	putNot(t, b, one, letters(16385), api.ErrFull)
	put(t, b, one, letters(16384))
	putNot(t, b, one, "", api.ErrFull)
	take(t, b, 1, one, letters(16384))
	putNot(t, b, one, letters(16385), api.ErrFull)
	put(t, b, one, letters(16383))
	stands(t, b, state{len: 64, held: 1<<20 - 1, lost: 3, ready: true})
	for range 63 {
		take(t, b, 0, one, letters(16384))
	}
	take(t, b, 0, one, letters(16383))
	putNot(t, b, one, letters(1<<20+1), api.ErrFull)
	put(t, b, one, letters(1<<20))
	drain(t, b, mail(one, letters(1<<20)))
}

// P19.2: of several faults the first one is told: an end that is not permitted ahead of a full box, and then nothing is lost.
func TestPutSeveralFaults(t *testing.T) {
	one, two := end(1, 10), end(2, 10)
	b := start(t, 2, 5)
	meet(t, b, one, 0, 0)
	putNot(t, b, two, letters(6), api.ErrNone)
	put(t, b, one, "abcde")
	putNot(t, b, two, "f", api.ErrNone)
	putNot(t, b, one, "f", api.ErrFull)
	put(t, b, one, "")
	putNot(t, b, two, "", api.ErrNone)
	putNot(t, b, two, "f", api.ErrNone)
	putNot(t, b, one, "", api.ErrFull)
	putNot(t, b, one, "f", api.ErrFull)
	putNot(t, b, one, letters(6), api.ErrFull)
	stands(t, b, state{2, 5, 4, true, one, true})
	meet(t, b, api.End{}, 0, 0)
	putNot(t, b, two, "f", api.ErrFull)
	drain(t, b, mail(one, "abcde"), mail(one, ""))
}

// P19.2: an error that was told takes no room, and hinders no Put.
func TestPutBehindWhatWasTold(t *testing.T) {
	one := end(1, 10)
	b := start(t, 2, 5)
	tell(t, b, api.ErrRefused)
	put(t, b, one, "abcd")
	put(t, b, one, "e")
	putNot(t, b, one, "", api.ErrFull)
	takeTold(t, b, 9, api.ErrRefused)
	drain(t, b, mail(one, "abcd"), mail(one, "e"))
}

// P19.2: a Put that is refused leaves what was told as it is.
func TestPutRefusedLeavesWhatWasTold(t *testing.T) {
	one := end(1, 10)
	b := start(t, 2, 5)
	meet(t, b, one, 0, 0)
	tell(t, b, api.ErrRefused)
	putNot(t, b, end(2, 10), "a", api.ErrNone)
	putNot(t, b, one, letters(6), api.ErrFull)
	takeTold(t, b, 9, api.ErrRefused)
	takeNot(t, b, 9, api.ErrNone)
}
