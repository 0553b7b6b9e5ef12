package udp_test

import (
	"math"
	"slices"
	"testing"

	"towrope/api"
	"towrope/udp"
)

// spoil writes over all of a slice, its unused capacity included.
func spoil(b []byte) {
	b = b[:cap(b)]
	for i := range b {
		b[i] = '#'
	}
}

// What was put may be written over, and what lies behind it in memory: the box stays as it is, and changes nothing of it.
func TestArgumentOfPutIsLeftAlone(t *testing.T) {
	one := end(1, 10)
	for n := range 12 {
		memory := []byte(letters(20))
		data := memory[4 : 4+n]
		b := start(t, 64, 1000)
		for range 2 {
			if e := b.Put(api.Mail{From: one, Data: data}); e != api.OK {
				t.Fatalf("Put of %d bytes: error %d", n, int(e))
			}
			if string(memory) != letters(20) {
				t.Fatalf("Put changed %q", memory)
			}
		}
		spoil(memory)
		put(t, b, one, "other")
		for range 2 {
			m, _, _ := b.Take(math.MaxInt)
			if string(m.Data) != letters(20)[4:4+n] {
				t.Fatalf("Put of %d bytes kept %q", n, m.Data)
			}
			spoil(m.Data)
		}
		drain(t, b, mail(one, "other"))
		if string(memory) != "####################" {
			t.Fatalf("a Take changed %q", memory)
		}
	}
}

// The data of a Put that is refused is neither changed nor kept.
func TestArgumentOfRefusedPutIsLeftAlone(t *testing.T) {
	one := end(1, 10)
	b := start(t, 1, 8)
	memory := []byte(letters(20))
	for _, c := range []struct {
		from api.End
		n    int
		want api.Errno
	}{{one, 9, api.ErrFull}, {one, 8, api.OK}, {one, 0, api.ErrFull}, {one, 1, api.ErrFull}, {end(2, 10), 1, api.ErrFull}} {
		if e := b.Put(api.Mail{From: c.from, Data: memory[:c.n]}); e != c.want {
			t.Errorf("Put of %d bytes: error %d, not %d", c.n, int(e), int(c.want))
		}
	}
	meet(t, b, one, 0, 0)
	putNot(t, b, end(2, 10), "a", api.ErrNone)
	if string(memory) != letters(20) {
		t.Errorf("Put changed %q", memory)
	}
	spoil(memory)
	drain(t, b, mail(one, letters(8)))
}

// What Take returned may be written over, its unused capacity too: the datagrams that wait stay as they are.
func TestResultsAreNewMemory(t *testing.T) {
	one := end(1, 10)
	for size := range 10 {
		for n := range size + 2 {
			b := filled(t, mail(one, letters(size)), mail(one, letters(size)), mail(one, letters(size+1)))
			first, _, _ := b.Take(n)
			second, _, _ := b.Take(n)
			spoil(first.Data)
			if string(second.Data) != letters(size)[:min(n, size)] {
				t.Fatalf("a Take of %d of %d bytes shares with an earlier one: %q", n, size, second.Data)
			}
			spoil(second.Data)
			put(t, b, one, letters(3))
			drain(t, b, mail(one, letters(size+1)), mail(one, letters(3)))
		}
	}
}

// What a box does later does not show in what it returned, and writing over that does not show in what it does.
func TestResultsStayAsTheyWere(t *testing.T) {
	next := chance(3)
	boxes := []*udp.Box{start(t, 5, 40), start(t, 64, 300)}
	var had, want [][]byte
	for range 4000 {
		b := boxes[next(2)]
		switch next(6) {
		case 0, 1, 2:
			b.Put(mail(end(1, uint16(1+next(2))), letters(next(12))))
		case 3, 4:
			m, _, _ := b.Take(next(14))
			had = append(had, m.Data)
			want = append(want, slices.Clone(m.Data))
		default:
			b.Meet(end(1, uint16(1+next(2))))
			b.Meet(api.End{})
		}
	}
	was := []state{stateOf(boxes[0]), stateOf(boxes[1])}
	for i := range had {
		if string(had[i]) != string(want[i]) {
			t.Fatalf("result %d became %q, was %q", i, had[i], want[i])
		}
		spoil(had[i])
	}
	for i, b := range boxes {
		stands(t, b, was[i])
		for b.Len() > 0 {
			m, whole, e := b.Take(math.MaxInt)
			if string(m.Data) != letters(len(m.Data)) || whole != len(m.Data) || e != api.OK {
				t.Fatalf("%q waited, error %d", m.Data, int(e))
			}
		}
	}
}

// What was taken may be put again, into the same box and into another.
func TestResultIsPutAgain(t *testing.T) {
	one := end(1, 10)
	b, other := filled(t, mail(one, "abcdef"), mail(one, "ghijkl")), start(t, 64, 1000)
	for range 10 {
		m, _, _ := b.Take(6)
		for _, x := range []*udp.Box{b, other} {
			if e := x.Put(m); e != api.OK {
				t.Fatalf("error %d", int(e))
			}
		}
		spoil(m.Data)
	}
	drain(t, b, mail(one, "abcdef"), mail(one, "ghijkl"))
	for range 5 {
		take(t, other, 9, one, "abcdef")
		take(t, other, 9, one, "ghijkl")
	}
	takeNot(t, other, 9, api.ErrNone)
}

// The same calls have the same answers.
func TestSameCallsSameAnswers(t *testing.T) {
	for seed := range uint64(20) {
		next, again := chance(seed), chance(seed)
		b, other := newBoth(t, 4, 20), newBoth(t, 4, 20)
		for range 500 {
			b.do(anyCall(next, 3, 9))
			other.do(anyCall(again, 3, 9))
			if stateOf(b.b) != stateOf(other.b) {
				t.Fatalf("seed %d: %+v and %+v", seed, stateOf(b.b), stateOf(other.b))
			}
		}
	}
}
