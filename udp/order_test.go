package udp_test

import (
	"math"
	"testing"

	"towrope/api"
	"towrope/udp"
)

// name is a text for the datagram with this number, of at least three bytes.
func name(no int) string {
	return string([]byte{byte(no >> 16), byte(no >> 8), byte(no)}) + letters(no%9)
}

// number is that of the datagram with such a text.
func number(t *testing.T, text []byte) int {
	t.Helper()
	if len(text) < 3 {
		t.Fatalf("%q was taken, and never put", text)
	}
	no := int(text[0])<<16 | int(text[1])<<8 | int(text[2])
	if string(text) != name(no) {
		t.Fatalf("%q was taken, and never put", text)
	}
	return no
}

// P19.4: what is taken is what was put, in this order and each once, where nothing is lost: with as many waiting as there may be, or with fewer.
func TestTakenInTheOrderOfPut(t *testing.T) {
	for _, most := range []int{1, 2, 3, 10, 64} {
		for waiting := 1; waiting <= most; waiting += 1 + most/7 {
			b := start(t, most, 1000)
			taken := 0
			for no := range 400 {
				put(t, b, end(1, uint16(1+no%3)), name(no))
				if b.Len() == waiting {
					take(t, b, 20, end(1, uint16(1+taken%3)), name(taken))
					taken++
				}
			}
			for ; taken < 400; taken++ {
				take(t, b, 20, end(1, uint16(1+taken%3)), name(taken))
			}
			takeNot(t, b, 20, api.ErrNone)
			if b.Lost() != 0 {
				t.Errorf("%d lost", b.Lost())
			}
		}
	}
}

// run is a long run of calls, and what became of each datagram.
type run struct {
	t     *testing.T
	b     *udp.Box
	from  []api.End
	fate  []string // of each number: "put", "lost", "refused" or "taken"
	peer  api.End
	taken int // the number behind the last one that was taken
}

// put puts the next datagram.
func (r *run) put(from api.End) {
	no := len(r.fate)
	before := r.b.Lost()
	e := r.b.Put(mail(from, name(no)))
	fate := "put"
	if e == api.ErrNone {
		fate = "refused"
	} else if e == api.ErrFull {
		fate = "lost"
	}
	r.fate = append(r.fate, fate)
	r.from = append(r.from, from)
	if (r.b.Lost() == before+1) != (fate == "lost") {
		r.t.Fatalf("Put number %d: error %d, and %d lost", no, int(e), r.b.Lost()-before)
	}
	if (fate == "refused") != (r.peer != api.End{} && from != r.peer) {
		r.t.Fatalf("Put number %d from %v, where %v is met: error %d", no, from, r.peer, int(e))
	}
}

// meet restricts the box: as many are lost as are waiting from others.
func (r *run) meet(e api.End) {
	before, lost := r.b.Lost(), 0
	if r.b.Meet(e) != api.OK {
		r.t.Fatalf("Meet(%v)", e)
	}
	r.peer = e
	for no, fate := range r.fate {
		if fate == "put" && r.from[no] != e && e != (api.End{}) {
			r.fate[no] = "lost"
			lost++
		}
	}
	if r.b.Lost() != before+lost {
		r.t.Fatalf("Meet(%v): %d lost, not %d", e, r.b.Lost()-before, lost)
	}
}

// take takes a datagram: it is the first one that was put and not lost behind those that were taken.
func (r *run) take() {
	m, whole, e := r.b.Take(math.MaxInt)
	if e == api.ErrNone {
		return
	}
	no := number(r.t, m.Data)
	if no >= len(r.fate) || r.fate[no] != "put" || m.From != r.from[no] || whole != len(m.Data) || e != api.OK {
		r.t.Fatalf("number %d was taken from %v, error %d", no, m.From, int(e))
	}
	for ; r.taken < no; r.taken++ {
		if r.fate[r.taken] == "put" {
			r.t.Fatalf("number %d was taken ahead of %d", no, r.taken)
		}
	}
	r.fate[no] = "taken"
	r.taken = no + 1
}

// P19.4: over long runs of calls, what was put is taken in this order and each once, or was lost.
func TestTakenOrLost(t *testing.T) {
	for seed := range uint64(30) {
		next := chance(seed)
		r := &run{t: t, b: start(t, 1+int(seed*7%64), 20+int(seed)*15)}
		ends := []api.End{end(1, 10), end(2, 10), end(0, 10)}
		for range 3000 {
			switch k := next(40); {
			case k < 22:
				r.put(ends[next(3)*next(2)])
			case k < 38:
				r.take()
			case k < 39:
				r.meet(ends[next(3)])
			default:
				r.meet(api.End{})
			}
			if next(10) == 0 {
				r.b.Tell(api.ErrReset)
				if _, _, e := r.b.Take(5); e != api.ErrReset {
					t.Fatalf("error %d", int(e))
				}
			}
		}
		for r.b.Len() > 0 {
			r.take()
		}
		count := map[string]int{}
		for _, fate := range r.fate {
			count[fate]++
		}
		if count["put"] != 0 || count["lost"] != r.b.Lost() || count["taken"] < 300 || count["lost"] < 5 || count["refused"] < 50 {
			t.Errorf("seed %d: %v, and %d lost", seed, count, r.b.Lost())
		}
	}
}
