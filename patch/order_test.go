package patch_test

import (
	"strings"
	"testing"

	"towrope/api"
	"towrope/patch"
)

// piece is a part of a text, from one index up to another.
type piece struct{ from, to int }

// cuts calls f with each way to cut a text of n bytes into pieces.
func cuts(n int, f func(l []piece)) {
	for where := range 1 << (n - 1) {
		var l []piece
		from := 0
		for to := 1; to <= n; to++ {
			if to == n || where>>(to-1)&1 != 0 {
				l = append(l, piece{from, to})
				from = to
			}
		}
		f(l)
	}
}

// orders calls f with the pieces in each order.
func orders(l []piece, f func(l []piece)) {
	var swap func(at int)
	swap = func(at int) {
		if at == len(l) {
			f(l)
			return
		}
		for i := at; i < len(l); i++ {
			l[at], l[i] = l[i], l[at]
			swap(at + 1)
			l[at], l[i] = l[i], l[at]
		}
	}
	swap(0)
}

// arrive puts a piece of a text at its index minus the number of bytes taken.
func arrive(p *patch.Patch, text string, x piece) int {
	return p.Put(x.from-p.Moved(), []byte(text[x.from:x.to]))
}

// P16.3: a text cut in all ways, in all orders, nothing being taken before all is there, and after each piece as much as there is or one byte.
func TestTextInAllPiecesAndOrders(t *testing.T) {
	const s = "towrope"
	for _, n := range []int{0, 1, len(s)} {
		cuts(len(s), func(l []piece) {
			orders(l, func(l []piece) {
				p := start(t, len(s))
				got := ""
				for _, x := range l {
					if kept := arrive(p, s, x); kept != x.to-x.from {
						t.Fatalf("%v: %d of %v are new", l, kept, x)
					}
					got += string(p.Take(n))
				}
				if got += string(p.Take(len(s))); got != s || p.Moved() != len(s) || p.Len() != 0 {
					t.Fatalf("%v, taking %d: %q", l, n, got)
				}
			})
		})
	}
}

// P16.3: each piece a second time, at each place of the order, with takes after any of the pieces.
func TestTextWithRepeatedPieces(t *testing.T) {
	const s = "rings"
	cuts(len(s), func(l []piece) {
		orders(l, func(l []piece) {
			for again := range l {
				for at := again + 1; at <= len(l); at++ {
					more := append(append(append([]piece{}, l[:at]...), l[again]), l[at:]...)
					for takes := range 1 << len(more) {
						p := start(t, len(s))
						got := ""
						for i, x := range more {
							arrive(p, s, x)
							if takes>>i&1 != 0 {
								got += string(p.Take(1 + i))
							}
						}
						if got += string(p.Take(len(s))); got != s || p.Len() != 0 {
							t.Fatalf("%v, takes %b: %q", more, takes, got)
						}
					}
				}
			}
		})
	})
}

// P16.3: pieces that overlap with one another: all ways to cut a text, in all orders, and then those of another way.
func TestTextInOverlappingPieces(t *testing.T) {
	const s = "hosts"
	cuts(len(s), func(a []piece) {
		cuts(len(s), func(b []piece) {
			orders(a, func(a []piece) {
				p := start(t, len(s))
				got := ""
				for i := range max(len(a), len(b)) {
					if i < len(b) {
						arrive(p, s, b[len(b)-1-i])
					}
					if i < len(a) {
						arrive(p, s, a[i])
					}
					got += string(p.Take(2))
				}
				if got += string(p.Take(len(s))); got != s || p.Len() != 0 {
					t.Fatalf("%v and %v: %q", a, b, got)
				}
			})
		})
	})
}

// P16.3: texts much longer than the patch, in pieces of no plain pattern, which are put until their bytes were taken; what is taken is the text as far as it came, at every moment.
func TestLongTextThroughPatches(t *testing.T) {
	for seed := range uint64(60) {
		next := chance(seed)
		room := 1 + next(1<<(1+seed%11))
		s := text(next, 20*room)
		p := start(t, room)
		taken := 0
		for taken < len(s) {
			from := min(len(s)-1, max(0, taken+next(2*room)-room/2-next(2)))
			arrive(p, s, piece{from, from + 1 + next(min(len(s)-from, room+3))})
			if next(3) == 0 {
				b := string(p.Take(next(room + 2)))
				if !strings.HasPrefix(s[taken:], b) {
					t.Fatalf("room %d: %q was taken at %d", room, b, taken)
				}
				taken += len(b)
			}
			if p.Moved() != taken || p.Len() < p.Ready() || p.Len() > room {
				t.Fatalf("room %d: %+v, and %d were taken", room, stateOf(p), taken)
			}
		}
		expect(t, p, points(room), len(s))
	}
}

// P16.3: the greatest patch, a piece as long as a segment's data at a time, in an order of no plain pattern, some pieces repeatedly.
func TestTextInTheGreatestPatch(t *testing.T) {
	const mss, room = 1460, api.MaxHose
	next := chance(3)
	s := text(next, room)
	var l []piece
	for from := 0; from < room; from += mss {
		l = append(l, piece{from, min(from+mss, room)})
	}
	for i := range l {
		k := i + next(len(l)-i)
		l[i], l[k] = l[k], l[i]
	}
	p := start(t, room)
	got := make([]byte, 0, room)
	for i, x := range l {
		if n := arrive(p, s, x); n != x.to-x.from {
			t.Fatal(i, x, n)
		}
		if n := arrive(p, s, l[next(i+1)]); n != 0 {
			t.Fatal(i, n)
		}
		if i%7 == 0 {
			got = append(got, p.Take(next(3*mss))...)
		}
	}
	got = append(got, p.Take(room)...)
	if string(got) != s || p.Len() != 0 || p.Moved() != room {
		t.Fatal(len(got), p.Len(), p.Moved())
	}
}
