package agenda_test

import (
	"math"
	"testing"

	"towrope/api"
)

// P14.2: with now just below, at and above an At.
func TestPopHasItsBounds(t *testing.T) {
	for _, at := range extremes() {
		a := start(t, 2)
		pop(t, a, at) // of none
		push(t, a, item(1, at, 0), item(2, at, 1))
		if at > math.MinInt {
			pop(t, a, math.MinInt)
			pop(t, a, at-1)
		}
		expect(t, a, item(1, at, 0), item(2, at, 1))
		pop(t, a, at, item(1, at, 0), item(2, at, 1))
		pop(t, a, at)
		push(t, a, item(1, at, 0))
		if at < math.MaxInt {
			pop(t, a, at+1, item(1, at, 0))
			push(t, a, item(1, at, 0))
		}
		pop(t, a, math.MaxInt, item(1, at, 0))
		pop(t, a, math.MaxInt)
	}
}

// P14.2: each now with each At.
func TestPopTakesWhatIsDueAndNoMore(t *testing.T) {
	l := extremes()
	for _, way := range ways(len(l)) {
		for due, now := range l {
			a := start(t, len(l))
			for _, no := range way {
				push(t, a, item(no, l[no], -no))
			}
			var want []api.Item
			for no := range due + 1 {
				want = append(want, item(no, l[no], -no))
			}
			pop(t, a, now, want...)
			pop(t, a, now)
			want = nil
			for no := due + 1; no < len(l); no++ {
				want = append(want, item(no, l[no], -no))
			}
			pop(t, a, math.MaxInt, want...)
		}
	}
}

// P14.2: none of them, one, many and all.
func TestPopOneByOneAndManyAtOnce(t *testing.T) {
	for n := 1; n <= 40; n++ {
		for _, way := range ways(n) {
			for step := 1; step <= n; step++ {
				a := start(t, n)
				for _, no := range way {
					push(t, a, item(no, 100+no/3, no%3))
				}
				for now, next := 99, 0; next < n; now += step {
					var want []api.Item
					for ; next < n && 100+next/3 <= now; next++ {
						want = append(want, item(next, 100+next/3, next%3))
					}
					pop(t, a, now, want...)
				}
				pop(t, a, math.MaxInt)
				expect(t, a)
			}
		}
	}
}

// P14.2: now may be less than it was before: an agenda has no tick of its own.
func TestPopBackwards(t *testing.T) {
	a := start(t, 9)
	push(t, a, item(1, 10, 0), item(2, 1000, 0))
	pop(t, a, 100, item(1, 10, 0))
	push(t, a, item(3, 50, 0), item(4, 7, 0)) // their At has passed
	pop(t, a, 6)
	pop(t, a, 7, item(4, 7, 0))
	pop(t, a, 49)
	pop(t, a, 100, item(3, 50, 0))
	pop(t, a, -5)
	pop(t, a, 1000, item(2, 1000, 0))
}

// P14.2: Rank does not tell whether an item is due.
func TestPopGoesByAtAlone(t *testing.T) {
	a := start(t, 9)
	push(t, a, item(5, 20, -100), item(4, 10, 100), item(3, 10, math.MaxInt), item(2, 11, math.MinInt), item(100, 12, 0))
	pop(t, a, 9)
	pop(t, a, 10, item(4, 10, 100), item(3, 10, math.MaxInt))
	pop(t, a, 11, item(2, 11, math.MinInt))
	pop(t, a, 19, item(100, 12, 0))
	pop(t, a, 20, item(5, 20, -100))
}

// P14.2: what was popped is gone, and can be pushed again as a new one.
func TestPoppedIsGone(t *testing.T) {
	a := start(t, 2)
	for round := range 200 {
		at := 37 * round
		push(t, a, item(1, at, 0), item(2, at-1, 0))
		expect(t, a, item(2, at-1, 0), item(1, at, 0))
		pop(t, a, at, item(2, at-1, 0), item(1, at, 0))
		expect(t, a)
		drop(t, a, 1, false)
		miss(t, a, 2, at, 0)
		pop(t, a, math.MaxInt)
	}
}

// P14.2: of a full agenda.
func TestPopOfManyItems(t *testing.T) {
	a := start(t, 4096)
	for i := range 4096 {
		no := i * 1235 % 4096
		if e := a.Push(item(no, no/16, no%16)); e != api.OK {
			t.Fatal(i, int(e))
		}
	}
	next := 0
	for now := -1; now < 256; now += 5 {
		got := a.Pop(now)
		for _, x := range got {
			if x != item(next, next/16, next%16) || x.At > now {
				t.Fatalf("Pop(%d): %v, and %d were popped", now, x, next)
			}
			next++
		}
		if next != 16*(now+1) || a.Len() != 4096-next {
			t.Fatalf("Pop(%d): %d were popped, %d are left", now, next, a.Len())
		}
	}
	if got := a.Pop(math.MaxInt); len(got) != 4096-next {
		t.Error(len(got), next)
	}
	expect(t, a)
}
