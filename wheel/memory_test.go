package wheel_test

import (
	"slices"
	"testing"

	"towrope/api"
	"towrope/wheel"
)

// spoil writes over all of a list, its unused capacity included.
func spoil(l []int) {
	l = l[:cap(l)]
	for i := range l {
		l[i] = -77
	}
}

// What Tick returns may be written over: neither the wheel nor what it returned before or returns later is changed.
func TestResultsAreNewMemory(t *testing.T) {
	for _, n := range []int{0, 1, 2, 3, 5, 100} {
		w := start(t, 0)
		var had [][]int
		for round := range 8 {
			at := 100 * (round + 1)
			var want []int
			for id := range n {
				set(t, w, id, at)
				set(t, w, 1000+id, at+100000)
				want = append(want, id)
			}
			got, e := w.Tick(at)
			if e != api.OK || !slices.Equal(got, want) {
				t.Fatal(got, int(e))
			}
			for _, l := range had {
				spoil(l)
			}
			if !slices.Equal(got, want) {
				t.Fatal("a result shares with an earlier one")
			}
			kept := slices.Clone(got)
			more, e := w.Tick(at)
			if e != api.OK || len(more) != 0 {
				t.Fatal(more, int(e))
			}
			spoil(more)
			if !slices.Equal(got, kept) {
				t.Fatal("a result shares with a later one")
			}
			spoil(got)
			for id := range n {
				due(t, w, 1000+id, at+100000)
			}
			had = append(had, got)
		}
		last, e := w.Tick(200000)
		for id := range n {
			if last[id] != 1000+id {
				t.Fatal(last, int(e))
			}
		}
		expect(t, w, bare(200000))
	}
}

// Results of two wheels, and of one after the other.
func TestResultsShareNothing(t *testing.T) {
	w, v := start(t, 0), start(t, 0)
	for id := range 6 {
		for _, x := range []*wheel.Wheel{w, v} {
			set(t, x, id, 10*(id/2+1))
		}
	}
	var all [][]int
	for now := 10; now <= 30; now += 10 {
		for _, x := range []*wheel.Wheel{w, v} {
			l, _ := x.Tick(now)
			all = append(all, l)
		}
	}
	for i := range all {
		want := []int{i / 2 * 2, i/2*2 + 1}
		if !slices.Equal(all[i], want) {
			t.Error(i, all[i], want)
		}
		spoil(all[i])
	}
}

// The same calls are answered alike.
func TestSameCallsSameAnswers(t *testing.T) {
	var first []int
	for round := range 5 {
		next := chance(5)
		w := start(t, 0)
		var all []int
		for range 2000 {
			w.Set(next(300), next(5000))
			if next(10) == 0 {
				l, _ := w.Tick(min(w.Now()+next(50), 5000))
				all = append(all, l...)
			}
		}
		l, _ := w.Tick(5000)
		all = append(all, l...)
		if round == 0 {
			first = all
		} else if !slices.Equal(all, first) {
			t.Fatal("other answers")
		}
	}
}
