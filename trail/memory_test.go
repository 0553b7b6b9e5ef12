package trail_test

import (
	"slices"
	"testing"

	"towrope/api"
	"towrope/trail"
)

// Rules: Memory, Nil and empty, Determinism.

func TestFirstLeavesItsArguments(t *testing.T) {
	room := []error{nil, api.ErrFull, nil, plain, api.ErrSum, nil}
	want := slices.Clone(room)
	if got := trail.First(room[:4]...); got != api.ErrFull {
		t.Errorf("First = %v", got)
	}
	if got := trail.First(room[:1]...); got != nil {
		t.Errorf("First of nil, with unused capacity = %v", got)
	}
	if !slices.Equal(room, want) {
		t.Errorf("First left %v", room)
	}
}

func TestPathsAreNewMemory(t *testing.T) {
	for _, n := range []int{1, 3, 64, 70} {
		err := along(places(n), api.ErrFull)
		want := places(n)[:min(n, 64)]
		a, b := trail.Path(err), trail.Path(err)
		for i := range a[:cap(a)] {
			a[:cap(a)][i] = api.Place{What: "over", No: 99}
		}
		if !slices.Equal(b, want) || !slices.Equal(trail.Path(err), want) || trail.Text(err) != told(want)+"error 5" {
			t.Errorf("%d Slips: a path shares memory", n)
		}
	}
}

func TestAsking(t *testing.T) {
	err := along(places(70), many{plain, api.ErrFull})
	for range 3 {
		if trail.Code(err) != api.ErrFull || !trail.Is(err, api.ErrFull) || len(trail.Path(err)) != 64 || trail.Res(err) != -5 {
			t.Error("an error that was asked answers otherwise")
		}
	}
}
