package seq_test

import (
	"math"
	"math/big"
	"testing"

	"towrope/seq"
)

const (
	half = 1 << 31
	all  = 1 << 32
	trim = 1 << 20
)

// numbers are sequence numbers at which a call can go wrong.
var numbers = []uint32{0, 1, 2, 999, trim - 1, trim, half - 2, half - 1, half, half + 1, all - trim, all - 2, all - 1}

// counts are ints at which a call can go wrong: in each the 32 least significant bits, or all of them, lie at an edge.
var counts = []int{
	math.MinInt, math.MinInt + 1, -all - 1, -all, -all + 1, -half - 1, -half, -half + 1, -trim - 1, -trim, -2, -1,
	0, 1, 2, 3, 999, trim - 1, trim, trim + 1, half - 1, half, half + 1, all - 2, all - 1, all, all + 1, all + 5,
	1 << 40, 1<<40 + 7, math.MaxInt - 1, math.MaxInt,
}

// round is n modulo 2^32, told by numbers that have no bounds.
func round(n *big.Int) uint32 {
	return uint32(new(big.Int).Mod(n, big.NewInt(all)).Uint64())
}

// sum is a + b without bounds.
func sum(a, b int) *big.Int { return new(big.Int).Add(big.NewInt(int64(a)), big.NewInt(int64(b))) }

// P3.1: Add.

func TestAddIsTheSumModulo2To32(t *testing.T) {
	for _, s := range numbers {
		for _, n := range counts {
			if got, want := seq.Add(s, n), round(sum(int(s), n)); got != want {
				t.Errorf("Add(%d, %d) = %d, want %d", s, n, got, want)
			}
		}
	}
}

func TestAddAtEdges(t *testing.T) {
	for _, c := range []struct {
		s    uint32
		n    int
		want uint32
	}{
		{0, 0, 0}, {7, 5, 12}, {7, -5, 2}, {5, -7, all - 2}, {0, -1, all - 1}, {all - 1, 1, 0}, {all - 1, 3, 2},
		{half - 1, 1, half}, {half, -1, half - 1}, {half, half, 0}, {half, -half, 0}, {1, all, 1}, {1, all + 4, 5},
		{1, -all, 1}, {1, 3*all - 2, all - 1}, {5, math.MinInt, 5}, {5, math.MaxInt, 4}, {0, math.MaxInt, all - 1},
	} {
		if got := seq.Add(c.s, c.n); got != c.want {
			t.Errorf("Add(%d, %d) = %d, want %d", c.s, c.n, got, c.want)
		}
	}
}

// P3.1: Diff, Less, Max.

func TestDiffIsTheOneNumberInItsRange(t *testing.T) {
	for _, a := range numbers {
		for _, b := range numbers {
			d := seq.Diff(a, b)
			if d < -half || d > half-1 || round(sum(int(b), d)) != a || seq.Add(b, d) != a {
				t.Errorf("Diff(%d, %d) = %d", a, b, d)
			}
		}
	}
}

func TestDiffLessAndMaxAtEdges(t *testing.T) {
	for _, c := range []struct {
		a, b uint32
		diff int
		less bool
		max  uint32
	}{
		{0, 0, 0, false, 0}, {all - 1, all - 1, 0, false, all - 1},
		{5, 3, 2, false, 5}, {3, 5, -2, true, 5},
		{1, all - 1, 2, false, 1}, {all - 1, 1, -2, true, 1},
		{0, all - 1, 1, false, 0}, {all - 1, 0, -1, true, 0},
		{half, half - 1, 1, false, half}, {half - 1, half, -1, true, half},
		{half - 1, 0, half - 1, false, half - 1}, {0, half - 1, -half + 1, true, half - 1},
		{half, 0, -half, true, 0}, {0, half, -half, true, half},
		{all - 1, half - 1, -half, true, half - 1}, {half - 1, all - 1, -half, true, all - 1},
		{5, half + 5, -half, true, half + 5}, {half + 5, 5, -half, true, 5},
		{half + 1, 0, -half + 1, true, 0}, {0, half + 1, half - 1, false, 0},
		{half - 1, all - 2, -half + 1, true, all - 2}, {all - 2, half - 1, half - 1, false, all - 2},
	} {
		if got := seq.Diff(c.a, c.b); got != c.diff {
			t.Errorf("Diff(%d, %d) = %d, want %d", c.a, c.b, got, c.diff)
		}
		if got := seq.Less(c.a, c.b); got != c.less {
			t.Errorf("Less(%d, %d) = %v", c.a, c.b, got)
		}
		if got := seq.Max(c.a, c.b); got != c.max {
			t.Errorf("Max(%d, %d) = %d, want %d", c.a, c.b, got, c.max)
		}
	}
}

// P3.1: In.

// among tells In by going from one number to the next.
func among(s, from uint32, n int) bool {
	for k := range n {
		if round(sum(int(from), k)) == s {
			return true
		}
	}
	return false
}

func TestInGoesThroughTheNumbers(t *testing.T) {
	for _, from := range numbers {
		for n := -3; n < 9; n++ {
			for k := -4; k < 12; k++ {
				s := round(sum(int(from), k))
				if got, want := seq.In(s, from, n), among(s, from, n); got != want {
					t.Errorf("In(%d, %d, %d) = %v", s, from, n, got)
				}
			}
		}
	}
}

func TestInOfManyNumbers(t *testing.T) {
	for _, from := range numbers {
		for _, c := range []struct {
			k, n int
			want bool
		}{
			{0, 0, false}, {0, -1, false}, {0, math.MinInt, false}, {1, math.MinInt + 2, false}, {0, -all, false}, {5, -all + 9, false},
			{0, 1, true}, {1, 1, false}, {-1, 1, false}, {half, 1, false},
			{half - 2, half - 1, true}, {half - 1, half - 1, false}, {half - 1, half, true}, {half, half, false}, {half, half + 1, true},
			{half + 1, half + 1, false}, {-1, half + 1, false}, {-1, half, false},
			{all - 2, all - 1, true}, {0, all - 1, true}, {half, all - 1, true}, {-1, all - 1, false},
			{0, all, true}, {-1, all, true}, {half, all, true}, {all - 2, all, true},
			{0, all + 1, true}, {-1, all + 1, true}, {half, all + 1, true}, {7, 1 << 40, true}, {-7, 1 << 40, true}, {9, 3*all + 2, true},
			{0, math.MaxInt, true}, {-1, math.MaxInt, true}, {half, math.MaxInt, true},
		} {
			s := round(sum(int(from), c.k))
			if got := seq.In(s, from, c.n); got != c.want {
				t.Errorf("In(%d, %d, %d) = %v", s, from, c.n, got)
			}
		}
	}
}

// P3.4: the two differences.

func TestDifferencesCancelEachOther(t *testing.T) {
	for _, a := range numbers {
		for _, b := range numbers {
			one, two := seq.Diff(a, b), seq.Diff(b, a)
			if one+two != 0 && (one != -half || two != -half) {
				t.Errorf("Diff(%d, %d) = %d, Diff(%d, %d) = %d", a, b, one, b, a, two)
			}
			if (one == -half) != (b-a == half) {
				t.Errorf("Diff(%d, %d) = %d", a, b, one)
			}
		}
	}
}

// The chapter's examples.

func TestExamples(t *testing.T) {
	if !seq.Less(4294967295, 1) {
		t.Error("Less")
	}
	if !seq.In(2, 4294967295, 4) {
		t.Error("In")
	}
	if from, to := seq.Trim(4294967295, 4, 1, 1); from != 2 || to != 3 {
		t.Errorf("Trim: %d, %d", from, to)
	}
}
