package sum_test

import (
	"bytes"
	"testing"

	"towrope/sum"
)

// readers are all the functions that take bytes, as numbers.
func readers() map[string]func(b []byte) int {
	return map[string]func(b []byte) int{
		"Sum":   sum.Sum,
		"Check": sum.Check,
		"Right": func(b []byte) int {
			if sum.Right(b) {
				return 1
			}
			return 0
		},
		"Of": func(b []byte) int { return sum.Of(1, 2, 3, b) },
	}
}

func TestArgumentsAreLeftAsTheyWere(t *testing.T) {
	for name, call := range readers() {
		for n := range 9 {
			all := bytes.Repeat([]byte{0xa5}, n+40)
			was := bytes.Clone(all)
			one := call(all[:n])
			if !bytes.Equal(all, was) {
				t.Errorf("%s wrote into its argument of %d bytes, or behind it", name, n)
			}
			if two := call(all[:n:n]); one != two {
				t.Errorf("%s answered %d, then %d of %d bytes without unused capacity", name, one, two, n)
			}
		}
	}
}

func TestNilIsLikeEmpty(t *testing.T) {
	for name, call := range readers() {
		if one, two := call(nil), call([]byte{}); one != two {
			t.Errorf("%s answered %d of nil, %d of an empty slice", name, one, two)
		}
	}
}

func TestHeadsAreNewMemory(t *testing.T) {
	one, two := sum.Head(1, 2, 3, 4), sum.Head(1, 2, 3, 4)
	was := bytes.Clone(one)
	two = two[:cap(two)]
	for i := range two {
		two[i] ^= 0xff
	}
	if !bytes.Equal(one, was) || !bytes.Equal(sum.Head(1, 2, 3, 4), was) {
		t.Error("a head changed when another one was written to")
	}
}
