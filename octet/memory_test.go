package octet_test

import (
	"bytes"
	"testing"

	"towrope/api"
	"towrope/octet"
)

// calls are all the functions that answer bytes, on arguments that lead to results of every kind: whole, a part, empty, and beside an error.
func calls() map[string]func(b []byte) []byte {
	first := func(l []byte, _ api.Errno) []byte { return l }
	return map[string]func(b []byte) []byte{
		"Put16":           func(b []byte) []byte { return octet.Put16(b, 0x0102) },
		"Put32":           func(b []byte) []byte { return octet.Put32(b, 0x01020304) },
		"Cut whole":       func(b []byte) []byte { return first(octet.Cut(b, 0, len(b))) },
		"Cut the front":   func(b []byte) []byte { return first(octet.Cut(b, 0, len(b)/2)) },
		"Cut the back":    func(b []byte) []byte { return first(octet.Cut(b, len(b)/2, len(b)-len(b)/2)) },
		"Cut none":        func(b []byte) []byte { return first(octet.Cut(b, len(b)/2, 0)) },
		"Cut at the end":  func(b []byte) []byte { return first(octet.Cut(b, len(b), 0)) },
		"Cut too much":    func(b []byte) []byte { return first(octet.Cut(b, 0, len(b)+1)) },
		"Cut less than 0": func(b []byte) []byte { return first(octet.Cut(b, 0, -1)) },
		"Zeros":           func([]byte) []byte { return first(octet.Zeros(5)) },
		"Zeros none":      func([]byte) []byte { return first(octet.Zeros(0)) },
		"Pad by 1":        func(b []byte) []byte { return first(octet.Pad(b, 1)) },
		"Pad by 2":        func(b []byte) []byte { return first(octet.Pad(b, 2)) },
		"Pad by 5":        func(b []byte) []byte { return first(octet.Pad(b, 5)) },
		"Pad by 64":       func(b []byte) []byte { return first(octet.Pad(b, 64)) },
		"Pad by 0":        func(b []byte) []byte { return first(octet.Pad(b, 0)) },
		"Join one":        func(b []byte) []byte { return octet.Join(b) },
		"Join with none":  func(b []byte) []byte { return octet.Join(nil, b, nil) },
		"Join two":        func(b []byte) []byte { return octet.Join(b, []byte{1}) },
		"Join twice":      func(b []byte) []byte { return octet.Join(b, b) },
		"Join none":       func([]byte) []byte { return octet.Join() },
	}
}

// roomy returns a slice of n bytes with room bytes of unused capacity, and all of them as one slice.
func roomy(n, room int) (b, all []byte) {
	all = bytes.Repeat([]byte{0xa5}, n+room)
	return all[:n], all
}

// spoil writes over all of a slice, its unused capacity included.
func spoil(b []byte) {
	b = b[:cap(b)]
	for i := range b {
		b[i] ^= 0xff
	}
}

func TestArgumentsAreLeftAsTheyWere(t *testing.T) {
	for name, call := range calls() {
		for n := range 7 {
			b, all := roomy(n, 70)
			was := bytes.Clone(all)
			l := call(b)
			if !bytes.Equal(all, was) {
				t.Errorf("%s wrote into its argument of %d bytes, or behind it", name, n)
			}
			spoil(l)
			if !bytes.Equal(all, was) {
				t.Errorf("%s answered memory of its argument of %d bytes", name, n)
			}
		}
	}
}

func TestResultsAreNewMemory(t *testing.T) {
	for name, call := range calls() {
		for n := range 7 {
			b, all := roomy(n, 70)
			one := call(b)
			was := bytes.Clone(one)
			two := call(b)
			if !bytes.Equal(one, two) {
				t.Errorf("%s answered % x, then % x", name, one, two)
			}
			spoil(two)
			spoil(all)
			if !bytes.Equal(one, was) {
				t.Errorf("%s: its result changed when the next one, or the argument of %d bytes, was written to", name, n)
			}
		}
	}
}

func TestNumbersLeaveTheirBytes(t *testing.T) {
	for n := range 7 {
		b, all := roomy(n, 8)
		was := bytes.Clone(all)
		for at := -1; at <= n+1; at++ {
			octet.Get16(b, at)
			octet.Get32(b, at)
		}
		if !bytes.Equal(all, was) {
			t.Error("written to by a Get:", n)
		}
	}
}

func TestJoinLeavesItsList(t *testing.T) {
	one, all := roomy(2, 10)
	two := []byte{7, 8}
	spare := []byte{9}
	list := [][]byte{one, nil, two, spare}
	got := octet.Join(list[:3]...)
	want(t, "Join", got, api.OK, []byte{0xa5, 0xa5, 7, 8}, api.OK)
	spoil(got)
	if len(list[0]) != 2 || list[1] != nil || &list[2][0] != &two[0] || &list[3][0] != &spare[0] {
		t.Error("the list of the slices was written to")
	}
	if !bytes.Equal(all, bytes.Repeat([]byte{0xa5}, 12)) || !bytes.Equal(two, []byte{7, 8}) || spare[0] != 9 {
		t.Error("the slices of the list were written to")
	}
}

func TestNilIsLikeEmpty(t *testing.T) {
	for name, call := range calls() {
		if one, two := call(nil), call([]byte{}); !bytes.Equal(one, two) {
			t.Errorf("%s answered % x of nil, % x of an empty slice", name, one, two)
		}
	}
}
