package seg_test

import (
	"bytes"
	"testing"

	"towrope/api"
	"towrope/seg"
)

// roomy returns a copy of b with 70 bytes of unused capacity, and all of them as one slice.
func roomy(b []byte) (part, all []byte) {
	all = append(bytes.Clone(b), bytes.Repeat([]byte{0xa5}, 70)...)
	return all[:len(b)], all
}

// spoil writes over all of a slice, its unused capacity included.
func spoil(b []byte) {
	b = b[:cap(b)]
	for i := range b {
		b[i] ^= 0xff
	}
}

// answers are all byte slices that the functions answer of b: as Data, as options, and as a segment of the addresses of plain.
func answers(b []byte) [][]byte {
	s := plain()
	x := s.s
	x.Data = b
	put, _ := seg.Put(s.src, s.dst, x)
	without, _ := seg.Put(s.src, s.dst, api.Seg{Data: b})
	got, _ := seg.Get(s.src, s.dst, b)
	seg.Check(x)
	seg.Len(x)
	seg.Read(b)
	seg.Same(x, x)
	return [][]byte{
		put, without, got.Data,
		seg.Options(x), seg.Options(api.Seg{Mss: 7, Data: b}), seg.Options(api.Seg{Scale: 7, Data: b}), seg.Options(api.Seg{Data: b}),
	}
}

// shapes are bytes of which each function answers something, or nothing.
func shapes() [][]byte {
	s := plain()
	other := told(1, 1, s.s)
	return [][]byte{
		nil, {}, {1}, {1, 2, 3}, {2, 4, 5, 0xb4}, {2, 4, 5, 0xb4, 1, 3, 3, 7}, {9, 9, 9},
		told(s.src, s.dst, s.s), told(s.src, s.dst, s.s)[:25], other,
		told(s.src, s.dst, api.Seg{}), told(s.src, s.dst, api.Seg{Data: []byte{1}}), told(s.src, s.dst, api.Seg{Mss: 5, Data: []byte{1, 2}}),
		shaped(s.src, s.dst, s.s, []byte{2, 3, 1, 1}), shaped(s.src, s.dst, s.s, []byte{0, 9, 9, 9}),
		told(s.src, s.dst, carrying(65455).s), told(s.src, s.dst, carrying(70000).s),
		noise(19, 1), noise(200, 2), noise(65455, 3), noise(65456, 4),
	}
}

func TestArgumentsAreLeftAsTheyWere(t *testing.T) {
	for _, shape := range shapes() {
		b, all := roomy(shape)
		was := bytes.Clone(all)
		l := answers(b)
		if !bytes.Equal(all, was) {
			t.Errorf("written to, or behind: % x", few(shape))
		}
		for i := range l {
			spoil(l[i])
			if !bytes.Equal(all, was) {
				t.Fatalf("answer %d is memory of the argument: % x", i, few(shape))
			}
		}
	}
}

func TestAnswersAreNewMemory(t *testing.T) {
	for _, shape := range shapes() {
		b, _ := roomy(shape)
		for i := range answers(b) {
			one, two := answers(b), answers(b)
			if !bytes.Equal(one[i], two[i]) {
				t.Fatalf("answer %d is not the same twice: % x", i, few(shape))
			}
			was := bytes.Clone(one[i])
			for j := range two {
				spoil(two[j])
				if i != j {
					spoil(one[j])
				}
			}
			if !bytes.Equal(one[i], was) {
				t.Errorf("answer %d changed when another was written to: % x", i, few(shape))
			}
		}
	}
}

// Nothing is kept that an answer which is written to could change.
func TestAnswersAreTheSameAgain(t *testing.T) {
	for _, shape := range shapes() {
		want := answers(bytes.Clone(shape))
		for _, b := range answers(bytes.Clone(shape)) {
			spoil(b)
		}
		for i, b := range answers(bytes.Clone(shape)) {
			if !bytes.Equal(b, want[i]) {
				t.Errorf("answer %d changed when one before it was written to: % x", i, few(shape))
			}
		}
	}
}

func TestAnswersOutliveTheArgument(t *testing.T) {
	for _, shape := range shapes() {
		b, all := roomy(shape)
		l, want := answers(b), answers(bytes.Clone(shape))
		spoil(all)
		for i := range l {
			if !bytes.Equal(l[i], want[i]) {
				t.Errorf("answer %d changed when the argument was written to: % x", i, few(shape))
			}
		}
	}
}

func TestNilIsLikeEmpty(t *testing.T) {
	none := answers(nil)
	for _, b := range [][]byte{nil, {}, make([]byte, 0, 90)} {
		for i, one := range answers(b) {
			if !bytes.Equal(one, none[i]) {
				t.Errorf("answer %d: % x of nil, % x of no byte", i, none[i], one)
			}
		}
		_, e := seg.Get(1, 2, b)
		_, e2 := seg.Put(1, 2, api.Seg{Data: b})
		mss, scale, e3 := seg.Read(b)
		if e != api.ErrShort || e2 != api.OK || e3 != api.OK || mss != 0 || scale != 0 {
			t.Errorf("of no byte: errors %d, %d, %d", int(e), int(e2), int(e3))
		}
		if s := (api.Seg{Data: b}); seg.Check(s) != api.OK || seg.Len(s) != 0 {
			t.Error("of no byte: another Check or Len")
		}
	}
}
