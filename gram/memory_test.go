package gram_test

import (
	"bytes"
	"testing"

	"towrope/api"
	"towrope/gram"
)

// roomy returns a copy of b with 70 bytes of unused capacity, and all of them as one slice.
func roomy(b []byte) (part, all []byte) {
	all = append(bytes.Clone(b), bytes.Repeat([]byte{0xa5}, 70)...)
	return all[:len(b)], all
}

// spoil writes over all of a slice, its unused capacity included.
func spoil(b []byte) {
	b = b[:cap(b)]
	for i := range b {
		b[i] ^= 0xff
	}
}

// answers are all byte slices that the functions answer of b: as Data, and as a datagram of the addresses of plain.
func answers(b []byte) [][]byte {
	s := plain()
	g := api.Gram{Src: 1, Dst: 2, Data: b}
	put, _ := gram.Put(s.src, s.dst, g)
	bare, _ := gram.Bare(g)
	got, _ := gram.Get(s.src, s.dst, b)
	gram.Ports(b)
	gram.Same(g, g)
	return [][]byte{put, bare, got.Data}
}

// shapes are bytes of which each function answers something, or nothing.
func shapes() [][]byte {
	s := plain()
	zero := zeroed(carrying(6))
	return [][]byte{
		nil, {}, {1}, {1, 2, 3}, {1, 2, 3, 4},
		told(s.src, s.dst, s.g), untold(s.g),
		append(told(s.src, s.dst, s.g), 1, 2, 3), append(untold(s.g), 1, 2, 3),
		told(s.src, s.dst, s.g)[:10], told(1, 1, s.g),
		told(zero.src, zero.dst, zero.g),
		untold(api.Gram{}), told(s.src, s.dst, api.Gram{}),
		{1, 2, 3, 4, 0, 7, 0, 0},
		noise(7, 1), noise(200, 2), noise(65507, 3), noise(65508, 4),
		untold(carrying(65527).g),
	}
}

func TestArgumentsAreLeftAsTheyWere(t *testing.T) {
	for _, shape := range shapes() {
		b, all := roomy(shape)
		was := bytes.Clone(all)
		l := answers(b)
		if !bytes.Equal(all, was) {
			t.Errorf("written to, or behind: % x", few(shape))
		}
		for i := range l {
			spoil(l[i])
			if !bytes.Equal(all, was) {
				t.Fatalf("answer %d is memory of the argument: % x", i, few(shape))
			}
		}
	}
}

func TestAnswersAreNewMemory(t *testing.T) {
	for _, shape := range shapes() {
		b, all := roomy(shape)
		one, two := answers(b), answers(b)
		spoil(all)
		for i := range one {
			if !bytes.Equal(one[i], two[i]) {
				t.Fatalf("answer %d is not the same twice: % x", i, few(shape))
			}
			was := bytes.Clone(one[i])
			for j := range two {
				spoil(two[j])
				if i != j {
					spoil(one[j])
				}
			}
			if !bytes.Equal(one[i], was) {
				t.Errorf("answer %d changed when another was written to: % x", i, few(shape))
			}
			for j := range two {
				spoil(two[j])
				if i != j {
					spoil(one[j])
				}
			}
		}
	}
}

func TestAnswersOutliveTheArgument(t *testing.T) {
	for _, shape := range shapes() {
		b, all := roomy(shape)
		l, want := answers(b), answers(bytes.Clone(shape))
		spoil(all)
		for i := range l {
			if !bytes.Equal(l[i], want[i]) {
				t.Errorf("answer %d changed when the argument was written to: % x", i, few(shape))
			}
		}
	}
}

func TestNilIsLikeEmpty(t *testing.T) {
	none, empty := answers(nil), answers(make([]byte, 0, 90))
	for i := range none {
		if !bytes.Equal(none[i], empty[i]) {
			t.Errorf("answer %d: % x of nil, % x of no byte", i, none[i], empty[i])
		}
	}
	for _, b := range [][]byte{nil, {}, make([]byte, 0, 90)} {
		_, e := gram.Get(1, 2, b)
		_, _, e2 := gram.Ports(b)
		_, e3 := gram.Put(1, 2, api.Gram{Data: b})
		_, e4 := gram.Bare(api.Gram{Data: b})
		if e != api.ErrShort || e2 != api.ErrShort || e3 != api.OK || e4 != api.OK {
			t.Errorf("of no byte: errors %d, %d, %d, %d", int(e), int(e2), int(e3), int(e4))
		}
	}
}
