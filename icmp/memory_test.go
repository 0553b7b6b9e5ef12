package icmp_test

import (
	"bytes"
	"testing"

	"towrope/api"
	"towrope/icmp"
)

// roomy returns a copy of b with 70 bytes of unused capacity, and all of them as one slice.
func roomy(b []byte) (part, all []byte) {
	all = append(bytes.Clone(b), bytes.Repeat([]byte{0xa5}, 70)...)
	return all[:len(b)], all
}

// spoil writes over all of a slice, its unused capacity included.
func spoil(b []byte) {
	b = b[:cap(b)]
	for i := range b {
		b[i] ^= 0xff
	}
}

// answers are all byte slices that the functions answer of b: as Data, as a message, and as a packet.
func answers(b []byte) [][]byte {
	var all [][]byte
	for _, kind := range []uint8{0, 3, 8, 11} {
		m := api.Icmp{Type: kind, Rest: 7, Data: b}
		put, _ := icmp.Put(m)
		reply, _ := icmp.Reply(m)
		cause, _ := icmp.Cause(m)
		about := icmp.About(kind, 1, b)
		all = append(all, put, reply.Data, cause.Opts, cause.Data, about.Data)
		icmp.Error(m)
		icmp.Same(m, m)
	}
	got, _ := icmp.Get(b)
	return append(all, got.Data, icmp.Echo(1, 2, b).Data)
}

// shapes are bytes of which each function answers something, or nothing.
func shapes() [][]byte {
	all := [][]byte{
		nil, {}, {1}, {0x45},
		beginning(), beginning()[:28], append(beginning(), 1, 2, 3),
		told(plain()), told(api.Icmp{}), told(api.Icmp{Type: 8, Data: beginning()}),
		noise(7, 1), noise(200, 2),
	}
	bare := beginning()
	bare[0] = 0x45
	longest := noise(90, 3)
	longest[0] = 0x4f
	// A message that is right, and the beginning of a packet as well.
	both := beginning()
	right(both)
	return append(all, bare, longest, both, longest[:68], noise(65507, 4), noise(65508, 5))
}

func TestArgumentsAreLeftAsTheyWere(t *testing.T) {
	for _, shape := range shapes() {
		b, all := roomy(shape)
		was := bytes.Clone(all)
		l := answers(b)
		if !bytes.Equal(all, was) {
			t.Errorf("written to, or behind: % x", few(shape))
		}
		for i := range l {
			spoil(l[i])
			if !bytes.Equal(all, was) {
				t.Fatalf("answer %d is memory of the argument: % x", i, few(shape))
			}
		}
	}
}

func TestAnswersAreNewMemory(t *testing.T) {
	for _, shape := range shapes() {
		b, all := roomy(shape)
		one, two := answers(b), answers(b)
		spoil(all)
		for i := range one {
			if !bytes.Equal(one[i], two[i]) {
				t.Fatalf("answer %d is not the same twice: % x", i, few(shape))
			}
			was := bytes.Clone(one[i])
			for j := range two {
				spoil(two[j])
				if i != j {
					spoil(one[j])
				}
			}
			if !bytes.Equal(one[i], was) {
				t.Errorf("answer %d changed when another was written to: % x", i, few(shape))
			}
			for j := range two {
				spoil(two[j])
				if i != j {
					spoil(one[j])
				}
			}
		}
	}
}

func TestAnswersOutliveTheArgument(t *testing.T) {
	for _, shape := range shapes() {
		b, all := roomy(shape)
		l, want := answers(b), answers(bytes.Clone(shape))
		spoil(all)
		for i := range l {
			if !bytes.Equal(l[i], want[i]) {
				t.Errorf("answer %d changed when the argument was written to: % x", i, few(shape))
			}
		}
	}
}

func TestNilIsLikeEmpty(t *testing.T) {
	none, empty := answers(nil), answers(make([]byte, 0, 90))
	for i := range none {
		if !bytes.Equal(none[i], empty[i]) {
			t.Errorf("answer %d: % x of nil, % x of no byte", i, none[i], empty[i])
		}
	}
	for kind := range 256 {
		m, n := api.Icmp{Type: uint8(kind)}, api.Icmp{Type: uint8(kind), Data: make([]byte, 0, 90)}
		_, e := icmp.Cause(m)
		_, e2 := icmp.Cause(n)
		_, e3 := icmp.Reply(m)
		_, e4 := icmp.Reply(n)
		if e != e2 || e3 != e4 || icmp.Error(m) != icmp.Error(n) {
			t.Errorf("Type %d: other answers of nil and of no byte", kind)
		}
	}
}
