package frag_test

import (
	"bytes"
	"testing"

	"towrope/api"
	"towrope/frag"
)

// kept fails unless Carried answers these options.
func kept(t *testing.T, what string, opts, want []byte) {
	t.Helper()
	if b, e := frag.Carried(opts); !bytes.Equal(b, want) || e != api.OK {
		t.Errorf("%s: Carried(% x) = % x, error %d; want % x", what, few(opts), b, int(e), want)
	}
}

// unkept fails unless Carried answers this error, and nothing beside it.
func unkept(t *testing.T, what string, opts []byte, want api.Errno) {
	t.Helper()
	if b, e := frag.Carried(opts); len(b) != 0 || e != want {
		t.Errorf("%s: Carried(% x) = % x, error %d; want error %d", what, few(opts), b, int(e), int(want))
	}
}

// as fails unless Carried answers what the other way of reading does.
func as(t *testing.T, opts []byte) {
	t.Helper()
	b, e := frag.Carried(opts)
	if want, e2 := carried(opts); !bytes.Equal(b, want) || e != e2 {
		t.Fatalf("Carried(% x) = % x, error %d; want % x, error %d", few(opts), b, int(e), want, int(e2))
	}
}

// P11.1

func TestCarriedOfNoOption(t *testing.T) {
	kept(t, "nil", nil, nil)
	kept(t, "empty", []byte{}, nil)
	for n := 1; n <= 40; n++ {
		kept(t, "skipped bytes alone", repeat([]byte{1}, n), nil)
		kept(t, "zeros alone", make([]byte, n), nil)
	}
}

func TestCarriedOfZero(t *testing.T) {
	one, other := option(130, 4), option(200, 4)
	kept(t, "at the beginning", join([]byte{0}, one), nil)
	kept(t, "at the beginning, and 3 bytes", join([]byte{0, 0, 0, 0}, one), nil)
	kept(t, "in the middle", join(one, []byte{0}, other), one)
	kept(t, "in the middle, behind one that is not carried", join(option(5, 3), []byte{0}, other), nil)
	kept(t, "behind a skipped byte", join([]byte{1, 0}, other), nil)
	kept(t, "at the end", join(one, other, []byte{0}), join(one, other))
	kept(t, "at the end of one that is not carried", join(option(5, 3), []byte{0}), nil)
	// What is behind it is not read.
	for _, behind := range [][]byte{{130}, {130, 0}, {130, 1}, {130, 9}, {5}, {5, 200}, {255, 255, 255}, {1, 130}} {
		kept(t, "with bytes behind it that are no option", join([]byte{0}, behind), nil)
		kept(t, "with bytes behind it that are no option", join(one, []byte{0}, behind), one)
	}
	// Within an option it ends nothing.
	kept(t, "within an option", []byte{130, 4, 0, 0, 200, 4, 0, 7}, []byte{130, 4, 0, 0, 200, 4, 0, 7})
	kept(t, "within one that is not carried", []byte{5, 4, 0, 0, 200, 4, 0, 7}, []byte{200, 4, 0, 7})
}

func TestCarriedOfOne(t *testing.T) {
	one, other, plain := option(130, 4), option(200, 4), option(5, 4)
	kept(t, "alone", []byte{1}, nil)
	kept(t, "ahead", join([]byte{1}, one), one)
	kept(t, "behind", join(one, []byte{1}), one)
	kept(t, "between", join(one, []byte{1}, other), join(one, other))
	kept(t, "three between", join(one, []byte{1, 1, 1}, other), join(one, other))
	kept(t, "between some that are not carried", join(plain, []byte{1}, plain, []byte{1}, one, []byte{1}, plain), one)
	kept(t, "within an option", []byte{130, 4, 1, 1, 1, 200, 3, 1}, []byte{130, 4, 1, 1, 200, 3, 1, 0})
	kept(t, "ahead of the last byte alone", join([]byte{1, 1}, one, []byte{1, 0}, other), one)
	unkept(t, "ahead of a kind without a size", []byte{1, 130}, api.ErrForm)
}

func TestCarriedOfEachKind(t *testing.T) {
	for kind := 2; kind <= 255; kind++ {
		for _, size := range []int{2, 3, 4, 5, 8, 39, 40} {
			opt := option(byte(kind), size)
			var want []byte
			if kind >= 128 {
				want = join(opt, make([]byte, (4-size%4)%4))
			}
			kept(t, "alone", opt, want)
			as(t, opt)
			unkept(t, "a byte less than its size", opt[:size-1], api.ErrForm)
		}
	}
	kept(t, "kind 127", []byte{127, 4, 8, 9}, nil)
	kept(t, "kind 128", []byte{128, 4, 8, 9}, []byte{128, 4, 8, 9})
	kept(t, "kind 255", []byte{255, 4, 8, 9}, []byte{255, 4, 8, 9})
	kept(t, "kind 2", []byte{2, 4, 8, 9}, nil)
}

func TestCarriedKeepsTheOrder(t *testing.T) {
	a, b, c, plain := option(255, 3), option(128, 2), option(180, 7), option(127, 5)
	kept(t, "all", join(a, b, c), join(a, b, c))
	kept(t, "all, otherwise", join(c, a, b), join(c, a, b))
	kept(t, "with some between", join(plain, a, plain, b, option(68, 2), c), join(a, b, c))
	kept(t, "with some between, in pairs", join(a, plain, plain, c, []byte{1}, plain, b, []byte{0}), join(a, c, b))
	kept(t, "the same one twice", join(a, plain, a), join(a, a, []byte{0, 0}))
	kept(t, "the same kind with other bytes", []byte{130, 3, 9, 7, 2, 130, 3, 8, 130, 2}, []byte{130, 3, 9, 130, 3, 8, 130, 2})
}

func TestCarriedIsFilledUp(t *testing.T) {
	kept(t, "no zero", option(130, 4), option(130, 4))
	kept(t, "1 zero", option(130, 3), join(option(130, 3), []byte{0}))
	kept(t, "2 zeros", option(130, 2), join(option(130, 2), []byte{0, 0}))
	kept(t, "3 zeros", option(130, 5), join(option(130, 5), []byte{0, 0, 0}))
	kept(t, "no zero of two", join(option(130, 5), option(131, 3)), join(option(130, 5), option(131, 3)))
	kept(t, "2 zeros of two", join(option(130, 3), option(131, 3)), join(option(130, 3), option(131, 3), []byte{0, 0}))
	kept(t, "zeros that end the options are none of the result", join(option(130, 4), make([]byte, 4)), option(130, 4))
	kept(t, "skipped bytes are none of it", join([]byte{1}, option(130, 7)), join(option(130, 7), []byte{0}))
	for size := 2; size <= 40; size++ {
		b, e := frag.Carried(option(130, size))
		if least := (size + 3) / 4 * 4; len(b) != least || e != api.OK {
			t.Errorf("%d bytes: %d, error %d; want %d", size, len(b), int(e), least)
		}
	}
}

// Opts itself need not be a multiple of 4.
func TestCarriedOfEachLength(t *testing.T) {
	for n := range 41 {
		skips := n % 2
		kept(t, "none", join(repeat([]byte{1}, skips), repeat([]byte{7, 2}, n/2)), nil)
		all := join(repeat([]byte{1}, skips), repeat([]byte{130, 2}, n/2))
		kept(t, "all", all, join(all[skips:], make([]byte, n/2%2*2)))
	}
}

func TestCarriedOfWhatMayNotBe(t *testing.T) {
	for _, kind := range []byte{2, 7, 127, 128, 130, 255} {
		for _, ahead := range [][]byte{nil, {1}, {1, 1, 1}, option(7, 4), option(130, 4), join(option(130, 5), []byte{1}, option(9, 2))} {
			left := 40 - len(ahead)
			unkept(t, "no next byte", join(ahead, []byte{kind}), api.ErrForm)
			unkept(t, "length 0", join(ahead, []byte{kind, 0}), api.ErrForm)
			unkept(t, "length 0 and bytes behind", join(ahead, []byte{kind, 0, 1, 1}), api.ErrForm)
			unkept(t, "length 1", join(ahead, []byte{kind, 1}), api.ErrForm)
			unkept(t, "length 1 and bytes behind", join(ahead, []byte{kind, 1, 1, 1}), api.ErrForm)
			unkept(t, "length 3 of 2", join(ahead, []byte{kind, 3}), api.ErrForm)
			unkept(t, "length 5 of 4", join(ahead, []byte{kind, 5, 0, 0}), api.ErrForm)
			unkept(t, "length 255", join(ahead, []byte{kind, 255, 0, 0}), api.ErrForm)
			full := join(ahead, option(kind, left))
			full[len(ahead)+1]++
			unkept(t, "a byte beyond 40", full, api.ErrForm)
			full[len(ahead)+1] = 128
			unkept(t, "length 128", full, api.ErrForm)
			full[len(ahead)+1]--
			unkept(t, "length 127", full, api.ErrForm)
			full[len(ahead)+1] = byte(left)
			if b, e := frag.Carried(full); e != api.OK {
				t.Errorf("just to the end: Carried(% x) = % x, error %d", full, b, int(e))
			}
			as(t, full)
			as(t, join(ahead, []byte{kind, 2}))
			as(t, join(ahead, []byte{kind, 2, 0}))
		}
	}
	// One that may be does not make up for one that may not.
	unkept(t, "behind one that may not be", join([]byte{130, 1}, option(130, 4)), api.ErrForm)
	unkept(t, "the last of many", join(repeat(option(130, 3), 13), []byte{130}), api.ErrForm)
}

func TestCarriedOfTooMany(t *testing.T) {
	kept(t, "40 bytes of one", option(130, 40), option(130, 40))
	kept(t, "40 bytes of ten", repeat(option(130, 4), 10), repeat(option(130, 4), 10))
	kept(t, "40 bytes of none", repeat(option(7, 4), 10), nil)
	kept(t, "39 bytes of one", option(130, 39), join(option(130, 39), []byte{0}))
	unkept(t, "41 bytes of one", option(130, 41), api.ErrArg)
	unkept(t, "41 bytes with a skipped one", join(option(130, 40), []byte{1}), api.ErrArg)
	unkept(t, "41 zeros", make([]byte, 41), api.ErrArg)
	unkept(t, "44 bytes", repeat(option(130, 4), 11), api.ErrArg)
	unkept(t, "65536 bytes", make([]byte, 65536), api.ErrArg)
	// ErrArg comes first.
	unkept(t, "41 bytes that are no option", repeat([]byte{130}, 41), api.ErrArg)
	unkept(t, "41 bytes, the last a kind without a size", join(option(130, 40), []byte{130}), api.ErrArg)
	unkept(t, "41 bytes, the first an option of length 0", join([]byte{130, 0}, make([]byte, 39)), api.ErrArg)
	unkept(t, "42 bytes, the first an option that reaches beyond", join([]byte{130, 43}, make([]byte, 40)), api.ErrArg)
	unkept(t, "40 bytes that are no option", repeat([]byte{130}, 40), api.ErrForm)
}

// Every row of up to six of nine bytes.
func TestCarriedOfAllShortOptions(t *testing.T) {
	values := []byte{0, 1, 2, 3, 4, 127, 128, 129, 255}
	var all func(opts []byte, more int)
	all = func(opts []byte, more int) {
		as(t, opts)
		if more == 0 {
			return
		}
		for _, v := range values {
			all(append(opts, v), more-1)
		}
	}
	all(make([]byte, 0, 6), 6)
}

func TestCarriedOfNoise(t *testing.T) {
	for seed := range uint32(30000) {
		opts := noise(int(seed%44), seed)
		as(t, opts)
		// With lengths that are often as they may be.
		for i := 1; i < len(opts); i += 2 {
			opts[i] %= 9
		}
		as(t, opts)
	}
}

// Options of each kind of row, one behind the other, and what is to be carried of them told beside.
func TestCarriedOfRows(t *testing.T) {
	for seed := range uint32(20000) {
		var opts, want []byte
		draw := noise(40, seed)
		for len(opts) < 38 {
			kind, size := draw[0], 2+int(draw[1])%min(12, 39-len(opts))
			draw = draw[2:]
			switch {
			case kind == 0:
				kind = 1
				fallthrough
			case kind == 1:
				opts = append(opts, 1)
			case kind < 128:
				opts = append(opts, option(kind, size)...)
			default:
				opts = append(opts, option(kind, size)...)
				want = append(want, option(kind, size)...)
			}
		}
		want = append(want, make([]byte, (4-len(want)%4)%4)...)
		kept(t, "a row", opts, want)
	}
}
