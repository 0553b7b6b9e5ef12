package seg_test

import (
	"bytes"
	"math"
	"testing"

	"towrope/api"
	"towrope/seg"
)

// read fails unless Read answers these numbers, without an error.
func read(t *testing.T, what string, opts []byte, mss, scale int) {
	t.Helper()
	if m, s, e := seg.Read(opts); m != mss || s != scale || e != api.OK {
		t.Errorf("%s: Read(% x) = %d, %d, error %d; want %d, %d", what, few(opts), m, s, int(e), mss, scale)
	}
}

// unread fails unless Read answers ErrForm, and nothing beside it.
func unread(t *testing.T, what string, opts []byte) {
	t.Helper()
	if m, s, e := seg.Read(opts); m != 0 || s != 0 || e != api.ErrForm {
		t.Errorf("%s: Read(% x) = %d, %d, error %d; want error %d", what, few(opts), m, s, int(e), int(api.ErrForm))
	}
}

// as fails unless Read answers what the other way of reading does; it tells the error.
func as(t *testing.T, opts []byte) api.Errno {
	t.Helper()
	m, s, e := seg.Read(opts)
	mss, scale, want := understood(opts)
	if m != mss || s != scale || e != want {
		t.Fatalf("Read(% x) = %d, %d, error %d; want %d, %d, error %d", few(opts), m, s, int(e), mss, scale, int(want))
	}
	return e
}

// The chapter's example

func TestExample(t *testing.T) {
	want := []byte{0x02, 0x04, 0x05, 0xb4, 0x01, 0x03, 0x03, 0x07}
	if b := seg.Options(api.Seg{Mss: 1460, Scale: 8}); !bytes.Equal(b, want) {
		t.Errorf("Options = % x; want % x", b, want)
	}
	read(t, "the example", want, 1460, 8)
}

// P9.2: Options

func TestOptions(t *testing.T) {
	for _, c := range []struct {
		mss, scale int
		want       []byte
	}{
		{0, 0, nil},
		{1, 0, []byte{2, 4, 0, 1}},
		{255, 0, []byte{2, 4, 0, 255}},
		{256, 0, []byte{2, 4, 1, 0}},
		{65535, 0, []byte{2, 4, 255, 255}},
		{0, 1, []byte{1, 3, 3, 0}},
		{0, 2, []byte{1, 3, 3, 1}},
		{0, 15, []byte{1, 3, 3, 14}},
		{1, 1, []byte{2, 4, 0, 1, 1, 3, 3, 0}},
		{0x1234, 9, []byte{2, 4, 0x12, 0x34, 1, 3, 3, 8}},
		{65535, 15, []byte{2, 4, 255, 255, 1, 3, 3, 14}},
	} {
		if b := seg.Options(api.Seg{Mss: c.mss, Scale: c.scale}); !bytes.Equal(b, c.want) {
			t.Errorf("Options of %d and %d = % x; want % x", c.mss, c.scale, b, c.want)
		}
		// Nothing else of the segment is an option.
		s := plain().s
		s.Mss, s.Scale = c.mss, c.scale
		if b := seg.Options(s); !bytes.Equal(b, c.want) {
			t.Errorf("Options of %v = % x; want % x", s, b, c.want)
		}
	}
}

func TestOptionsOfEachMssAndScale(t *testing.T) {
	for mss := range 65536 {
		for _, scale := range []int{0, 1 + mss%15, 15} {
			s := api.Seg{Mss: mss, Scale: scale}
			if b := seg.Options(s); !bytes.Equal(b, options(s)) {
				t.Fatalf("Options of %d and %d = % x; want % x", mss, scale, b, options(s))
			}
		}
	}
}

// Options names no error: of what Check refuses it has as many bytes as of all else.
func TestOptionsOfWhatMayNotBe(t *testing.T) {
	odd := []int{-1, -2, -65536, 65536, 65537, 16, 17, 257, math.MaxInt32, math.MinInt32, math.MaxInt, math.MinInt}
	for _, n := range odd {
		mss, scale := seg.Options(api.Seg{Mss: n}), seg.Options(api.Seg{Scale: n})
		if len(mss) != 4 || !bytes.Equal(mss[:2], []byte{2, 4}) || mss[2] != byte(n>>8) || mss[3] != byte(n) {
			t.Errorf("Options of the Mss %d = % x", n, mss)
		}
		if len(scale) != 4 || !bytes.Equal(scale[:3], []byte{1, 3, 3}) || scale[3] != byte(n-1) {
			t.Errorf("Options of the Scale %d = % x", n, scale)
		}
		for _, m := range odd {
			both := seg.Options(api.Seg{Mss: n, Scale: m})
			if !bytes.Equal(both, append(bytes.Clone(mss), seg.Options(api.Seg{Scale: m})...)) {
				t.Errorf("Options of %d and %d = % x", n, m, both)
			}
		}
	}
	if b := seg.Options(api.Seg{Flags: 255, Mss: 1, Data: make([]byte, 70000)}); !bytes.Equal(b, []byte{2, 4, 0, 1}) {
		t.Errorf("Options of what may not be = % x", b)
	}
}

// P9.2: Read

func TestReadOfNothing(t *testing.T) {
	read(t, "nil", nil, 0, 0)
	read(t, "empty", []byte{}, 0, 0)
	read(t, "cut to nothing", []byte{2, 4, 1, 1}[:0], 0, 0)
	for n := range 50 {
		read(t, "bytes 0", make([]byte, n), 0, 0)
		read(t, "bytes 1", bytes.Repeat([]byte{1}, n), 0, 0)
	}
}

func TestRead(t *testing.T) {
	read(t, "an mss", []byte{2, 4, 5, 0xb4}, 1460, 0)
	read(t, "a scale", []byte{3, 3, 7}, 0, 8)
	read(t, "both", []byte{2, 4, 5, 0xb4, 3, 3, 7}, 1460, 8)
	read(t, "both, turned round", []byte{3, 3, 7, 2, 4, 5, 0xb4}, 1460, 8)
	read(t, "bytes to skip in front", []byte{1, 1, 1, 2, 4, 5, 0xb4}, 1460, 0)
	read(t, "bytes to skip between", []byte{3, 3, 7, 1, 1, 2, 4, 5, 0xb4}, 1460, 8)
	read(t, "bytes to skip behind", []byte{2, 4, 5, 0xb4, 1, 1}, 1460, 0)
	read(t, "the end behind", []byte{2, 4, 5, 0xb4, 0}, 1460, 0)
	read(t, "values that look like kinds", []byte{2, 4, 0, 1, 3, 3, 2, 2, 4, 2, 4, 3, 3, 0}, 0x0204, 1)
}

func TestReadOfEachMss(t *testing.T) {
	for n := range 65536 {
		read(t, "an mss", []byte{2, 4, byte(n / 256), byte(n % 256)}, n, 0)
	}
}

func TestReadOfEachShift(t *testing.T) {
	for n := range 256 {
		read(t, "a shift", []byte{3, 3, byte(n)}, 0, min(n, 14)+1)
		read(t, "a shift and an mss", []byte{3, 3, byte(n), 2, 4, 0, 9}, 9, min(n, 14)+1)
	}
}

// What is behind the byte 0 is not read, be it right or wrong.
func TestReadBehindTheEnd(t *testing.T) {
	for _, behind := range [][]byte{{2}, {2, 4}, {2, 4, 1, 1}, {3, 3, 3}, {2, 5, 1, 1}, {9, 0}, {9, 1}, {9, 255}, {255}, {0}, {1}, {0, 2, 4, 1, 1}} {
		read(t, "nothing ahead", append([]byte{0}, behind...), 0, 0)
		read(t, "a byte to skip ahead", append([]byte{1, 0}, behind...), 0, 0)
		read(t, "an mss ahead", append([]byte{2, 4, 5, 0xb4, 0}, behind...), 1460, 0)
		read(t, "a scale ahead", append([]byte{3, 3, 7, 0}, behind...), 0, 8)
		read(t, "another kind ahead", append([]byte{9, 3, 1, 0}, behind...), 0, 0)
	}
}

// A kind with no next byte.
func TestReadOfAKindAlone(t *testing.T) {
	for kind := 2; kind < 256; kind++ {
		k := byte(kind)
		for _, ahead := range [][]byte{nil, {1}, {2, 4, 5, 0xb4}, {3, 3, 7}, {9, 2}, {2, 4, 5, 0xb4, 1, 3, 3, 7}} {
			unread(t, "a kind alone", append(bytes.Clone(ahead), k))
		}
		unread(t, "a kind alone", []byte{k, 4, 5, 0xb4}[:1]) // what lies in the unused capacity is not read
	}
}

// Each kind with each length, in as many bytes, in fewer and in more.
func TestReadOfEachKindAndLength(t *testing.T) {
	for kind := 2; kind < 256; kind++ {
		for size := range 256 {
			b := append([]byte{byte(kind), byte(size)}, bytes.Repeat([]byte{1}, 260)...)
			for _, has := range []int{2, 3, 4, 5, size - 1, size, size + 1, 262} {
				if has < 2 {
					continue
				}
				opts := b[:has]
				wrong := size < 2 || size > has || kind == 2 && size != 4 || kind == 3 && size != 3
				switch {
				case wrong:
					unread(t, "a wrong length", opts)
				case kind == 2:
					read(t, "an mss", opts, 0x0101, 0)
				case kind == 3:
					read(t, "a scale", opts, 0, 2)
				default:
					read(t, "another kind", opts, 0, 0)
				}
			}
		}
	}
}

// What is in an option of another kind is not read, and what is behind it is.
func TestReadOfOtherKinds(t *testing.T) {
	for _, kind := range []byte{4, 5, 8, 14, 15, 127, 128, 253, 254, 255} {
		for n := range 30 {
			opt := append([]byte{kind, byte(n + 2)}, noise(n, uint32(n))...)
			read(t, "another kind", opt, 0, 0)
			read(t, "another kind ahead", append(bytes.Clone(opt), 2, 4, 5, 0xb4, 3, 3, 7), 1460, 8)
			read(t, "another kind behind", append([]byte{2, 4, 5, 0xb4, 3, 3, 7}, opt...), 1460, 8)
			unread(t, "another kind cut off", opt[:n+1])
			unread(t, "another kind cut off", append([]byte{2, 4, 5, 0xb4, 3, 3, 7}, opt[:n+1]...))
		}
		read(t, "options in an option", []byte{kind, 9, 2, 4, 5, 0xb4, 3, 3, 7}, 0, 0)
		read(t, "wrong options in an option", []byte{kind, 6, 2, 0, 3, 99}, 0, 0)
		read(t, "an end in an option", []byte{kind, 3, 0, 2, 4, 0, 7}, 7, 0)
	}
}

func TestReadOfAKindSeveralTimes(t *testing.T) {
	read(t, "two of an mss", []byte{2, 4, 0, 1, 2, 4, 0, 2}, 2, 0)
	read(t, "three of an mss", []byte{2, 4, 0, 9, 2, 4, 0, 1, 2, 4, 0, 5}, 5, 0)
	read(t, "an mss and then 0", []byte{2, 4, 0, 1, 2, 4, 0, 0}, 0, 0)
	read(t, "0 and then an mss", []byte{2, 4, 0, 0, 2, 4, 0, 1}, 1, 0)
	read(t, "two of a scale", []byte{3, 3, 7, 3, 3, 2}, 0, 3)
	read(t, "a scale and then the least", []byte{3, 3, 7, 3, 3, 0}, 0, 1)
	read(t, "a great scale and then a scale", []byte{3, 3, 255, 3, 3, 2}, 0, 3)
	read(t, "a scale and then a great one", []byte{3, 3, 2, 3, 3, 255}, 0, 15)
	read(t, "mixed", []byte{2, 4, 0, 1, 3, 3, 1, 2, 4, 0, 2, 1, 3, 3, 2}, 2, 3)
	read(t, "mixed, the mss last", []byte{3, 3, 1, 2, 4, 0, 1, 3, 3, 2, 2, 4, 0, 2}, 2, 3)
	read(t, "one behind the end", []byte{2, 4, 0, 1, 0, 2, 4, 0, 2}, 1, 0)
	unread(t, "the second one wrong", []byte{2, 4, 0, 1, 2, 3, 0})
	unread(t, "the second one cut off", []byte{3, 3, 7, 3, 3})
	unread(t, "the first one wrong", []byte{3, 4, 7, 1, 3, 3, 7})
}

// All bytes that are told by few values, up to six of them.
func TestReadOfFewValues(t *testing.T) {
	values := []byte{0, 1, 2, 3, 4, 5, 14, 15, 255}
	count := map[api.Errno]int{}
	var grow func(opts []byte)
	grow = func(opts []byte) {
		count[as(t, opts)]++
		if len(opts) < 6 {
			for _, v := range values {
				grow(append(opts, v))
			}
		}
	}
	grow(make([]byte, 0, 6))
	if count[api.OK] < 50000 || count[api.ErrForm] < 50000 {
		t.Error("too few of a kind:", count)
	}
}

// Options of all kinds, one behind the other, as they are and with a byte changed.
func TestReadOfManyOptions(t *testing.T) {
	count := map[api.Errno]int{}
	for i := range 30000 {
		b := noise(12, uint32(i))
		var opts []byte
		for _, c := range b[:i%10] {
			switch c % 5 {
			case 0:
				opts = append(opts, 1)
			case 1:
				opts = append(opts, 2, 4, c, c/2)
			case 2:
				opts = append(opts, 3, 3, c/5%20)
			case 3:
				opts = append(opts, c|4, 2+c/32)
				opts = append(opts, noise(int(c/32), uint32(c))...)
			case 4:
				opts = append(opts, c%10/4*9) // mostly an end
			}
		}
		count[as(t, opts)]++
		if len(opts) > 0 {
			opts[int(b[10])%len(opts)] = b[11] % 8
			count[as(t, opts)]++
			count[as(t, opts[:int(b[9])%len(opts)])]++
		}
	}
	if count[api.OK] < 5000 || count[api.ErrForm] < 5000 {
		t.Error("too few of a kind:", count)
	}
}

// No limit is named for Read.
func TestReadOfManyBytes(t *testing.T) {
	skips := bytes.Repeat([]byte{1}, 200000)
	read(t, "many to skip", skips, 0, 0)
	read(t, "an option behind many", append(bytes.Clone(skips), 2, 4, 5, 0xb4, 3, 3, 7), 1460, 8)
	unread(t, "a wrong option behind many", append(bytes.Clone(skips), 2, 4, 5))
	read(t, "many of a kind", append(bytes.Repeat([]byte{2, 4, 1, 1}, 50000), 2, 4, 0, 3), 3, 0)
	read(t, "many of another kind", append(bytes.Repeat(append([]byte{9, 255}, make([]byte, 253)...), 700), 3, 3, 3), 0, 4)
}

// P9.4

func TestReadReturnsMssAndScaleOfOptions(t *testing.T) {
	for mss := range 65536 {
		for _, scale := range []int{0, mss % 16, 15} {
			read(t, "of Options", seg.Options(api.Seg{Mss: mss, Scale: scale}), mss, scale)
		}
	}
	for scale := range 16 {
		for _, mss := range []int{0, 1, 2, 3, 88, 255, 256, 536, 1460, 65535} {
			read(t, "of Options", seg.Options(api.Seg{Mss: mss, Scale: scale}), mss, scale)
		}
	}
	for _, s := range append(ends(), many(500)...) {
		read(t, "of Options", seg.Options(s.s), s.s.Mss, s.s.Scale)
	}
}
