package reasm_test

import (
	"bytes"
	"slices"
	"testing"

	"towrope/api"
	"towrope/reasm"
)

// filled is a fragment all bytes of which are the same.
func filled(off int, more bool, n int, by byte) api.IP {
	return piece(off, more, bytes.Repeat([]byte{by}, n))
}

// blocks tells data of which each eight bytes are the same, by one letter for eight, or for those at the end.
func blocks(data []byte) string {
	s := ""
	for block := range slices.Chunk(data, 8) {
		if len(bytes.Trim(block, string(block[:1]))) != 0 {
			return s + "?"
		}
		s += string(block[:1])
	}
	return s
}

// P12.2: bytes that are present are not changed, however fragments overlap.
func TestPresentBytesAreNotChanged(t *testing.T) {
	tests := []struct {
		what   string
		pieces []api.IP // all but those of z, which arrive last
		want   string
		held   int
	}{
		{"the same ones", []api.IP{filled(0, true, 16, 'a'), filled(0, true, 16, 'b')}, "aazzz", 16},
		{"overlapped at the back", []api.IP{filled(0, true, 16, 'a'), filled(1, true, 16, 'b')}, "aabzz", 24},
		{"overlapped at the front", []api.IP{filled(1, true, 16, 'a'), filled(0, true, 16, 'b')}, "baazz", 24},
		{"within", []api.IP{filled(0, true, 24, 'a'), filled(1, true, 8, 'b')}, "aaazz", 24},
		{"within, at the front", []api.IP{filled(0, true, 24, 'a'), filled(0, true, 8, 'b')}, "aaazz", 24},
		{"within, at the back", []api.IP{filled(0, true, 24, 'a'), filled(2, true, 8, 'b')}, "aaazz", 24},
		{"around", []api.IP{filled(1, true, 8, 'a'), filled(0, true, 24, 'b')}, "babzz", 24},
		{"around, from the front", []api.IP{filled(0, true, 8, 'a'), filled(0, true, 24, 'b')}, "abbzz", 24},
		{"around, to the back", []api.IP{filled(2, true, 8, 'a'), filled(0, true, 24, 'b')}, "bbazz", 24},
		{"around two", []api.IP{filled(3, true, 8, 'a'), filled(1, true, 8, 'b'), filled(0, true, 40, 'c')}, "cbcac", 40},
		{"around three that touch", []api.IP{filled(1, true, 8, 'a'), filled(3, true, 8, 'b'), filled(2, true, 8, 'c'), filled(0, true, 40, 'd')}, "dacbd", 40},
		{"between two, and over both", []api.IP{filled(0, true, 16, 'a'), filled(3, true, 16, 'b'), filled(1, true, 24, 'c')}, "aacbb", 40},
		{"between two, just", []api.IP{filled(0, true, 16, 'a'), filled(3, true, 16, 'b'), filled(2, true, 8, 'c')}, "aacbb", 40},
		{"behind one another", []api.IP{filled(0, true, 8, 'a'), filled(1, true, 8, 'b'), filled(2, true, 8, 'c')}, "abczz", 24},
		{"ahead of one another", []api.IP{filled(2, true, 8, 'a'), filled(1, true, 8, 'b'), filled(0, true, 8, 'c')}, "cbazz", 24},
		{"each time one more", []api.IP{filled(0, true, 8, 'a'), filled(0, true, 16, 'b'), filled(0, true, 24, 'c'), filled(0, true, 32, 'd')}, "abcdz", 32},
		{"each time one less", []api.IP{filled(0, true, 32, 'a'), filled(0, true, 24, 'b'), filled(0, true, 16, 'c'), filled(0, true, 8, 'd')}, "aaaaz", 32},
		{"each time from one later on", []api.IP{filled(0, true, 8, 'a'), filled(0, true, 40, 'b'), filled(1, true, 32, 'c')}, "abbbb", 40},
		{"four and one around", []api.IP{filled(4, true, 8, 'a'), filled(2, true, 8, 'b'), filled(0, true, 8, 'c'), filled(1, true, 32, 'd')}, "cdbda", 40},
	}
	for _, test := range tests {
		x := table(t, 1, 10)
		for _, p := range test.pieces {
			if got := add(x, 0, p); !got.equal(waiting) {
				t.Fatal(test.what, got)
			}
		}
		if got := x.Held(); got != test.held {
			t.Errorf("%s: %d bytes are present, not %d", test.what, got, test.held)
		}
		// The last one ends within its eight bytes, if nothing lies behind them yet.
		end := 36
		if test.held == 40 {
			end = 40
		}
		got := add(x, 0, filled(4, false, end-32, 'z'))
		if !got.done {
			got = add(x, 0, filled(0, true, 32, 'z'))
		}
		if !got.done || blocks(got.whole.Data) != test.want || len(got.whole.Data) != end {
			t.Errorf("%s: %v, %s, not %s", test.what, got, blocks(got.whole.Data), test.want)
		}
	}
}

// lastAnswer is the answer when these fragments are added to a new table, the last of which makes the packet complete.
func lastAnswer(t *testing.T, pieces []api.IP, last api.IP) answer {
	x := table(t, 1, 10)
	for _, p := range pieces {
		add(x, 0, p)
	}
	return add(x, 0, last)
}

// Bytes of a last fragment are not changed either, and it changes none: with all ends that lie within its last eight bytes.
func TestLastFragmentsThatOverlap(t *testing.T) {
	for n := 17; n <= 24; n++ {
		x := table(t, 1, 10)
		expect(t, x, 0, filled(1, false, n-8, 'a'), waiting, state{1, n - 8, 10, true})
		expect(t, x, 0, filled(2, false, n-16, 'b'), waiting, state{1, n - 8, 10, true})
		want := joined(filled(0, true, 8, 'c'), bytes.Repeat([]byte{'c'}, 8), bytes.Repeat([]byte{'a'}, n-8))
		expect(t, x, 0, filled(0, true, 16, 'c'), done(want), empty)

		y := table(t, 1, 10)
		add(y, 0, filled(2, false, n-16, 'a'))
		expect(t, y, 0, filled(1, false, n-8, 'b'), waiting, state{1, n - 8, 10, true})
		want = joined(filled(0, true, 8, 'c'), bytes.Repeat([]byte{'c'}, 8), bytes.Repeat([]byte{'b'}, 8), bytes.Repeat([]byte{'a'}, n-16))
		expect(t, y, 0, filled(0, true, 8, 'c'), done(want), empty)

		z := table(t, 1, 10)
		add(z, 0, filled(1, true, 8, 'a'))
		expect(t, z, 0, filled(1, false, n-8, 'b'), waiting, state{1, n - 8, 10, true})
		want = joined(filled(0, true, 8, 'c'), bytes.Repeat([]byte{'c'}, 8), bytes.Repeat([]byte{'a'}, 8), bytes.Repeat([]byte{'b'}, n-16))
		expect(t, z, 0, filled(0, true, 16, 'c'), done(want), empty)
	}
}

// P12.2: of several first fragments, that which arrived first is the packet's.
func TestFirstFragmentIsTheOneThatArrivedFirst(t *testing.T) {
	first := part(0, true, 8, 1)
	other := with(part(0, true, 24, 2), func(p *api.IP) { p.Opts, p.Tos, p.TTL, p.Whole = noise(12, 3), 200, 5, true })
	middle := with(part(1, true, 16, 3), func(p *api.IP) { p.Opts, p.Tos = nil, 9 })
	last := with(part(3, false, 5, 4), func(p *api.IP) { p.Opts, p.TTL, p.Whole = noise(4, 9), 77, true })
	type run struct {
		what   string
		pieces []api.IP
		want   api.IP
	}
	for _, r := range []run{
		{"the short one", []api.IP{first, other, last}, joined(first, first.Data, other.Data[8:], last.Data)},
		{"the long one", []api.IP{other, first, last}, joined(other, other.Data, last.Data)},
		{"the short one behind the last", []api.IP{last, first, other}, joined(first, first.Data, other.Data[8:], last.Data)},
		{"the long one behind the last", []api.IP{last, middle, other}, joined(other, other.Data[:8], middle.Data, last.Data)},
		{"the short one between", []api.IP{middle, first, first, last}, joined(first, first.Data, middle.Data, last.Data)},
		{"the long one twice, between", []api.IP{middle, other, first, other, last}, joined(other, other.Data[:8], middle.Data, last.Data)},
	} {
		if got := lastAnswer(t, r.pieces[:len(r.pieces)-1], r.pieces[len(r.pieces)-1]); !got.equal(done(r.want)) {
			t.Errorf("%s: %v, not %s", r.what, got, told(r.want))
		}
	}
	// It is that of Expire too, with its own bytes, though others may have been present at its place.
	x := table(t, 1, 10)
	add(x, 0, part(0, true, 8, 1))
	add(x, 0, other)
	expire(t, x, 10, []api.IP{first}, empty)
	add(x, 0, middle)
	add(x, 0, other)
	add(x, 0, first)
	expire(t, x, 10, []api.IP{other}, empty)
}

// P12.3: which fragment is the last to arrive does not matter.
func TestCompleteWithEachOfItsFragments(t *testing.T) {
	pieces := []api.IP{part(0, true, 16, 1), part(2, true, 8, 2), part(3, true, 24, 3), part(6, false, 11, 4)}
	want := joined(pieces[0], pieces[0].Data, pieces[1].Data, pieces[2].Data, pieces[3].Data)
	for _, order := range orders(4) {
		x := table(t, 1, 10)
		n := 0
		for _, no := range order[:3] {
			n += len(pieces[no].Data)
			expect(t, x, 0, pieces[no], waiting, state{1, n, 10, true})
			expect(t, x, 5, pieces[no], waiting, state{1, n, 10, true})
		}
		expect(t, x, 0, pieces[order[3]], done(want), empty)
		expire(t, x, api.MaxTick, nil, empty)
		// What arrives now begins another packet.
		expect(t, x, 20, pieces[order[0]], waiting, state{1, len(pieces[order[0]].Data), 30, true})
	}
}

// orders are all orders of the numbers up to n.
func orders(n int) [][]int {
	if n == 0 {
		return [][]int{{}}
	}
	var all [][]int
	for _, o := range orders(n - 1) {
		for at := range n {
			all = append(all, slices.Insert(slices.Clone(o), at, n-1))
		}
	}
	return all
}

// P12.3: a byte that is missing is missed, wherever it is.
func TestNotCompleteWhileBytesAreMissing(t *testing.T) {
	for missing := range 6 {
		x := table(t, 1, 10)
		n := 0
		for no := range 6 {
			if no != missing {
				p := part(no, no < 5, 8, uint32(no))
				n += 8
				expect(t, x, 0, p, waiting, state{1, n, 10, true})
			}
		}
		if missing == 5 {
			expect(t, x, 0, part(6, true, 8, 6), waiting, state{1, 48, 10, true})
			expect(t, x, 0, part(7, false, 1, 7), waiting, state{1, 49, 10, true})
		}
		got := add(x, 0, part(missing, true, 8, uint32(missing)))
		if !got.done || x.Len() != 0 {
			t.Error(missing, got)
		}
	}
	// Many bytes, but no end; an end, and as many bytes as it says, but not these, cannot be: they would be behind it.
	x := table(t, 1, 10)
	expect(t, x, 0, part(0, true, 800, 1), waiting, state{1, 800, 10, true})
	expect(t, x, 0, part(0, true, 800, 2), waiting, state{1, 800, 10, true})
	expect(t, x, 0, part(99, false, 8, 3), done(joined(part(0, true, 800, 1), noise(800, 1))), empty)
}

// P12.3: a packet that has become longer than MaxPacket is an error, and waits no longer; it has its length from the options of the first fragment.
func TestPacketsThatAreTooLong(t *testing.T) {
	for _, test := range []struct{ opts, data int }{
		{0, 65515}, {4, 65511}, {4, 65512}, {4, 65515}, {40, 65475}, {40, 65476}, {40, 65515}, {44, 65471}, {44, 65472}, {65500, 15}, {65500, 16}, {70000, 9}, {5, 65510}, {5, 65511},
	} {
		first := with(part(0, true, 8, 1), func(p *api.IP) { p.Opts = noise(test.opts, 2) })
		last := with(part(1, false, test.data-8, 3), func(p *api.IP) { p.Opts = noise(12, 4) })
		want := tooLong
		if 20+test.opts+test.data <= 65535 {
			want = done(joined(first, first.Data, last.Data))
		}
		other := of(5, part(3, true, 16, 5))
		x := table(t, 2, 10)
		add(x, 3, other)
		expect(t, x, 0, first, waiting, state{2, 24, 10, true})
		expect(t, x, 0, last, want, state{1, 16, 13, true})
		expect(t, x, 0, last, waiting, state{2, 8 + test.data, 10, true})
		expect(t, x, 0, first, want, state{1, 16, 13, true})
		expire(t, x, 10, nil, state{1, 16, 13, true})
		expect(t, x, 20, last, waiting, state{2, 8 + test.data, 13, true})
		expire(t, x, 13, nil, state{1, test.data - 8, 30, true})
	}
}

// plain is p without options.
func plain(p api.IP) api.IP { return with(p, func(p *api.IP) { p.Opts = nil }) }

// A packet of as many bytes as there may be, of many fragments.
func TestLongestPacket(t *testing.T) {
	data := noise(65515, 1)
	for _, step := range []int{1, 5, 7, 8188} {
		x := table(t, 1, 10)
		var got answer
		n := 0
		for i := range 8190 {
			off := i * step % 8190
			if step == 5 {
				off = i%5*1638 + i/5
			}
			if step == 7 {
				off = i%7*1170 + i/7
			}
			if step == 8188 {
				off = 8189 - i
			}
			p := plain(piece(off, off < 8189, data[8*off:min(8*off+8, len(data))]))
			if got = add(x, 0, p); got.e != api.OK || got.done != (i == 8189) {
				t.Fatal(step, i, off, got)
			}
			n += len(p.Data)
			if i%1000 == 0 && x.Held() != n {
				t.Fatal(step, i, x.Held(), n)
			}
		}
		if !got.equal(done(plain(piece(0, false, data)))) || stateOf(x) != empty {
			t.Error(step, got)
		}
	}
}

// Two tables are asked the same, and answer the same.
func TestSameCallsSameAnswers(t *testing.T) {
	run := func(x *reasm.Table) []answer {
		var l []answer
		for i, n := range noise(2000, 5) {
			l = append(l, add(x, i, of(uint16(n%4), part(int(n/4)%8, n < 200, 8, uint32(i)))))
			if i%50 == 49 {
				for _, p := range x.Expire(i) {
					l = append(l, done(p))
				}
			}
		}
		return l
	}
	x, y := table(t, 3, 60), table(t, 3, 60)
	if !slices.EqualFunc(run(x), run(y), answer.equal) || stateOf(x) != stateOf(y) {
		t.Error("two tables differ")
	}
}
