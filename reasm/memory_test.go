package reasm_test

import (
	"bytes"
	"testing"

	"towrope/api"
	"towrope/reasm"
)

// roomy returns a copy of b with 70 bytes of unused capacity, and all of them as one slice.
func roomy(b []byte) (part, all []byte) {
	all = append(bytes.Clone(b), bytes.Repeat([]byte{0xa5}, 70)...)
	return all[:len(b)], all
}

// spoil writes over all of a slice, its unused capacity included.
func spoil(b []byte) {
	b = b[:cap(b)]
	for i := range b {
		b[i] ^= 0xff
	}
}

// spoilAll writes over the slices of packets, and over their list.
func spoilAll(l []api.IP) {
	l = l[:cap(l)]
	for i := range l {
		spoil(l[i].Opts)
		spoil(l[i].Data)
		l[i] = api.IP{Tos: 77}
	}
}

// own is a copy of p that shares nothing with it.
func own(p api.IP) api.IP {
	return with(p, func(p *api.IP) { p.Opts, p.Data = bytes.Clone(p.Opts), bytes.Clone(p.Data) })
}

// addSpoiled adds a fragment that is written over afterwards, and which must not be by Add.
func addSpoiled(t *testing.T, x *reasm.Table, now int, p api.IP) answer {
	t.Helper()
	opts, allOpts := roomy(p.Opts)
	data, allData := roomy(p.Data)
	wasOpts, wasData := bytes.Clone(allOpts), bytes.Clone(allData)
	got := add(x, now, with(p, func(p *api.IP) { p.Opts, p.Data = opts, data }))
	if !bytes.Equal(allOpts, wasOpts) || !bytes.Equal(allData, wasData) {
		t.Error("written to, or behind:", told(p))
	}
	kept := got
	kept.whole = own(got.whole)
	spoil(allOpts)
	spoil(allData)
	if !got.equal(kept) {
		t.Error("answered memory of the argument:", told(p))
	}
	return got
}

// Fragments, some of them refused, that are written over as soon as they are added.
func TestArgumentsAreLeftAndNotKept(t *testing.T) {
	first, between, last := part(0, true, 16, 1), part(1, true, 16, 2), part(3, false, 9, 3)
	pieces := []api.IP{first, between, last}
	wrong := []api.IP{part(3, false, 8, 4), part(4, true, 8, 4), part(1, true, 7, 4), part(1, false, 0, 4), part(8189, true, 8, 4), part(-1, true, 8, 4), of(9, first)}
	for _, order := range orders(3) {
		for _, until := range []int{1, 2, 3} {
			x, y := table(t, 1, 10), table(t, 1, 10)
			var got, want answer
			for _, no := range order[:until] {
				for _, p := range wrong {
					a, b := addSpoiled(t, x, 0, p), add(y, 0, own(p))
					if !a.equal(b) {
						t.Error(a, b)
					}
				}
				got, want = addSpoiled(t, x, 0, pieces[no]), add(y, 0, own(pieces[no]))
				if !got.equal(want) || stateOf(x) != stateOf(y) {
					t.Error(order, got, "not", want)
				}
			}
			if l, m := x.Expire(10), y.Expire(10); !allEqual(l, m) {
				t.Error(order, until, allTold(l), "not", allTold(m))
			}
		}
	}
	for _, p := range complete() {
		x := table(t, 1, 10)
		add(x, 0, first)
		if got := addSpoiled(t, x, 0, p); !got.done {
			t.Error(got)
		}
	}
}

// What is answered may be written over: neither the table nor what it answered before or answers later is changed.
func TestResultsAreNewMemory(t *testing.T) {
	first, last := part(0, true, 16, 1), part(2, false, 9, 3)
	want := joined(first, first.Data, last.Data)
	for _, turn := range []bool{false, true} {
		x := table(t, 3, 10)
		var had []answer
		for i := range 4 {
			add(x, 0, of(7, first))
			a, b := first, last
			if turn {
				a, b = last, first
			}
			add(x, 0, own(a))
			got := add(x, 0, own(b))
			if !got.equal(done(want)) {
				t.Fatal(i, got)
			}
			kept := got
			kept.whole = own(got.whole)
			for _, h := range had {
				spoil(h.whole.Opts)
				spoil(h.whole.Data)
			}
			if !got.equal(kept) {
				t.Fatal("shares with an earlier answer")
			}
			had = append(had, got)
			spoil(got.whole.Opts)
			if !bytes.Equal(got.whole.Data, kept.whole.Data) {
				t.Fatal("Opts and Data share")
			}
			spoil(got.whole.Data)
		}
		expire(t, x, 10, []api.IP{of(7, first)}, empty)
	}
	// A complete packet is the argument's copy, and the table has none of it.
	x := table(t, 1, 10)
	add(x, 0, own(first))
	p := add(x, 0, part(0, false, 16, 4))
	q := add(x, 0, part(0, false, 16, 4))
	spoil(p.whole.Opts)
	spoil(p.whole.Data)
	if !q.equal(done(part(0, false, 16, 4))) {
		t.Error("two complete packets share")
	}
	expire(t, x, 10, []api.IP{first}, empty)
}

// The lists of Expire, and the packets in them, share nothing with one another and with the table.
func TestExpiredPacketsAreNewMemory(t *testing.T) {
	x := table(t, 8, 10)
	for round := range 3 {
		var want []api.IP
		for i := range 4 {
			p := of(uint16(i), part(0, true, 16, uint32(round*8+i)))
			add(x, i, own(p))
			add(x, i, of(uint16(i), part(2, true, 8, 5)))
			want = append(want, p)
		}
		l := x.Expire(11)
		m := x.Expire(13)
		if !allEqual(l, want[:2]) || !allEqual(m, want[2:]) {
			t.Fatal(allTold(l), allTold(m))
		}
		spoil(l[0].Opts)
		if !bytes.Equal(l[0].Data, want[0].Data) || !equal(l[1], want[1]) {
			t.Error("packets of one list share")
		}
		spoilAll(l)
		if !allEqual(m, want[2:]) {
			t.Error("lists share")
		}
		spoilAll(m)
		// A list that was answered while others wait.
		add(x, 0, of(1, part(0, true, 8, 1)))
		add(x, 5, of(2, part(0, true, 8, 2)))
		add(x, 5, of(3, part(0, true, 8, 3)))
		spoilAll(x.Expire(10))
		expire(t, x, 15, []api.IP{of(2, part(0, true, 8, 2)), of(3, part(0, true, 8, 3))}, empty)
	}
}

func TestNilIsLikeEmpty(t *testing.T) {
	x := table(t, 2, 10)
	none := with(part(0, true, 8, 1), func(p *api.IP) { p.Opts = nil })
	for i, opts := range [][]byte{nil, {}, make([]byte, 0, 9)} {
		p := with(none, func(p *api.IP) { p.Opts = opts })
		expect(t, x, 0, p, waiting, state{1, 8, 10, true})
		last := part(1, false, 3, 2)
		expect(t, x, 0, last, done(joined(none, none.Data, last.Data)), empty)
		expect(t, x, 0, with(p, func(p *api.IP) { p.More = false }), done(joined(none, none.Data)), empty)
		add(x, 0, p)
		if l := x.Expire(10); len(l) != 1 || !equal(l[0], none) {
			t.Error(i, allTold(l))
		}
	}
}
