package reasm_test

import (
	"bytes"
	"fmt"
	"math"
	"reflect"
	"testing"

	"towrope/api"
	"towrope/reasm"
)

// noise returns n bytes that follow no plain pattern, other ones for each seed.
func noise(n int, seed uint32) []byte {
	b := make([]byte, n)
	for i := range b {
		seed = seed*1664525 + 1013904223
		b[i] = byte(seed >> 24)
	}
	return b
}

// piece is a fragment of one and the same packet, no other field of which is at an end.
func piece(off int, more bool, data []byte) api.IP {
	return api.IP{Tos: 3, Ident: 0x1234, TTL: 64, Proto: 17, Src: 0x0a0b0c0d, Dst: 0xc0a80102,
		Opts: []byte{7, 4, 4, 9}, Off: off, More: more, Data: data}
}

// part is a fragment with so many bytes, other ones for each seed.
func part(off int, more bool, n int, seed uint32) api.IP { return piece(off, more, noise(n, seed)) }

// with is p with something changed.
func with(p api.IP, change func(p *api.IP)) api.IP {
	change(&p)
	return p
}

// of is the fragment as one of the packet with this Ident.
func of(ident uint16, p api.IP) api.IP { return with(p, func(p *api.IP) { p.Ident = ident }) }

// joined is the packet of a first fragment with all its bytes.
func joined(first api.IP, data ...[]byte) api.IP {
	return with(first, func(p *api.IP) { p.More, p.Data = false, bytes.Join(data, nil) })
}

// bare is a packet with nil in place of empty slices.
func bare(p api.IP) api.IP {
	if len(p.Opts) == 0 {
		p.Opts = nil
	}
	if len(p.Data) == 0 {
		p.Data = nil
	}
	return p
}

// equal compares packets, nil and empty slices being the same.
func equal(p, q api.IP) bool { return reflect.DeepEqual(bare(p), bare(q)) }

// allEqual compares lists of packets.
func allEqual(l, m []api.IP) bool {
	if len(l) != len(m) {
		return false
	}
	for i := range l {
		if !equal(l[i], m[i]) {
			return false
		}
	}
	return true
}

// told tells a fragment, and the beginning of its bytes.
func told(p api.IP) string {
	return fmt.Sprintf("{%x %x %x %x off %d more %v opts % x, %d bytes % x}", p.Src, p.Dst, p.Proto, p.Ident, p.Off, p.More,
		p.Opts[:min(len(p.Opts), 8)], len(p.Data), p.Data[:min(len(p.Data), 32)])
}

// allTold tells packets.
func allTold(l []api.IP) string {
	s := ""
	for _, p := range l {
		s += told(p)
	}
	return s
}

// answer is what Add answers.
type answer struct {
	whole api.IP
	done  bool
	e     api.Errno
}

func (a answer) String() string { return fmt.Sprint(told(a.whole), a.done, int(a.e)) }

func (a answer) equal(b answer) bool {
	return a.done == b.done && a.e == b.e && equal(a.whole, b.whole)
}

// Answers of Add that occur often.
var (
	waiting  = answer{}
	badForm  = answer{e: api.ErrForm}
	badRange = answer{e: api.ErrRange}
	tooLong  = answer{e: api.ErrLong}
	full     = answer{e: api.ErrFull}
	stale    = answer{e: api.ErrStale}
)

// done is the answer with a packet.
func done(p api.IP) answer { return answer{p, true, api.OK} }

// add is what Add answers.
func add(x *reasm.Table, now int, p api.IP) answer {
	whole, ok, e := x.Add(now, p)
	return answer{whole, ok, e}
}

// state is what can be asked of a table without changing it.
type state struct {
	n, held, next int
	ok            bool
}

func stateOf(x *reasm.Table) state {
	at, ok := x.Next()
	return state{x.Len(), x.Held(), at, ok}
}

// empty is the state of a table in which no packet waits.
var empty = state{}

// table is a new one.
func table(t *testing.T, most, life int) *reasm.Table {
	t.Helper()
	x, e := reasm.New(most, life)
	if x == nil || e != api.OK {
		t.Fatal("no table:", most, life, int(e))
	}
	return x
}

// expect adds a fragment and compares the answer, and the table's state afterwards.
func expect(t *testing.T, x *reasm.Table, now int, p api.IP, want answer, after state) {
	t.Helper()
	if got := add(x, now, p); !got.equal(want) {
		t.Errorf("Add(%d, %s) = %v, not %v", now, told(p), got, want)
	}
	if got := stateOf(x); got != after {
		t.Errorf("after Add(%d, %s): %v, not %v", now, told(p), got, after)
	}
}

// refuse adds a fragment that brings an error, and changes nothing that can be asked.
func refuse(t *testing.T, x *reasm.Table, now int, p api.IP, want answer) {
	t.Helper()
	expect(t, x, now, p, want, stateOf(x))
}

// expire compares what Expire answers, and the table's state afterwards.
func expire(t *testing.T, x *reasm.Table, now int, want []api.IP, after state) {
	t.Helper()
	if got := x.Expire(now); !allEqual(got, want) {
		t.Errorf("Expire(%d) = %s, not %s", now, allTold(got), allTold(want))
	}
	if got := stateOf(x); got != after {
		t.Errorf("after Expire(%d): %v, not %v", now, got, after)
	}
}

func TestExampleOfTheChapter(t *testing.T) {
	x := table(t, 4, 30)
	first, second := part(0, true, 8, 1), part(1, false, 8, 2)
	expect(t, x, 5, second, waiting, state{1, 8, 35, true})
	expect(t, x, 6, first, done(joined(first, first.Data, second.Data)), empty)
}

// P12.1
func TestNewHasItsBounds(t *testing.T) {
	for _, most := range []int{math.MinInt, -1, 0, 1, 2, api.MaxPieces - 1, api.MaxPieces, api.MaxPieces + 1, math.MaxInt} {
		for _, life := range []int{math.MinInt, -1, 0, 1, 2, 65534, 65535, 65536, math.MaxInt} {
			x, e := reasm.New(most, life)
			if 1 <= most && most <= 64 && 1 <= life && life <= 65535 {
				if x == nil || e != api.OK || stateOf(x) != empty || len(x.Expire(math.MaxInt)) != 0 {
					t.Errorf("New(%d, %d) is no empty table, error %d", most, life, int(e))
				}
			} else if x != nil || e != api.ErrArg {
				t.Errorf("New(%d, %d): error %d", most, life, int(e))
			}
		}
	}
}

// P12.1: each of most packets may wait, and one more may not.
func TestMostPacketsWait(t *testing.T) {
	for _, most := range []int{1, 2, 3, 63, 64} {
		x := table(t, most, 10)
		for i := range most {
			expect(t, x, i, of(uint16(i), part(1, true, 8, 1)), waiting, state{i + 1, 8 * (i + 1), 10, true})
		}
		refuse(t, x, 0, of(uint16(most), part(1, true, 8, 1)), full)
	}
}

// P12.1: each waits for life ticks.
func TestLifeIsHowLongTheyWait(t *testing.T) {
	for _, life := range []int{1, 2, 100, 65534, 65535} {
		for _, now := range []int{0, 1, 77, api.MaxTick - 1, api.MaxTick} {
			x := table(t, 1, life)
			first := part(0, true, 8, 1)
			expect(t, x, now, first, waiting, state{1, 8, now + life, true})
			expire(t, x, now+life-1, nil, state{1, 8, now + life, true})
			expire(t, x, now+life, []api.IP{first}, empty)
		}
	}
}

func TestTablesDoNotAffectOneAnother(t *testing.T) {
	x, y := table(t, 1, 10), table(t, 1, 10)
	first, last := part(0, true, 8, 1), part(1, false, 5, 2)
	expect(t, x, 0, first, waiting, state{1, 8, 10, true})
	if stateOf(y) != empty {
		t.Error("another table:", stateOf(y))
	}
	expect(t, y, 3, last, waiting, state{1, 5, 13, true})
	if got := stateOf(x); got != (state{1, 8, 10, true}) {
		t.Error("the first table:", got)
	}
	expect(t, x, 4, of(9, last), full, state{1, 8, 10, true})
	expect(t, x, 4, last, done(joined(first, first.Data, last.Data)), empty)
	if got := stateOf(y); got != (state{1, 5, 13, true}) {
		t.Error("the other table:", got)
	}
	expire(t, y, 13, nil, empty)
}

func TestNilTable(t *testing.T) {
	var x *reasm.Table
	for _, now := range []int{math.MinInt, -1, 0, api.MaxTick, math.MaxInt} {
		for _, p := range []api.IP{{}, part(0, false, 8, 1), part(0, true, 8, 1), part(1, false, 8, 1), part(-1, true, 8, 1), part(0, true, 0, 1), part(8191, true, 70000, 1)} {
			if got := add(x, now, p); !got.equal(answer{e: api.ErrNil}) {
				t.Errorf("Add(%d, %s) = %v", now, told(p), got)
			}
		}
		if l := x.Expire(now); len(l) != 0 {
			t.Error("Expire:", allTold(l))
		}
	}
	if got := stateOf(x); got != empty {
		t.Error(got)
	}
}
