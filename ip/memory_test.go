package ip_test

import (
	"bytes"
	"testing"

	"towrope/api"
	"towrope/ip"
)

// roomy returns a copy of b with 70 bytes of unused capacity, and all of them as one slice.
func roomy(b []byte) (part, all []byte) {
	all = append(bytes.Clone(b), bytes.Repeat([]byte{0xa5}, 70)...)
	return all[:len(b)], all
}

// spoil writes over all of a slice, its unused capacity included.
func spoil(b []byte) {
	b = b[:cap(b)]
	for i := range b {
		b[i] ^= 0xff
	}
}

// shapes are packets with and without Opts and Data.
func shapes() []api.IP {
	return []api.IP{
		plain(),
		with(func(p *api.IP) { p.Opts = nil }),
		with(func(p *api.IP) { p.Data = nil }),
		with(func(p *api.IP) { p.Opts, p.Data = nil, nil }),
		with(func(p *api.IP) { p.Opts, p.Data = noise(40, 1), noise(400, 2) }),
		with(func(p *api.IP) { p.TTL = 0 }),
		with(func(p *api.IP) { p.Opts = noise(3, 1) }),
		with(func(p *api.IP) { p.Off = -1 }),
		with(func(p *api.IP) { p.Data = noise(65536, 1) }),
	}
}

func TestPacketsAreLeftAsTheyWere(t *testing.T) {
	for i, p := range shapes() {
		opts, allOpts := roomy(p.Opts)
		data, allData := roomy(p.Data)
		wasOpts, wasData := bytes.Clone(allOpts), bytes.Clone(allData)
		p.Opts, p.Data = opts, data
		ip.Check(p)
		ip.Len(p)
		ip.Same(p, p)
		one, e := ip.Put(p)
		was := bytes.Clone(one)
		if !bytes.Equal(allOpts, wasOpts) || !bytes.Equal(allData, wasData) {
			t.Error("written to, or behind:", i)
		}
		two, e2 := ip.Put(p)
		if e != e2 || !bytes.Equal(one, two) {
			t.Error("not the same twice:", i)
		}
		spoil(two)
		if !bytes.Equal(allOpts, wasOpts) || !bytes.Equal(allData, wasData) {
			t.Error("Put answered memory of its argument:", i)
		}
		spoil(allOpts)
		spoil(allData)
		if !bytes.Equal(one, was) {
			t.Error("what Put answered changed when its argument, or another answer, was written to:", i)
		}
	}
}

// wires are bytes that are packets, bytes that are none, and packets with bytes behind them.
func wires() [][]byte {
	var all [][]byte
	for _, p := range shapes()[:6] {
		b := told(p)
		all = append(all, b, append(bytes.Clone(b), 1, 2, 3), b[:len(b)-1])
		b = bytes.Clone(b)
		b[5]++
		all = append(all, b)
	}
	return append(all, []byte{}, []byte{1}, noise(30, 1))
}

func TestBytesAreLeftAsTheyWere(t *testing.T) {
	for _, w := range wires() {
		b, all := roomy(w)
		was := bytes.Clone(all)
		p, _ := ip.Get(b)
		l, _ := ip.Live(b)
		if !bytes.Equal(all, was) {
			t.Errorf("written to, or behind: % x", w)
		}
		spoil(p.Opts)
		spoil(p.Data)
		spoil(l)
		if !bytes.Equal(all, was) {
			t.Errorf("answered memory of the argument: % x", w)
		}
	}
}

func TestResultsAreNewMemory(t *testing.T) {
	for _, w := range wires() {
		b, all := roomy(w)
		p, e := ip.Get(b)
		q, e2 := ip.Get(b)
		l, e3 := ip.Live(b)
		m, e4 := ip.Live(b)
		if e != e2 || e3 != e4 || !equal(p, q) || !bytes.Equal(l, m) {
			t.Errorf("not the same twice: % x", w)
		}
		opts, data, live := bytes.Clone(p.Opts), bytes.Clone(p.Data), bytes.Clone(l)
		spoil(q.Opts)
		spoil(q.Data)
		spoil(m)
		spoil(all)
		if !bytes.Equal(p.Opts, opts) || !bytes.Equal(p.Data, data) || !bytes.Equal(l, live) {
			t.Errorf("changed when the argument, or another answer, was written to: % x", w)
		}
		spoil(p.Opts)
		if !bytes.Equal(p.Data, data) {
			t.Errorf("the data changed when the options were written to: % x", w)
		}
		spoil(p.Opts)
		spoil(p.Data)
		if !bytes.Equal(p.Opts, opts) {
			t.Errorf("the options changed when the data were written to: % x", w)
		}
	}
}

func TestNilIsLikeEmpty(t *testing.T) {
	none := with(func(p *api.IP) { p.Opts, p.Data = nil, nil })
	empty := with(func(p *api.IP) { p.Opts, p.Data = []byte{}, []byte{} })
	one, e := ip.Put(none)
	two, e2 := ip.Put(empty)
	if !bytes.Equal(one, two) || e != api.OK || e2 != api.OK {
		t.Errorf("Put: % x, error %d, and % x, error %d", one, int(e), two, int(e2))
	}
	if ip.Check(none) != ip.Check(empty) || ip.Len(none) != ip.Len(empty) {
		t.Error("Check or Len")
	}
}
