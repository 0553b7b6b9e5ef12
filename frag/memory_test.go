package frag_test

import (
	"bytes"
	"testing"

	"towrope/api"
	"towrope/frag"
)

// roomy returns a copy of b with 70 bytes of unused capacity, and all of them as one slice.
func roomy(b []byte) (part, all []byte) {
	all = append(bytes.Clone(b), bytes.Repeat([]byte{0xa5}, 70)...)
	return all[:len(b)], all
}

// spoil writes over all of a slice, its unused capacity included.
func spoil(b []byte) {
	b = b[:cap(b)]
	for i := range b {
		b[i] ^= 0xff
	}
}

// shapes are packets that fit into 68 bytes, that do not, and that may not be divided.
func shapes() []api.IP {
	return []api.IP{
		{},
		sized(nil, 48), sized(option(130, 4), 44), sized(option(7, 40), 8), sized(option(130, 40), 0), sized([]byte{130, 1, 1, 1}, 9),
		sized(nil, 49), sized(nil, 500), sized(option(130, 4), 500), sized(option(7, 4), 500), sized(option(130, 40), 90), sized(option(7, 40), 90),
		sized(join(option(130, 3), option(7, 5), option(140, 4)), 200), plain(),
		with(func(p *api.IP) { p.Off = 8191 }),
		with(func(p *api.IP) { p.Off = 8181 }),
		with(func(p *api.IP) { p.Whole = true }),
		with(func(p *api.IP) { p.Off = -1 }),
		with(func(p *api.IP) { p.Opts = []byte{130, 1, 1, 1} }),
		with(func(p *api.IP) { p.Opts = option(130, 41) }),
	}
}

// slices are the slices of fragments.
func slices(l []api.IP) [][]byte {
	var all [][]byte
	for _, q := range l {
		all = append(all, q.Opts, q.Data)
	}
	return all
}

// copies are copies of slices.
func copies(l [][]byte) [][]byte {
	var all [][]byte
	for _, b := range l {
		all = append(all, bytes.Clone(b))
	}
	return all
}

func TestPacketsAreLeftAsTheyWere(t *testing.T) {
	for i, p := range shapes() {
		opts, allOpts := roomy(p.Opts)
		data, allData := roomy(p.Data)
		wasOpts, wasData := bytes.Clone(allOpts), bytes.Clone(allData)
		p.Opts, p.Data = opts, data
		for _, mtu := range []int{67, 68, 100, 65535} {
			l, e := frag.Split(p, mtu)
			n, e2 := frag.Many(p, mtu)
			frag.Carried(p.Opts)
			if !bytes.Equal(allOpts, wasOpts) || !bytes.Equal(allData, wasData) {
				t.Fatal("written to, or behind:", i, mtu)
			}
			m, e3 := frag.Split(p, mtu)
			if e != e2 || e != e3 || n != len(l) || !allEqual(l, m) {
				t.Error("not the same twice:", i, mtu)
			}
			for _, b := range slices(l) {
				spoil(b)
			}
			if !bytes.Equal(allOpts, wasOpts) || !bytes.Equal(allData, wasData) {
				t.Fatal("answered memory of the argument:", i, mtu)
			}
			was := copies(slices(m))
			spoil(allOpts)
			spoil(allData)
			for k, b := range slices(m) {
				if !bytes.Equal(b, was[k]) {
					t.Error("what was answered changed when the argument was written to:", i, mtu)
				}
			}
			spoil(allOpts)
			spoil(allData)
		}
	}
}

// Each slice of each fragment alone is written to, its unused capacity included: no other one may change.
func TestFragmentsShareNoMemory(t *testing.T) {
	for i, p := range shapes() {
		for _, mtu := range []int{68, 100, 65535} {
			l, _ := frag.Split(p, mtu)
			m, _ := frag.Split(p, mtu)
			all := append(slices(l), slices(m)...)
			for k, b := range all {
				was := copies(all)
				spoil(b)
				for j := range all {
					if j != k && !bytes.Equal(all[j], was[j]) {
						t.Fatalf("packet %d, mtu %d: slice %d changed with slice %d", i, mtu, j, k)
					}
				}
			}
		}
	}
}

// The fragments' list itself is new as well.
func TestListsShareNoMemory(t *testing.T) {
	p := plain()
	l, _ := frag.Split(p, 68)
	m, _ := frag.Split(p, 68)
	for i := range l[:cap(l)] {
		l[:cap(l)][i] = api.IP{Tos: 77}
	}
	if !allEqual(m, divided(p, 68)) {
		t.Error("a list changed with another one")
	}
}

func TestOptionsAreLeftAsTheyWere(t *testing.T) {
	for _, shape := range [][]byte{
		nil, {}, {0}, {1}, {130}, option(130, 4), option(130, 5), option(7, 4), option(130, 40), repeat(option(130, 4), 10), option(130, 41),
		join(option(7, 4), option(130, 4)), join(option(130, 4), option(7, 4)), join(option(130, 4), []byte{0, 1, 2, 3}), {130, 9, 9, 9},
	} {
		opts, all := roomy(shape)
		was := bytes.Clone(all)
		b, e := frag.Carried(opts)
		c, e2 := frag.Carried(opts)
		if !bytes.Equal(all, was) {
			t.Errorf("written to, or behind: % x", shape)
		}
		if !bytes.Equal(b, c) || e != e2 {
			t.Errorf("not the same twice: % x", shape)
		}
		kept := bytes.Clone(c)
		spoil(b)
		if !bytes.Equal(all, was) {
			t.Errorf("answered memory of the argument: % x", shape)
		}
		spoil(all)
		if !bytes.Equal(c, kept) {
			t.Errorf("changed when the argument, or another answer, was written to: % x", shape)
		}
	}
}

func TestNilIsLikeEmpty(t *testing.T) {
	b, e := frag.Carried(nil)
	c, e2 := frag.Carried([]byte{})
	if len(b) != 0 || len(c) != 0 || e != api.OK || e2 != api.OK {
		t.Errorf("Carried: % x, error %d, and % x, error %d", b, int(e), c, int(e2))
	}
	for _, mtu := range []int{67, 68} {
		none := with(func(p *api.IP) { p.Opts, p.Data = nil, nil })
		empty := with(func(p *api.IP) { p.Opts, p.Data = []byte{}, make([]byte, 0, 9) })
		l, e := frag.Split(none, mtu)
		m, e2 := frag.Split(empty, mtu)
		if !allEqual(l, m) || e != e2 {
			t.Errorf("Split: %v, error %d, and %v, error %d", l, int(e), m, int(e2))
		}
	}
	none, empty := sized(nil, 100), sized([]byte{}, 100)
	l, _ := frag.Split(none, 68)
	m, _ := frag.Split(empty, 68)
	if len(l) != 3 || !allEqual(l, m) {
		t.Error("Split of one without options")
	}
}
