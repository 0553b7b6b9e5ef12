package frag_test

import (
	"bytes"
	"testing"

	"towrope/api"
	"towrope/ip"
)

// ordinary are packets that may be divided, and mtus for them.
func ordinary() (packets []api.IP, mtus []int) {
	for seed, opts := range [][]byte{
		nil, option(130, 4), option(7, 4), option(130, 40), option(7, 40), repeat(option(200, 2), 20), repeat(option(3, 2), 20),
		join(option(7, 9), option(144, 11)), join([]byte{1}, option(150, 3), []byte{0, 9, 9, 9}), join(option(130, 5), option(131, 6), option(5, 5)),
	} {
		for _, n := range []int{0, 1, 7, 8, 9, 47, 48, 49, 55, 56, 57, 100, 480, 481, 999, 4000} {
			p := sized(opts, n)
			p.Off, p.More = seed*n%4000, (seed+n)%3 == 0
			packets = append(packets, p)
		}
	}
	return append(packets, sized(nil, 65515), sized(option(130, 40), 65475)), []int{68, 69, 75, 76, 77, 100, 296, 576, 1500, 8000, 65535}
}

// P11.3

func TestDataOfAllFragmentsAreThoseOfThePacket(t *testing.T) {
	packets, mtus := ordinary()
	for _, p := range packets {
		for _, mtu := range mtus {
			l := split(t, "data in order", p, mtu)
			var data []byte
			for i, q := range l {
				if q.Off != p.Off+len(data)/8 || len(data)%8 != 0 {
					t.Fatalf("%d bytes, mtu %d: fragment %d: Off %d at index %d", len(p.Data), mtu, i, q.Off, len(data))
				}
				data = append(data, q.Data...)
			}
			if !bytes.Equal(data, p.Data) {
				t.Fatalf("%d bytes, mtu %d: other data", len(p.Data), mtu)
			}
		}
	}
}

func TestEachFragmentFits(t *testing.T) {
	packets, mtus := ordinary()
	for _, p := range packets {
		for _, mtu := range mtus {
			l := split(t, "one that fits", p, mtu)
			for i, q := range l {
				b, e := ip.Put(q)
				if e != api.OK || len(b) > mtu {
					t.Fatalf("%d bytes, mtu %d: fragment %d: %d bytes, error %d", len(p.Data), mtu, i, len(b), int(e))
				}
				if r, e := ip.Get(b); e != api.OK || !equal(q, r) {
					t.Fatalf("%d bytes, mtu %d: fragment %d is another one when it is read: error %d", len(p.Data), mtu, i, int(e))
				}
				last := i == len(l)-1
				if !last && (len(q.Data) == 0 || len(q.Data)%8 != 0 || len(b)+8 <= mtu) {
					t.Fatalf("%d bytes, mtu %d: fragment %d: %d bytes of data", len(p.Data), mtu, i, len(q.Data))
				}
				if q.More != (!last || p.More) {
					t.Fatalf("%d bytes, mtu %d: fragment %d of %d: More %v, of the packet %v", len(p.Data), mtu, i, len(l), q.More, p.More)
				}
			}
		}
	}
}

func TestSplitOfEachFragmentIsThatFragment(t *testing.T) {
	packets, mtus := ordinary()
	for _, p := range packets {
		for _, mtu := range mtus {
			for _, q := range split(t, "once", p, mtu) {
				whole(t, "twice", q, mtu)
			}
		}
	}
}

// Where the options are read the same again, it does not matter whether a packet is divided once or twice, but for where the fragments end.
func TestFragmentsOfFragments(t *testing.T) {
	packets, mtus := ordinary()
	for _, p := range packets {
		later, _ := carried(p.Opts)
		for i, small := range mtus[:8] {
			for _, great := range mtus[i:8] {
				at := 8 * p.Off
				var l []api.IP
				for _, q := range split(t, "once", p, great) {
					l = append(l, split(t, "twice", q, small)...)
				}
				for no, q := range l {
					opts, more := later, p.More
					if no == 0 {
						opts = p.Opts
					}
					if no < len(l)-1 {
						more = true
					}
					if 8*q.Off != at || !bytes.Equal(q.Opts, opts) || q.More != more || !bytes.Equal(q.Data, p.Data[at-8*p.Off:][:len(q.Data)]) {
						t.Fatalf("%d bytes, mtus %d and %d: fragment %d: Off %d at %d, options % x, More %v", len(p.Data), great, small, no, q.Off, at, q.Opts, q.More)
					}
					at += len(q.Data)
				}
				if at != 8*p.Off+len(p.Data) {
					t.Fatalf("%d bytes, mtus %d and %d: data up to %d", len(p.Data), great, small, at)
				}
			}
		}
	}
}
