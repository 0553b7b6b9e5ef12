package udp

import (
	"testing"

	"towrope/api"
)

// What is removed is kept no longer: the memory behind the datagrams that wait holds none.
func TestNothingIsKeptOfWhatIsGone(t *testing.T) {
	b, _ := New(64, 1000)
	one, two := api.End{Addr: 1, Port: 10}, api.End{Addr: 2, Port: 10}
	check := func() {
		t.Helper()
		for _, m := range b.mails[len(b.mails):cap(b.mails)] {
			if m.Data != nil || m.From != (api.End{}) {
				t.Fatalf("%d wait, and %v is kept", len(b.mails), m)
			}
		}
	}
	for round := range 500 {
		b.Put(api.Mail{From: one, Data: []byte("abc")})
		b.Put(api.Mail{From: two, Data: []byte("de")})
		check()
		if round%3 == 0 {
			b.Take(round % 5)
			check()
		}
		if round%40 == 39 {
			b.Meet(two)
			check()
			b.Meet(api.End{})
		}
		if cap(b.mails) > 4*api.MaxGrams {
			t.Fatalf("room for %d datagrams is kept", cap(b.mails))
		}
	}
}
