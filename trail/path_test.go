package trail_test

import (
	"fmt"
	"math"
	"slices"
	"strings"
	"testing"

	"towrope/api"
	"towrope/trail"
)

// places are n places, no two of them the same.
func places(n int) []api.Place {
	l := []api.Place{}
	for i := range n {
		l = append(l, api.Place{What: fmt.Sprintf("w%d", i%7), No: i - 3})
	}
	return l
}

// along wraps err in Slips with the places l, the first of them outermost.
func along(l []api.Place, err error) error {
	for _, p := range slices.Backward(l) {
		err = trail.At(p.What, p.No, err)
	}
	return err
}

// told is the text of the places l.
func told(l []api.Place) string {
	s := ""
	for _, p := range l {
		s += fmt.Sprintf("%s %d: ", p.What, p.No)
	}
	return s
}

// P4.2: Path and Inner; P4.3: Text.

func TestPathInnerAndTextBySlips(t *testing.T) {
	for _, n := range []int{0, 1, 2, 3, 10, 62, 63, 64, 65, 66, 127, 128, 129, 300} {
		l := places(n)
		for _, c := range []struct {
			inner error
			text  string
		}{{api.ErrFull, "error 5"}, {plain, "error 1"}, {wrap{api.ErrSum}, "error 4"}, {many{plain, api.ErrNoNet}, "error 240"}, {&api.Slip{Err: api.ErrNil}, "error 7"}} {
			err := along(l, c.inner)
			seen := min(n, 64)
			if got := trail.Path(err); !slices.Equal(got, l[:seen]) {
				t.Errorf("%d Slips: Path = %v", n, got)
			}
			if got := trail.Inner(err); !equal(got, along(l[seen:], c.inner)) {
				t.Errorf("%d Slips: Inner = %#v", n, got)
			}
			if got, want := trail.Text(err), told(l[:seen])+c.text; got != want {
				t.Errorf("%d Slips: Text = %q, want %q", n, got, want)
			}
		}
	}
}

func TestPathInnerAndTextOfDeepErrors(t *testing.T) {
	l := places(1 << 16)
	err := along(l, api.ErrRange)
	if got := trail.Path(err); !slices.Equal(got, l[:64]) {
		t.Errorf("Path has %d places", len(got))
	}
	if got := trail.Path(trail.Inner(err)); !slices.Equal(got, l[64:128]) {
		t.Error("Inner takes off more or less than 64 Slips")
	}
	if got := trail.Text(err); got != told(l[:64])+"error 8" {
		t.Errorf("Text = %q", got)
	}
}

func TestPathInnerAndTextOfNil(t *testing.T) {
	if len(trail.Path(nil)) != 0 || trail.Inner(nil) != nil || trail.Text(nil) != "ok" {
		t.Errorf("of nil: %v, %v, %q", trail.Path(nil), trail.Inner(nil), trail.Text(nil))
	}
}

func TestErrorsWithoutPlaces(t *testing.T) {
	for i, c := range []struct {
		err  error
		text string
	}{
		{api.ErrFull, "error 5"}, {api.OK, "error 0"}, {plain, "error 1"}, {wrap{plain}, "error 1"}, {wrap{nil}, "error 1"},
		{many(nil), "error 1"}, {many{plain, api.ErrTime}, "error 294"}, {posing{}, "error 5"}, {posingSlip{}, "error 1"},
		{wrap{posingSlip{}}, "error 1"}, {(*api.Slip)(nil), "error 1"}, {new(api.Errno), "error 1"}, {panicUnwrap{}, "error 1"},
	} {
		if got := trail.Path(c.err); len(got) != 0 {
			t.Errorf("%d: Path = %v", i, got)
		}
		if got := trail.Inner(c.err); fmt.Sprintf("%T %p", got, got) != fmt.Sprintf("%T %p", c.err, c.err) {
			t.Errorf("%d: Inner is a %T", i, got)
		}
		if got := trail.Text(c.err); got != c.text {
			t.Errorf("%d: Text = %q, want %q", i, got, c.text)
		}
	}
}

// A Slip inside another kind of wrap lies on no way of Slips.
func TestSlipsInsideOtherWraps(t *testing.T) {
	slip := trail.At("in", 8, trail.At("deep", 9, api.ErrFull))
	for i, other := range []error{wrap{slip}, many{slip}, many{slip, slip}, wrap{many{plain, slip}}, &api.Slip{At: api.Place{What: "p", No: 6}, Err: slip}, fmt.Errorf("in %w", slip)} {
		if got := trail.Path(other); len(got) != 0 {
			t.Errorf("%d: Path = %v", i, got)
		}
		if got := trail.Inner(other); !equal(got, other) {
			t.Errorf("%d: Inner = %#v", i, got)
		}
		if got := trail.Text(other); got != "error 5" {
			t.Errorf("%d: Text = %q", i, got)
		}
		err := trail.At("a", 1, trail.At("b", 2, other))
		if got := trail.Path(err); !slices.Equal(got, []api.Place{{What: "a", No: 1}, {What: "b", No: 2}}) {
			t.Errorf("%d: Path = %v", i, got)
		}
		if got := trail.Inner(err); !equal(got, other) {
			t.Errorf("%d: Inner = %#v", i, got)
		}
		if got := trail.Text(err); got != "a 1: b 2: error 5" {
			t.Errorf("%d: Text = %q", i, got)
		}
	}
}

// A Slip that wraps nothing is not made by At, but is an error with a place.
func TestSlipThatWrapsNothing(t *testing.T) {
	err := trail.At("a", 1, api.Slip{At: api.Place{What: "b", No: 2}})
	if got := trail.Path(err); !slices.Equal(got, []api.Place{{What: "a", No: 1}, {What: "b", No: 2}}) {
		t.Errorf("Path = %v", got)
	}
	if got := trail.Inner(err); got != nil {
		t.Errorf("Inner = %#v", got)
	}
	if got := trail.Text(err); got != "a 1: b 2: error 1" {
		t.Errorf("Text = %q", got)
	}
	if trail.Code(err) != api.ErrArg || trail.Res(err) != -1 || trail.Is(err, api.ErrArg) || trail.Is(err, api.OK) {
		t.Error("Code, Res, Is")
	}
}

// P4.3: Text.

func TestTextAtEdges(t *testing.T) {
	for _, c := range []struct {
		err  error
		want string
	}{
		{trail.New(-1), "error -1"}, {trail.New(10), "error 10"}, {trail.New(math.MaxInt), "error 9223372036854775807"},
		{trail.New(math.MinInt), "error -9223372036854775808"}, {trail.New(math.MinInt + 1), "error -9223372036854775807"},
		{trail.At("", 0, api.ErrArg), " 0: error 1"}, {trail.At("a", -3, api.ErrArg), "a -3: error 1"},
		{trail.At("a", math.MinInt, trail.New(-20)), "a -9223372036854775808: error -20"},
		{trail.At("a", math.MaxInt, trail.New(math.MinInt)), "a 9223372036854775807: error -9223372036854775808"},
		{trail.At("a b: ", 10, trail.At("", -1, api.ErrFull)), "a b:  10:  -1: error 5"}, {trail.At("ok", 1, api.OK), "ok 1: error 0"},
		{trail.At("\x00\xff\n", 1, api.ErrTime), "\x00\xff\n 1: error 294"}, {trail.At("Größe", 100, plain), "Größe 100: error 1"},
	} {
		if got := trail.Text(c.err); got != c.want {
			t.Errorf("Text = %q, want %q", got, c.want)
		}
	}
	long := strings.Repeat("x", 100000)
	if got := trail.Text(trail.At(long, 1, trail.At(long, 2, api.ErrArg))); got != long+" 1: "+long+" 2: error 1" {
		t.Errorf("Text of a long What has %d bytes", len(got))
	}
}

func TestTextsOfNumbers(t *testing.T) {
	for _, e := range numbers {
		for _, no := range ints {
			if got, want := trail.Text(trail.At("x", no, trail.New(e))), fmt.Sprintf("x %d: error %d", no, int(e)); got != want {
				t.Errorf("Text = %q, want %q", got, want)
			}
		}
	}
}

func TestExample(t *testing.T) {
	err := trail.At("host", 2, trail.At("ring", 0, trail.New(api.ErrFull)))
	if got := trail.Text(err); got != "host 2: ring 0: error 5" {
		t.Errorf("Text = %q", got)
	}
	if got := trail.Res(err); got != -5 {
		t.Errorf("Res = %d", got)
	}
}

// P4.3: Res.

func TestRes(t *testing.T) {
	for i, c := range []struct {
		err  error
		want int
	}{
		{nil, 0}, {api.OK, 0}, {plain, -1}, {wrap{plain}, -1}, {wrap{nil}, -1}, {many{plain, nil}, -1}, {api.Slip{}, -1},
		{api.ErrArg, -1}, {api.ErrFull, -5}, {api.ErrTime, -294}, {wrap{api.ErrTime}, -294}, {trail.At("a", 9, api.ErrLong), -9},
		{many{plain, trail.At("a", 9, api.ErrPipe), api.ErrArg}, -223}, {trail.At("a", 9, plain), -1}, {posing{}, -5},
		{trail.New(-1), 1}, {trail.At("a", 4, trail.New(-294)), 294}, {trail.New(math.MaxInt), -math.MaxInt},
		{trail.New(math.MinInt + 1), math.MaxInt},
	} {
		if got := trail.Res(c.err); got != c.want {
			t.Errorf("%d: Res = %d, want %d", i, got, c.want)
		}
	}
	// Its counterpart is no int: the number wraps round, as numbers of Go do.
	if got := trail.Res(trail.New(math.MinInt)); got != math.MinInt {
		t.Errorf("Res of the least number = %d", got)
	}
}

// P4.3: From.

func TestFrom(t *testing.T) {
	for _, res := range []int{0, 1, 2, 5, 294, 1 << 32, math.MaxInt - 1, math.MaxInt} {
		if got := trail.From(res); got != nil {
			t.Errorf("From(%d) = %#v", res, got)
		}
	}
	for _, c := range []struct {
		res  int
		want error
	}{
		{-1, api.ErrArg}, {-2, api.ErrShort}, {-5, api.ErrFull}, {-294, api.ErrTime}, {-10, api.Errno(10)}, {-(1 << 32), api.Errno(1 << 32)},
		{math.MinInt + 2, api.Errno(math.MaxInt - 1)}, {math.MinInt + 1, api.Errno(math.MaxInt)}, {math.MinInt, api.ErrArg},
	} {
		if got := trail.From(c.res); got != c.want {
			t.Errorf("From(%d) = %#v, want %#v", c.res, got, c.want)
		}
	}
}

// P4.4.

func TestCodeAndInnerDoNotDependOnPlaces(t *testing.T) {
	for i, err := range trees() {
		code, inner := trail.Code(err), trail.Inner(err)
		for _, n := range []int{1, 2, 60} {
			err := along(places(n), err)
			if trail.Code(err) != code || !equal(trail.Inner(err), inner) {
				t.Errorf("%d: with %d more places: Code = %d, Inner = %#v", i, n, trail.Code(err), trail.Inner(err))
			}
		}
		for _, no := range ints {
			a, b := trail.At("a", no, err), trail.At("", 0, err)
			if trail.Code(a) != trail.Code(b) || !equal(trail.Inner(a), trail.Inner(b)) || trail.Res(a) != trail.Res(b) {
				t.Errorf("%d: place %d", i, no)
			}
		}
	}
}

func TestFromOfResHasTheSameCode(t *testing.T) {
	for i, err := range append(trees(), nil, plain, many{plain, nil}, api.ErrTime, trail.New(math.MaxInt), along(places(70), api.ErrNoBuf)) {
		code := trail.Code(err)
		// A number below 0 would be a result of at least 0, which is no error.
		if code < 0 {
			continue
		}
		if got := trail.Code(trail.From(trail.Res(err))); got != code {
			t.Errorf("%d: Code of From of Res = %d, want %d", i, got, code)
		}
	}
	for _, res := range []int{-1, -2, -294, math.MinInt + 1} {
		if got := trail.Res(trail.From(res)); got != res {
			t.Errorf("Res of From(%d) = %d", res, got)
		}
	}
}
