package trail_test

import (
	"errors"
	"fmt"
	"math"
	"slices"
	"testing"

	"towrope/api"
	"towrope/trail"
)

// plain is an error that is no Errno and wraps none.
var plain = errors.New("plain")

// wrap is a wrap that is no Slip.
type wrap struct{ inner error }

func (w wrap) Error() string { return "wrap" }
func (w wrap) Unwrap() error { return w.inner }

// many are several errors in one; two of them cannot be compared.
type many []error

func (m many) Error() string   { return "many" }
func (m many) Unwrap() []error { return m }

// posing is an error that says of itself that it is ErrFull.
type posing struct{}

func (posing) Error() string { return "posing" }
func (posing) As(target any) bool {
	e, ok := target.(*api.Errno)
	if ok {
		*e = api.ErrFull
	}
	return ok
}
func (posing) Is(target error) bool { return target == api.ErrFull }

// posingSlip says of itself that it is a Slip, which it is not.
type posingSlip struct{}

func (posingSlip) Error() string { return "posing" }
func (posingSlip) As(target any) bool {
	s, ok := target.(*api.Slip)
	if ok {
		*s = api.Slip{At: api.Place{What: "posing", No: 1}, Err: api.ErrFull}
	}
	return ok
}

// Errors that panic when they are asked.
type (
	panicUnwrap struct{}
	panicMany   struct{}
	panicAsk    struct{}
)

func (panicUnwrap) Error() string        { panic("Error") }
func (panicUnwrap) Unwrap() error        { panic("Unwrap") }
func (panicMany) Error() string          { panic("Error") }
func (panicMany) Unwrap() []error        { panic("Unwrap") }
func (panicAsk) Error() string           { panic("Error") }
func (panicAsk) Is(target error) bool    { panic("Is") }
func (panicAsk) As(target any) (ok bool) { *target.(*api.Errno) = 5; panic("As") }

// panicking are errors that panic when they are asked; the nil pointers have methods of the values that are not there.
var panicking = []error{
	panicUnwrap{}, panicMany{}, panicAsk{}, (*api.Slip)(nil), (*wrap)(nil),
	wrap{panicUnwrap{}}, many{plain, panicMany{}}, api.Slip{Err: panicAsk{}}, api.Slip{Err: (*api.Slip)(nil)},
}

// numbers are those of errors, OK not among them.
var numbers = []api.Errno{
	api.ErrArg, api.ErrShort, api.ErrFull, api.ErrLong, api.ErrWhole, api.ErrStale, api.ErrTime,
	-1, -5, 10, 295, math.MaxInt32 + 1, math.MinInt, math.MinInt + 1, math.MaxInt - 1, math.MaxInt,
}

// ints are numbers of places.
var ints = []int{math.MinInt, math.MinInt + 1, -10, -1, 0, 1, 9, 10, 4294967296, math.MaxInt - 1, math.MaxInt}

// equal tells whether two errors are the same, without comparing those that cannot be compared.
func equal(a, b error) bool {
	return fmt.Sprintf("%T %#v", a, a) == fmt.Sprintf("%T %#v", b, b)
}

// P4.1: New.

func TestNewOfOKIsNil(t *testing.T) {
	if err := trail.New(api.OK); err != nil {
		t.Errorf("New(OK) = %#v", err)
	}
	if err := trail.New(0); err != nil {
		t.Errorf("New(0) = %#v", err)
	}
}

func TestNewIsTheNumberItself(t *testing.T) {
	for _, e := range numbers {
		if err := trail.New(e); err != error(e) {
			t.Errorf("New(%d) = %#v", e, err)
		}
	}
}

// P4.1: At.

func TestAtOfNilIsNil(t *testing.T) {
	for _, what := range []string{"", "host"} {
		for _, no := range ints {
			if err := trail.At(what, no, nil); err != nil {
				t.Errorf("At(%q, %d, nil) = %#v", what, no, err)
			}
		}
	}
}

func TestAtIsASlipWithThePlace(t *testing.T) {
	errs := []error{
		api.ErrFull, api.OK, api.Errno(-7), plain, wrap{api.ErrArg}, wrap{nil}, many{api.ErrArg, plain}, many(nil),
		api.Slip{At: api.Place{What: "in", No: 3}, Err: api.ErrNone}, api.Slip{}, (*api.Slip)(nil), panicUnwrap{},
	}
	for _, what := range []string{"", "host", "a b: c", "\x00\xff\n", "Größe"} {
		for _, no := range ints {
			for _, inner := range errs {
				s, ok := trail.At(what, no, inner).(api.Slip)
				if !ok || s.At != (api.Place{What: what, No: no}) {
					t.Fatalf("At(%q, %d, ..) = %#v", what, no, s)
				}
				if fmt.Sprintf("%T %p", s.Err, s.Err) != fmt.Sprintf("%T %p", inner, inner) {
					t.Fatalf("At(%q, %d, %T) wraps %T", what, no, inner, s.Err)
				}
			}
		}
	}
}

func TestAtWrapsTheErrorItself(t *testing.T) {
	for _, inner := range []error{plain, api.ErrFull, wrap{plain}, &api.Slip{Err: plain}} {
		if got := errors.Unwrap(trail.At("host", 1, inner)); got != inner {
			t.Errorf("At wraps %#v, want %#v", got, inner)
		}
	}
}

// P4.1: First.

func TestFirst(t *testing.T) {
	a, b := trail.At("a", 1, plain), errors.New("plain")
	for i, c := range []struct {
		l    []error
		want error
	}{
		{nil, nil}, {[]error{}, nil}, {[]error{nil}, nil}, {[]error{nil, nil, nil}, nil},
		{[]error{plain}, plain}, {[]error{nil, b}, b}, {[]error{nil, nil, a, b}, a}, {[]error{b, nil}, b},
		{[]error{b, plain}, b}, {[]error{plain, b, nil, a}, plain}, {[]error{nil, api.OK, a}, api.OK},
		{[]error{nil, api.Errno(-3), api.ErrArg}, api.Errno(-3)}, {[]error{(*api.Slip)(nil), a}, (*api.Slip)(nil)},
		{[]error{panicUnwrap{}, a}, panicUnwrap{}},
	} {
		if got := trail.First(c.l...); got != c.want {
			t.Errorf("%d: First = %#v, want %#v", i, got, c.want)
		}
	}
	if trail.First() != nil || trail.First(nil, a) != a {
		t.Error("First of arguments that are no slice")
	}
}

// P4.2: Code.

func TestCode(t *testing.T) {
	for i, c := range []struct {
		err  error
		want api.Errno
	}{
		{nil, api.OK}, {plain, api.ErrArg}, {wrap{nil}, api.ErrArg}, {wrap{plain}, api.ErrArg}, {many(nil), api.ErrArg},
		{many{nil, plain}, api.ErrArg}, {api.Slip{}, api.ErrArg}, {trail.At("a", 5, plain), api.ErrArg}, {api.OK, api.OK},
		{api.ErrFull, api.ErrFull}, {trail.At("a", 7, api.ErrSum), api.ErrSum}, {wrap{api.ErrTime}, api.ErrTime},
		{wrap{wrap{trail.At("a", 1, wrap{trail.At("b", 2, api.ErrNoEnt)})}}, api.ErrNoEnt}, {trail.At("a", 1, api.OK), api.OK},
		{fmt.Errorf("in %w", fmt.Errorf("in %w", api.ErrPipe)), api.ErrPipe}, {fmt.Errorf("in %v", api.ErrPipe), api.ErrArg},
		{errors.Join(plain, nil, api.ErrForm, api.ErrLong), api.ErrForm}, {many{api.Errno(-8), api.ErrLong}, api.Errno(-8)},
		{many{wrap{many{plain, trail.At("a", 1, api.ErrSame)}}, api.ErrLong}, api.ErrSame}, {many{wrap{plain}, api.ErrBad}, api.ErrBad},
		{posing{}, api.ErrFull}, {wrap{posing{}}, api.ErrFull}, {posingSlip{}, api.ErrArg}, {new(api.Errno), api.ErrArg},
		{&api.Slip{Err: api.ErrNil}, api.ErrNil}, {api.Slip{At: api.Place{What: "a", No: 9}, Err: api.ErrNil}, api.ErrNil},
	} {
		if got := trail.Code(c.err); got != c.want {
			t.Errorf("%d: Code = %d, want %d", i, got, c.want)
		}
	}
	for _, e := range numbers {
		if got := trail.Code(wrap{trail.At("host", 2, trail.New(e))}); got != e {
			t.Errorf("Code of %d = %d", e, got)
		}
	}
}

func TestCodeIsWhatErrorsAsFinds(t *testing.T) {
	for i, err := range trees() {
		want := api.ErrArg
		var e api.Errno
		if errors.As(err, &e) {
			want = e
		}
		if got := trail.Code(err); got != want {
			t.Errorf("%d: Code = %d, want %d", i, got, want)
		}
	}
}

func TestCodeOfDeepErrors(t *testing.T) {
	deep, joined := error(api.ErrRange), error(many{plain, api.ErrRange})
	for range 1 << 16 {
		deep, joined = trail.At("deep", 1, deep), many{plain, joined}
	}
	if trail.Code(deep) != api.ErrRange || trail.Code(joined) != api.ErrRange || trail.Res(deep) != -8 {
		t.Error("Code of a deep error")
	}
	if !trail.Is(deep, api.ErrRange) || !trail.Is(joined, api.ErrRange) || trail.Is(deep, api.ErrArg) {
		t.Error("Is of a deep error")
	}
}

// P4.2: Is.

func TestIs(t *testing.T) {
	both := errors.Join(plain, api.ErrForm, wrap{api.ErrLong})
	for i, c := range []struct {
		err  error
		e    api.Errno
		want bool
	}{
		{nil, api.OK, true}, {nil, api.ErrArg, false}, {nil, -1, false}, {api.ErrArg, api.ErrArg, true}, {api.ErrArg, api.OK, false},
		{api.ErrArg, api.ErrShort, false}, {plain, api.OK, false}, {plain, api.ErrArg, false}, {api.OK, api.OK, false},
		{api.OK, api.ErrArg, false}, {trail.At("a", 5, plain), api.ErrArg, false}, {trail.At("a", 5, api.ErrFull), api.ErrFull, true},
		{trail.At("a", 1, api.ErrFull), api.ErrArg, false}, {trail.At("a", 1, api.ErrFull), api.OK, false}, {trail.At("a", 1, api.OK), api.OK, false},
		{both, api.ErrForm, true}, {both, api.ErrLong, true}, {both, api.ErrArg, false}, {both, api.OK, false},
		{many{wrap{many{plain, trail.At("a", 1, api.ErrSame)}}, api.ErrLong}, api.ErrSame, true}, {many(nil), api.ErrArg, false},
		{posing{}, api.ErrFull, true}, {posing{}, api.ErrArg, false}, {posing{}, api.OK, false}, {wrap{nil}, api.ErrArg, false},
		{api.Slip{}, api.ErrArg, false}, {api.Slip{}, api.OK, false}, {new(api.Errno), api.OK, false}, {&api.Slip{Err: api.ErrNil}, api.ErrNil, true},
		{fmt.Errorf("in %w", trail.At("b", 2, api.ErrPipe)), api.ErrPipe, true}, {(*api.Slip)(nil), api.OK, false},
	} {
		if got := trail.Is(c.err, c.e); got != c.want {
			t.Errorf("%d: Is(.., %d) = %t", i, c.e, got)
		}
	}
}

func TestIsIsWhatErrorsIsFinds(t *testing.T) {
	for i, err := range trees() {
		for _, e := range numbers {
			if got, want := trail.Is(err, e), errors.Is(err, e); got != want {
				t.Errorf("%d: Is(.., %d) = %t", i, e, got)
			}
		}
		if trail.Is(err, api.OK) {
			t.Errorf("%d: Is(.., OK)", i)
		}
	}
}

// trees are errors of all shapes that can be made of a few kinds, three wraps deep.
func trees() []error {
	level := []error{plain, api.ErrFull, api.OK, api.Errno(math.MinInt), posing{}}
	var all []error
	for range 3 {
		all = append(all, level...)
		next := []error{}
		for i, err := range level {
			next = append(next, trail.At("a", i, err), wrap{err}, many{level[(i+1)%len(level)], err}, &api.Slip{Err: err})
		}
		level = next
	}
	return append(all, level...)
}

// Termination: errors that panic when they are asked.

func TestErrorsThatPanic(t *testing.T) {
	for i, err := range panicking {
		if got := trail.Code(err); got != api.ErrArg {
			t.Errorf("%d: Code = %d", i, got)
		}
		if got := trail.Res(err); got != -1 {
			t.Errorf("%d: Res = %d", i, got)
		}
		for _, e := range append([]api.Errno{api.OK}, numbers...) {
			if trail.Is(err, e) {
				t.Errorf("%d: Is(.., %d)", i, e)
			}
		}
		if _, ok := err.(api.Slip); ok {
			continue
		}
		if got := trail.Path(trail.At("a", 3, err)); !slices.Equal(got, []api.Place{{What: "a", No: 3}}) {
			t.Errorf("%d: Path = %v", i, got)
		}
		if got := trail.Text(trail.At("a", 3, err)); got != "a 3: error 1" {
			t.Errorf("%d: Text = %q", i, got)
		}
		if got := fmt.Sprintf("%T", trail.Inner(trail.At("a", 3, err))); got != fmt.Sprintf("%T", err) {
			t.Errorf("%d: Inner is a %s", i, got)
		}
	}
}
