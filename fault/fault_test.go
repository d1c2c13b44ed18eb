package fault

import (
	"errors"
	"fmt"
	"math"
	"slices"
	"testing"

	"scrivener/api"
)

// own is an error of a test's own, about another one.
type own struct{ about error }

func (o *own) Error() string { return "own" }
func (o *own) Unwrap() error { return o.about }

// loose is an error that can't be held against others by ==, about another one.
type loose struct {
	list  []int
	about error
}

func (l loose) Error() string { return "loose" }
func (l loose) Unwrap() error { return l.about }

// alike is an error that says of itself that it is a code.
type alike struct{ code api.Code }

func (a alike) Error() string        { return "alike" }
func (a alike) Is(target error) bool { return target == error(a.code) }

// many is an error about several, of which some may be nil.
type many []error

func (m many) Error() string   { return "many" }
func (m many) Unwrap() []error { return m }

// wild is an error that panics when it is asked what it is about.
type wild struct{}

func (w wild) Error() string { return "wild" }
func (w wild) Unwrap() error { panic("wild") }

// wilder panics when it is asked whether it is another error.
type wilder struct{}

func (w wilder) Error() string   { return "wilder" }
func (w wilder) Is(error) bool   { panic("wilder") }
func (w wilder) As(any) bool     { panic("wilder") }
func (w wilder) Unwrap() []error { panic("wilder") }

// grower is an error about another one without end.
type grower struct{ n int }

func (g grower) Error() string { return "grower" }
func (g grower) Unwrap() error { return grower{g.n + 1} }

var plain = errors.New("plain")

// codes are all codes, and numbers that are none.
var codes = []api.Code{
	api.OK, api.ErrRange, api.ErrLimit, api.ErrNone, api.ErrFold, api.ErrKind, api.ErrForm, api.ErrEmpty, api.ErrOther,
	9, -1, math.MaxInt, math.MinInt,
}

// places are numbers that a Where may be.
var places = []int{api.InScene, api.InCarets, api.InDoc, api.InView, api.InEditor, api.InScript, 0, 7, -1, math.MaxInt, math.MinInt}

// told is an error, and what is to be told of it.
type told struct {
	name  string
	e     error
	code  api.Code
	is    []api.Code
	path  []int
	depth int
}

func some() []told {
	return []told{
		{name: "none", e: nil, code: api.OK},
		{name: "a code", e: api.ErrFold, code: api.ErrFold, is: []api.Code{api.ErrFold}, depth: 1},
		{name: "the code OK", e: api.OK, code: api.OK, is: []api.Code{api.OK}, depth: 1},
		{name: "plain", e: plain, code: api.ErrOther, depth: 1},
		{name: "a Fault about a code", e: Of(api.InDoc, api.ErrLimit), code: api.ErrLimit, is: []api.Code{api.ErrLimit}, path: []int{api.InDoc}, depth: 2},
		{name: "a Fault about OK", e: Of(api.InDoc, api.OK), code: api.OK, is: []api.Code{api.OK}, path: []int{api.InDoc}, depth: 2},
		{name: "a Fault about ErrOther", e: Of(api.InDoc, api.ErrOther), code: api.ErrOther, is: []api.Code{api.ErrOther}, path: []int{api.InDoc}, depth: 2},
		{name: "a Fault about nothing", e: &api.Fault{Where: 4}, code: api.ErrOther, path: []int{4}, depth: 1},
		{name: "a Fault about a plain one", e: Of(3, plain), code: api.ErrOther, path: []int{3}, depth: 2},
		{name: "Faults four deep", e: Of(5, Of(4, Of(3, New(2, api.ErrRange)))), code: api.ErrRange, is: []api.Code{api.ErrRange}, path: []int{5, 4, 3, 2}, depth: 5},
		{name: "Faults of one place", e: Of(1, Of(1, New(1, api.ErrRange))), code: api.ErrRange, is: []api.Code{api.ErrRange}, path: []int{1, 1, 1}, depth: 4},
		{name: "own about nothing", e: &own{}, code: api.ErrOther, depth: 1},
		{name: "own about a code", e: &own{api.ErrForm}, code: api.ErrForm, is: []api.Code{api.ErrForm}, depth: 2},
		{name: "own about a Fault", e: &own{New(6, api.ErrKind)}, code: api.ErrKind, is: []api.Code{api.ErrKind}, path: []int{6}, depth: 3},
		{name: "own between Faults", e: Of(6, &own{&own{Of(0, &own{New(-3, api.ErrEmpty)})}}), code: api.ErrEmpty, is: []api.Code{api.ErrEmpty}, path: []int{6, 0, -3}, depth: 7},
		{name: "of the library", e: Of(2, fmt.Errorf("more: %w", New(1, api.ErrNone))), code: api.ErrNone, is: []api.Code{api.ErrNone}, path: []int{2, 1}, depth: 4},
		{name: "loose about a Fault", e: Of(2, loose{[]int{1}, loose{nil, New(1, api.ErrNone)}}), code: api.ErrNone, is: []api.Code{api.ErrNone}, path: []int{2, 1}, depth: 5},
		{name: "alike", e: Of(2, alike{api.ErrFold}), code: api.ErrOther, is: []api.Code{api.ErrFold}, path: []int{2}, depth: 2},
		{name: "two at once", e: Of(9, errors.Join(&own{New(8, api.ErrForm)}, Of(7, New(6, api.ErrKind)))), code: api.ErrForm, is: []api.Code{api.ErrForm, api.ErrKind}, path: []int{9, 8, 7, 6}, depth: 8},
		{name: "many within many", e: many{plain, nil, many{}, many{plain, New(1, api.ErrFold)}, nil, New(2, api.ErrRange)}, code: api.ErrFold, is: []api.Code{api.ErrFold, api.ErrRange}, path: []int{1, 2}, depth: 9},
		{name: "another code", e: Of(1, api.Code(-5)), code: -5, is: []api.Code{-5}, path: []int{1}, depth: 2},
	}
}

func TestOf(t *testing.T) {
	for _, where := range places {
		if e := Of(where, nil); e != nil {
			t.Errorf("Of(%d, nil): %v", where, e)
		}
		for _, about := range []error{plain, api.ErrRange, api.OK, &own{}, loose{list: []int{1}}, New(1, api.ErrForm)} {
			f, ok := Of(where, about).(*api.Fault)
			if !ok || f == nil || f.Where != where || fmt.Sprintf("%p %T", f.Err, f.Err) != fmt.Sprintf("%p %T", about, about) {
				t.Errorf("Of(%d, %v): %v", where, about, f)
			}
		}
	}
	if a, b := Of(1, plain), Of(1, plain); a == b {
		t.Error("two Faults are one")
	}
}

func TestNew(t *testing.T) {
	for _, where := range places {
		for _, c := range codes {
			e := New(where, c)
			if c == api.OK {
				if e != nil {
					t.Errorf("New(%d, OK): %v", where, e)
				}
				continue
			}
			f, ok := e.(*api.Fault)
			if !ok || f == nil || f.Where != where || f.Err != error(c) {
				t.Errorf("New(%d, %d): %v", where, c, e)
			}
		}
	}
}

func TestCode(t *testing.T) {
	for _, x := range some() {
		if c := Code(x.e); c != x.code || c != api.CodeOf(x.e) {
			t.Errorf("%s: Code %d, not %d", x.name, c, x.code)
		}
	}
}

func TestIs(t *testing.T) {
	for _, x := range some() {
		for _, c := range codes {
			if is := Is(x.e, c); is != slices.Contains(x.is, c) || is != errors.Is(x.e, c) {
				t.Errorf("%s: Is %d: %v", x.name, c, is)
			}
		}
	}
}

func TestWhereAndPath(t *testing.T) {
	for _, x := range some() {
		if l := Path(x.e); !slices.Equal(l, x.path) {
			t.Errorf("%s: Path %v, not %v", x.name, l, x.path)
		}
		where, ok := Where(x.e)
		if len(x.path) == 0 {
			if where != 0 || ok {
				t.Errorf("%s: Where %d, %v", x.name, where, ok)
			}
			continue
		}
		if where != x.path[0] || !ok {
			t.Errorf("%s: Where %d, %v", x.name, where, ok)
		}
	}
	for _, where := range places {
		if w, ok := Where(&own{New(where, api.ErrForm)}); w != where || !ok {
			t.Errorf("Where of %d: %d, %v", where, w, ok)
		}
	}
}

func TestPathIsNew(t *testing.T) {
	e := Of(1, New(2, api.ErrRange))
	l := Path(e)
	l[0] = 9
	if k := Path(e); !slices.Equal(k, []int{1, 2}) {
		t.Error(k)
	}
}

func TestDepth(t *testing.T) {
	for _, x := range some() {
		if n := Depth(x.e); n != x.depth {
			t.Errorf("%s: Depth %d, not %d", x.name, n, x.depth)
		}
	}
}

func TestFirst(t *testing.T) {
	a, b := New(1, api.ErrRange), New(1, api.ErrRange)
	for i, x := range []struct {
		l    []error
		want error
	}{
		{nil, nil}, {[]error{}, nil}, {[]error{nil}, nil}, {[]error{nil, nil, nil}, nil},
		{[]error{a}, a}, {[]error{a, b}, a}, {[]error{nil, b, a}, b}, {[]error{nil, nil, a}, a},
		{[]error{a, nil, b}, a}, {[]error{nil, api.OK, a}, api.OK}, {[]error{plain, nil}, plain},
	} {
		was := slices.Clone(x.l)
		if e := First(x.l...); e != x.want {
			t.Errorf("%d: %v", i, e)
		}
		if !slices.Equal(x.l, was) {
			t.Errorf("%d: the list was changed: %v", i, x.l)
		}
	}
	if First() != nil || First(nil, a) != a {
		t.Error("First of what is written out")
	}
}

func TestOfKeeps(t *testing.T) {
	for _, x := range some() {
		if x.e == nil {
			continue
		}
		e := Of(77, x.e)
		if Code(e) != Code(x.e) || Depth(e) != Depth(x.e)+1 {
			t.Errorf("%s: Code %d, Depth %d", x.name, Code(e), Depth(e))
		}
		for _, c := range codes {
			if Is(e, c) != Is(x.e, c) {
				t.Errorf("%s: Is %d", x.name, c)
			}
		}
		if l := Path(e); !slices.Equal(l, append([]int{77}, Path(x.e)...)) {
			t.Errorf("%s: Path %v", x.name, l)
		}
	}
}

// nested is e, within n errors that are made by of.
func nested(n int, e error, of func(int, error) error) error {
	for i := range n {
		e = of(i, e)
	}
	return e
}

func TestDeep(t *testing.T) {
	const n = 1<<16 - 1
	e := nested(n, api.ErrLimit, Of)
	l := Path(e)
	if Code(e) != api.ErrLimit || !Is(e, api.ErrLimit) || Is(e, api.ErrForm) || Depth(e) != n+1 || len(l) != n || l[0] != n-1 || l[n-1] != 0 {
		t.Error("Faults", Code(e), Depth(e), len(l))
	}
	e = nested(n-1, New(5, api.ErrLimit), func(_ int, e error) error { return &own{e} })
	if where, ok := Where(e); Code(e) != api.ErrLimit || Depth(e) != n+1 || !slices.Equal(Path(e), []int{5}) || where != 5 || !ok {
		t.Error("own", Code(e), Depth(e), where)
	}
	e = nested(n, api.ErrLimit, func(_ int, e error) error { return many{e} })
	if Code(e) != api.ErrLimit || Depth(e) != n+1 || len(Path(e)) != 0 {
		t.Error("many", Code(e), Depth(e))
	}
}

// ask makes every call with e, and tells what code and what path came.
func ask(t *testing.T, e error) (api.Code, []int) {
	t.Helper()
	l := Path(e)
	where, ok := Where(e)
	if ok != (len(l) > 0) || ok && where != l[0] {
		t.Error("Where", where, ok)
	}
	if Depth(e) < 1 || First(nil, e) == nil || Of(1, e) == nil {
		t.Error("an error is not there", Depth(e))
	}
	if Is(e, api.ErrForm) {
		t.Error("Is")
	}
	return Code(e), l
}

// What is no error as the program makes them: no call panics, and each ends.
func TestErrorsFromOutside(t *testing.T) {
	var none *api.Fault
	var nobody *own
	self := &api.Fault{Where: 1}
	self.Err = self
	one, other := &own{}, &own{}
	one.about, other.about = other, one
	both := make(many, 2)
	both[0], both[1] = both, both
	for i, e := range []error{none, nobody, wild{}, wilder{}, self, one, grower{}, both} {
		for _, x := range []error{e, &own{e}, errors.Join(e, e)} {
			if c, _ := ask(t, x); c != api.ErrOther {
				t.Errorf("%d: Code %d", i, c)
			}
		}
		ask(t, Of(1, e))
	}
	for i, e := range []error{none, nobody, wild{}, wilder{}} {
		e = Of(5, &own{Of(4, e)})
		if n, l := Depth(e), Path(e); n != 4 || !slices.Equal(l, []int{5, 4}) {
			t.Errorf("%d: Depth %d, Path %v", i, n, l)
		}
	}
	if l := Path(many{none, New(2, api.ErrRange)}); !slices.Equal(l, []int{2}) {
		t.Errorf("beside none: Path %v", l)
	}
	if Is(Of(1, none), api.ErrForm) || Is(Of(1, wilder{}), api.ErrForm) {
		t.Error("Is")
	}
}
