package folds

import (
	"bytes"
	"math"
	"slices"
	"testing"

	"scrivener/api"
	"scrivener/band"
	"scrivener/text"
)

const (
	most  = 1 << 24
	limit = 1 << 16
)

// strange are numbers far below 0 and far above what a text may have, and such that sums of them wrap round.
var strange = []int{
	-2, -most, -1 << 31, 1 - 1<<32, -1 << 32, math.MinInt / 2, math.MinInt + 1, math.MinInt,
	most + 1, most + 2, 1 << 31, 1 << 32, 1<<32 + 1, math.MaxInt / 2, math.MaxInt - 1, math.MaxInt,
}

// f is a fold.
func f(from, to int) api.Span {
	return api.Span{From: from, To: to}
}

// fs is folds of numbers, two of each.
func fs(n ...int) []api.Span {
	var l []api.Span
	for i := 0; i < len(n); i += 2 {
		l = append(l, f(n[i], n[i+1]))
	}
	return l
}

// bs is bands of numbers, two of each.
func bs(n ...int) []api.Band {
	var l []api.Band
	for i := 0; i < len(n); i += 2 {
		l = append(l, api.Band{From: n[i], To: n[i+1]})
	}
	return l
}

// of is a text of the bytes of s.
func of(t *testing.T, s string) *text.Text {
	t.Helper()
	x, c := text.New([]byte(s), most)
	if c != api.OK {
		t.Fatalf("a text of %d bytes: %d", len(s), c)
	}
	return x
}

// spans are all pairs of numbers from low to high.
func spans(low, high int) []api.Span {
	var l []api.Span
	for from := low; from <= high; from++ {
		for to := low; to <= high; to++ {
			l = append(l, f(from, to))
		}
	}
	return l
}

// eachList calls do with each list of up to n of some.
func eachList(some []api.Span, n int, do func(l []api.Span)) {
	var grow func(l []api.Span)
	grow = func(l []api.Span) {
		do(l)
		if len(l) < n {
			for _, s := range some {
				grow(append(slices.Clone(l), s))
			}
		}
	}
	grow(nil)
}

// eachText calls do with each text of up to n bytes that are letters and line feeds.
func eachText(n int, do func(s string)) {
	var grow func(s string)
	grow = func(s string) {
		do(s)
		if len(s) < n {
			grow(s + "a")
			grow(s + "\n")
		}
	}
	grow("")
}

// row is n folds of long places each, with a gap between them.
func row(n, long, gap int) []api.Span {
	l := make([]api.Span, n)
	for i := range l {
		l[i] = f(i*(long+gap), i*(long+gap)+long)
	}
	return l
}

// P14.1: the limit upon which the edges below stand.
func TestLimit(t *testing.T) {
	if api.MaxFolds != limit || api.MaxText != most {
		t.Error(api.MaxFolds, api.MaxText)
	}
	if api.ErrRange != 1 || api.ErrLimit != 2 || api.ErrNone != 3 || api.ErrFold != 4 {
		t.Error(api.ErrRange, api.ErrLimit, api.ErrNone, api.ErrFold)
	}
}

// P14.1: Good at each edge, and one beyond.
func TestGoodByHand(t *testing.T) {
	for _, c := range []struct {
		l    []api.Span
		n    int
		good bool
	}{
		{nil, 9, true}, {[]api.Span{}, 9, true}, {nil, 0, true}, {nil, most, true}, {nil, -1, true},
		{fs(2, 5), 9, true}, {fs(0, 9), 9, true}, {fs(0, 10), 9, false}, {fs(-1, 9), 9, false}, {fs(8, 9), 9, true}, {fs(9, 10), 9, false}, {fs(0, 1), 1, true}, {fs(0, 1), 0, false}, {fs(0, 1), -1, false},
		{fs(2, 3), 9, true}, {fs(2, 2), 9, false}, {fs(3, 2), 9, false}, {fs(5, 2), 9, false}, {fs(0, 0), 9, false}, {fs(9, 9), 9, false}, {fs(0, 0), 0, false},
		{fs(2, 4, 5, 7), 9, true}, {fs(2, 4, 4, 7), 9, true}, {fs(2, 4, 3, 7), 9, false}, {fs(2, 4, 2, 4), 9, false}, {fs(2, 7, 4, 5), 9, false}, {fs(4, 5, 2, 7), 9, false},
		{fs(5, 7, 2, 4), 9, false}, {fs(4, 7, 2, 4), 9, false}, {fs(0, 1, 1, 2, 2, 9), 9, true}, {fs(0, 1, 1, 2, 2, 10), 9, false}, {fs(0, 1, 2, 3, 1, 2), 9, false},
		{fs(2, 4, 4, 4), 9, false}, {fs(2, 4, 6, 5), 9, false}, {fs(4, 4, 5, 7), 9, false}, {fs(2, 4, 4, 4, 4, 7), 9, false}, {fs(-1, 2, 4, 7), 9, false}, {fs(-3, -1), 9, false}, {fs(-3, -1), -1, false}, {fs(-3, -1, 2, 4), 9, false},
		{fs(0, most), most, true}, {fs(0, most+1), most, false}, {fs(most-1, most), most, true},
	} {
		if Good(c.l, c.n) != c.good {
			t.Errorf("Good(%v, %d): %t", c.l, c.n, !c.good)
		}
	}
}

// goodPlaces is Good as its words say it, place by place: each fold has some, all lie in the text, and all of them go up.
func goodPlaces(l []api.Span, n int) bool {
	last := -1
	for _, s := range l {
		if s.From >= s.To {
			return false
		}
		for at := s.From; at < s.To; at++ {
			if at <= last || at >= n {
				return false
			}
			last = at
		}
	}
	return true
}

// P14.1: Good of all short lists of small folds, place by place.
func TestGoodPlaceByPlace(t *testing.T) {
	eachList(spans(-1, 4), 3, func(l []api.Span) {
		for n := -1; n <= 4; n++ {
			if want := goodPlaces(l, n); Good(l, n) != want {
				t.Fatalf("Good(%v, %d): %t", l, n, !want)
			}
		}
	})
}

// P14.1: Good of so many folds as there may be, and of one more.
func TestGoodOfManyFolds(t *testing.T) {
	for _, gap := range []int{0, 3} {
		all := row(limit+1, 2, gap)
		n := all[limit].To
		if !Good(all[:limit-1], n) || !Good(all[:limit], n) || Good(all, n) {
			t.Errorf("%d apart: %t, %t, %t", gap, Good(all[:limit-1], n), Good(all[:limit], n), Good(all, n))
		}
		if !Good(all[:limit], all[limit-1].To) || Good(all[:limit], all[limit-1].To-1) || !Good(all[1:], n) {
			t.Errorf("%d apart: the last of so many", gap)
		}
	}
}

// P14.1: Good and Add of numbers that none may have: each is refused, and nothing wraps round.
func TestStrangeNumbers(t *testing.T) {
	for _, x := range strange {
		for _, s := range []api.Span{f(x, 5), f(x, x), f(x, -x), f(5, x), f(x, x+1), f(0, x)} {
			bad := s.From < 0 || s.To <= s.From || s.To > 9
			for _, l := range [][]api.Span{{s}, {f(0, 2), s}, {s, f(6, 7)}} {
				if bad && Good(l, 9) {
					t.Errorf("Good(%v, 9)", l)
				}
				isAdd(t, l, f(8, 9), 9, nil, api.ErrRange)
			}
			isAdd(t, nil, s, 9, nil, api.ErrRange)
			isAdd(t, fs(0, 2), s, 9, nil, api.ErrRange)
		}
		if want := x >= 9; Good(fs(1, 9), x) != want {
			t.Errorf("Good of %d bytes: %t", x, !want)
		}
	}
	if !Good(fs(0, math.MaxInt), math.MaxInt) || !Good(fs(0, 1, 1, math.MaxInt), math.MaxInt) || Good(fs(0, math.MaxInt), math.MaxInt-1) || Good(fs(math.MinInt, math.MaxInt), math.MaxInt) {
		t.Error("Good of the longest fold")
	}
}

// isAdd holds what Add tells against what it is to be.
func isAdd(t *testing.T, l []api.Span, s api.Span, n int, want []api.Span, code api.Code) {
	t.Helper()
	if got, c := Add(l, s, n); !slices.Equal(got, want) || c != code {
		t.Errorf("Add(%v, %v, %d): %v, %d, not %v, %d", l, s, n, got, c, want, code)
	}
}

// P14.1: Add, as it stands: where the fold goes, and which code is told.
func TestAddByHand(t *testing.T) {
	l := fs(2, 4, 6, 8, 8, 9)
	for _, c := range []struct {
		l    []api.Span
		s    api.Span
		n    int
		want []api.Span
		code api.Code
	}{
		{nil, f(2, 4), 9, fs(2, 4), api.OK}, {[]api.Span{}, f(0, 9), 9, fs(0, 9), api.OK}, {nil, f(0, 10), 9, nil, api.ErrRange},
		{l, f(0, 1), 20, fs(0, 1, 2, 4, 6, 8, 8, 9), api.OK}, {l, f(0, 2), 20, fs(0, 2, 2, 4, 6, 8, 8, 9), api.OK}, {l, f(1, 2), 20, fs(1, 2, 2, 4, 6, 8, 8, 9), api.OK},
		{l, f(4, 5), 20, fs(2, 4, 4, 5, 6, 8, 8, 9), api.OK}, {l, f(5, 6), 20, fs(2, 4, 5, 6, 6, 8, 8, 9), api.OK}, {l, f(4, 6), 20, fs(2, 4, 4, 6, 6, 8, 8, 9), api.OK},
		{l, f(9, 12), 20, fs(2, 4, 6, 8, 8, 9, 9, 12), api.OK}, {l, f(12, 20), 20, fs(2, 4, 6, 8, 8, 9, 12, 20), api.OK}, {l, f(12, 21), 20, nil, api.ErrRange}, {l, f(9, 10), 9, nil, api.ErrRange},
		{l, f(0, 3), 20, nil, api.ErrFold}, {l, f(2, 4), 20, nil, api.ErrFold}, {l, f(2, 3), 20, nil, api.ErrFold}, {l, f(3, 4), 20, nil, api.ErrFold}, {l, f(3, 5), 20, nil, api.ErrFold}, {l, f(3, 7), 20, nil, api.ErrFold},
		{l, f(4, 7), 20, nil, api.ErrFold}, {l, f(5, 20), 20, nil, api.ErrFold}, {l, f(0, 20), 20, nil, api.ErrFold}, {l, f(7, 10), 20, nil, api.ErrFold}, {l, f(8, 9), 20, nil, api.ErrFold}, {l, f(8, 10), 20, nil, api.ErrFold}, {l, f(7, 8), 20, nil, api.ErrFold},
		{l, f(1, 3), 20, nil, api.ErrFold}, {l, f(4, 4), 20, nil, api.ErrRange}, {l, f(3, 3), 20, nil, api.ErrRange}, {l, f(5, 3), 20, nil, api.ErrRange}, {l, f(-1, 1), 20, nil, api.ErrRange}, {l, f(-1, 3), 20, nil, api.ErrRange}, {l, f(3, 21), 20, nil, api.ErrRange},
		{l, f(0, 1), 8, nil, api.ErrRange}, {l, f(3, 5), 8, nil, api.ErrRange}, {fs(6, 8, 2, 4), f(0, 1), 20, nil, api.ErrRange}, {fs(2, 4, 3, 5), f(0, 1), 20, nil, api.ErrRange}, {fs(2, 2), f(4, 5), 20, nil, api.ErrRange}, {fs(-1, 2), f(4, 5), 20, nil, api.ErrRange}, {fs(6, 8, 2, 4), f(3, 7), 20, nil, api.ErrRange},
		{nil, f(0, 1), 0, nil, api.ErrRange}, {nil, f(0, 1), -1, nil, api.ErrRange}, {nil, f(0, 0), 0, nil, api.ErrRange}, {nil, f(0, most), most, fs(0, most), api.OK},
	} {
		isAdd(t, c.l, c.s, c.n, c.want, c.code)
	}
}

// shares is whether some place lies in s and in one of l.
func shares(l []api.Span, s api.Span) bool {
	for at := s.From; at < s.To; at++ {
		if slices.ContainsFunc(l, func(o api.Span) bool { return at >= o.From && at < o.To }) {
			return true
		}
	}
	return false
}

// P14.1: Add of all short lists of small folds: what it tells is as the words say, and good.
func TestAddPlaceByPlace(t *testing.T) {
	all := spans(-1, 6)
	eachList(spans(0, 5), 2, func(l []api.Span) {
		for _, s := range all {
			for n := 4; n <= 6; n++ {
				switch {
				case !goodPlaces(l, n) || !goodPlaces([]api.Span{s}, n):
					isAdd(t, l, s, n, nil, api.ErrRange)
				case shares(l, s):
					isAdd(t, l, s, n, nil, api.ErrFold)
				default:
					want := append(slices.Clone(l), s)
					slices.SortFunc(want, func(a, b api.Span) int { return a.From - b.From })
					isAdd(t, l, s, n, want, api.OK)
					if got, _ := Add(l, s, n); !Good(got, n) {
						t.Errorf("Add(%v, %v, %d): %v isn't good", l, s, n, got)
					}
				}
			}
		}
	})
}

// P14.1: Add where there are nearly, just, and more folds than there may be: which code is told first.
func TestAddToManyFolds(t *testing.T) {
	l := row(limit, 2, 1)
	n := 3 * limit
	last := limit - 1
	for i, at := range []int{0, limit / 2, last} {
		less := slices.Concat(l[:at], l[at+1:])
		got, c := Add(less, l[at], n)
		if c != api.OK || !slices.Equal(got, l) {
			t.Errorf("%d: Add to one fold less: %d folds, %d", i, len(got), c)
		}
	}
	for _, c := range []struct {
		s    api.Span
		n    int
		code api.Code
	}{
		{f(2, 3), n, api.ErrLimit}, {f(3*last+2, n), n, api.ErrLimit}, {f(n, n+1), n + 1, api.ErrLimit}, {f(3*(limit/2)+2, 3*(limit/2)+3), n, api.ErrLimit},
		{f(1, 3), n, api.ErrFold}, {f(0, n), n, api.ErrFold}, {f(3*last+1, n), n, api.ErrFold}, {f(2, 4), n, api.ErrFold},
		{f(n, n+1), n, api.ErrRange}, {f(2, 2), n, api.ErrRange}, {f(-1, 1), n, api.ErrRange}, {f(2, 3), n - 2, api.ErrRange},
	} {
		if got, code := Add(l, c.s, c.n); len(got) != 0 || code != c.code {
			t.Errorf("Add %v to so many: %d folds, %d, not %d", c.s, len(got), code, c.code)
		}
	}
	more := row(limit+1, 2, 1)
	for _, s := range []api.Span{f(2, 3), f(1, 3), f(n+4, n+5)} {
		if got, code := Add(more, s, n+9); len(got) != 0 || code != api.ErrRange {
			t.Errorf("Add %v to one too many: %d folds, %d", s, len(got), code)
		}
	}
}

// isDrop holds what Drop tells against what it is to be.
func isDrop(t *testing.T, l []api.Span, at int, want []api.Span, code api.Code) {
	t.Helper()
	if got, c := Drop(l, at); !slices.Equal(got, want) || c != code {
		t.Errorf("Drop(%v, %d): %v, %d, not %v, %d", l, at, got, c, want, code)
	}
}

// P14.1: Drop, as it stands, also of folds that are not good.
func TestDropByHand(t *testing.T) {
	l := fs(2, 5, 5, 7, 9, 10)
	for _, c := range []struct {
		l    []api.Span
		at   int
		want []api.Span
		code api.Code
	}{
		{nil, 0, nil, api.ErrNone}, {[]api.Span{}, 2, nil, api.ErrNone}, {fs(2, 5), 2, nil, api.OK}, {fs(2, 5), 4, nil, api.OK}, {fs(2, 5), 5, nil, api.ErrNone}, {fs(2, 5), 1, nil, api.ErrNone},
		{l, 1, nil, api.ErrNone}, {l, 2, fs(5, 7, 9, 10), api.OK}, {l, 3, fs(5, 7, 9, 10), api.OK}, {l, 4, fs(5, 7, 9, 10), api.OK}, {l, 5, fs(2, 5, 9, 10), api.OK}, {l, 6, fs(2, 5, 9, 10), api.OK},
		{l, 7, nil, api.ErrNone}, {l, 8, nil, api.ErrNone}, {l, 9, fs(2, 5, 5, 7), api.OK}, {l, 10, nil, api.ErrNone}, {l, -1, nil, api.ErrNone}, {l, 0, nil, api.ErrNone},
		{fs(2, 6, 4, 8), 3, fs(4, 8), api.OK}, {fs(2, 6, 4, 8), 4, fs(4, 8), api.OK}, {fs(2, 6, 4, 8), 5, fs(4, 8), api.OK}, {fs(2, 6, 4, 8), 6, fs(2, 6), api.OK}, {fs(4, 8, 2, 6), 5, fs(2, 6), api.OK}, {fs(2, 6, 2, 6), 5, fs(2, 6), api.OK},
		{fs(5, 5, 5, 6), 5, fs(5, 5), api.OK}, {fs(5, 5), 5, nil, api.ErrNone}, {fs(7, 3), 5, nil, api.ErrNone}, {fs(7, 3), 3, nil, api.ErrNone}, {fs(7, 3), 7, nil, api.ErrNone},
		{fs(-4, -1), -1, nil, api.ErrNone}, {fs(-4, -1), -2, nil, api.OK}, {fs(-4, -1), -4, nil, api.OK}, {fs(-4, 2), 0, nil, api.OK}, {fs(0, most+9), most + 8, nil, api.OK},
		{fs(math.MinInt, math.MaxInt), math.MaxInt, nil, api.ErrNone}, {fs(math.MinInt, math.MaxInt), math.MaxInt - 1, nil, api.OK}, {fs(math.MinInt, math.MaxInt), math.MinInt, nil, api.OK}, {l, math.MinInt, nil, api.ErrNone}, {l, math.MaxInt, nil, api.ErrNone}, {l, 1<<32 + 2, nil, api.ErrNone},
	} {
		isDrop(t, c.l, c.at, c.want, c.code)
	}
}

// P14.1: Drop of all short lists, place by place.
func TestDropPlaceByPlace(t *testing.T) {
	eachList(spans(-1, 3), 3, func(l []api.Span) {
		for at := -2; at <= 4; at++ {
			want, code := []api.Span(nil), api.ErrNone
			for i, s := range l {
				if shares([]api.Span{s}, f(at, at+1)) {
					want, code = append(slices.Clone(l[:i]), l[i+1:]...), api.OK
					break
				}
			}
			isDrop(t, l, at, want, code)
		}
	})
}

// P14.1: what Add puts in, Drop takes out, at each of its places.
func TestDropTakesBackWhatAddPut(t *testing.T) {
	l := fs(2, 4, 4, 5, 9, 12)
	for _, s := range spans(0, 14) {
		more, c := Add(l, s, 14)
		for at := s.From; c == api.OK && at < s.To; at++ {
			isDrop(t, more, at, l, api.OK)
		}
	}
	many := row(limit, 2, 0)
	for _, i := range []int{0, 1, limit / 2, limit - 1} {
		got, c := Drop(many, 2*i+1)
		if c != api.OK || !slices.Equal(got, slices.Concat(many[:i], many[i+1:])) {
			t.Errorf("Drop of the fold %d of so many: %d folds, %d", i, len(got), c)
		}
	}
}

// lines is what is told of all lines of a text: which are hidden, which are heads, which are seen.
type lines struct {
	hidden       []api.Band
	heads, shown []int
}

// isLines holds what Hidden, Hides, Heads and Visible tell against what they are to be.
func isLines(t *testing.T, l []api.Span, x *text.Text, want lines) {
	t.Helper()
	got := lines{Hidden(l, x), Heads(l, x), Visible(l, x)}
	if !slices.Equal(got.hidden, want.hidden) || !slices.Equal(got.heads, want.heads) || !slices.Equal(got.shown, want.shown) {
		t.Errorf("%v of %q: %v, not %v", l, x.All(), got, want)
	}
	for line := -2; line < x.Lines()+2; line++ {
		if hides := slices.ContainsFunc(want.hidden, func(b api.Band) bool { return line >= b.From && line < b.To }); Hides(l, x, line) != hides {
			t.Errorf("Hides(%v, %q, %d): %t", l, x.All(), line, !hides)
		}
	}
}

// P14.2: Hidden, Hides, Heads and Visible, as they stand.
func TestLinesByHand(t *testing.T) {
	// Five lines: they begin at 0, 3, 6, 9 and 12, each with two letters; the last one ends at 14.
	const five = "ab\ncd\nef\ngh\nij"
	for _, c := range []struct {
		s    string
		l    []api.Span
		want lines
	}{
		{five, nil, lines{nil, nil, []int{0, 1, 2, 3, 4}}}, {five, []api.Span{}, lines{nil, nil, []int{0, 1, 2, 3, 4}}},
		{five, fs(0, 2), lines{nil, nil, []int{0, 1, 2, 3, 4}}}, {five, fs(0, 1), lines{nil, nil, []int{0, 1, 2, 3, 4}}}, {five, fs(3, 5), lines{nil, nil, []int{0, 1, 2, 3, 4}}}, {five, fs(12, 14), lines{nil, nil, []int{0, 1, 2, 3, 4}}},
		{five, fs(0, 3), lines{bs(1, 2), []int{0}, []int{0, 2, 3, 4}}}, {five, fs(2, 3), lines{bs(1, 2), []int{0}, []int{0, 2, 3, 4}}}, {five, fs(0, 4), lines{bs(1, 2), []int{0}, []int{0, 2, 3, 4}}}, {five, fs(0, 5), lines{bs(1, 2), []int{0}, []int{0, 2, 3, 4}}}, {five, fs(1, 6), lines{bs(1, 3), []int{0}, []int{0, 3, 4}}},
		{five, fs(3, 8), lines{bs(2, 3), []int{1}, []int{0, 1, 3, 4}}}, {five, fs(5, 9), lines{bs(2, 4), []int{1}, []int{0, 1, 4}}}, {five, fs(0, 14), lines{bs(1, 5), []int{0}, []int{0}}}, {five, fs(0, 12), lines{bs(1, 5), []int{0}, []int{0}}}, {five, fs(0, 11), lines{bs(1, 4), []int{0}, []int{0, 4}}}, {five, fs(11, 14), lines{bs(4, 5), []int{3}, []int{0, 1, 2, 3}}},
		{five, fs(0, 4, 7, 10), lines{bs(1, 2, 3, 4), []int{0, 2}, []int{0, 2, 4}}}, {five, fs(0, 4, 4, 7), lines{bs(1, 3), []int{0}, []int{0, 3, 4}}}, {five, fs(0, 4, 5, 7), lines{bs(1, 3), []int{0}, []int{0, 3, 4}}}, {five, fs(0, 4, 6, 10), lines{bs(1, 2, 3, 4), []int{0, 2}, []int{0, 2, 4}}},
		{five, fs(0, 7, 7, 8, 9, 13), lines{bs(1, 3, 4, 5), []int{0, 3}, []int{0, 3}}}, {five, fs(0, 7, 8, 13), lines{bs(1, 5), []int{0}, []int{0}}}, {five, fs(0, 3, 3, 6, 6, 9, 9, 12, 12, 14), lines{bs(1, 5), []int{0}, []int{0}}}, {five, fs(2, 3, 5, 6, 8, 9, 11, 12), lines{bs(1, 5), []int{0}, []int{0}}},
		{five, fs(3, 9, 3, 9), lines{bs(2, 4), []int{1}, []int{0, 1, 4}}}, {five, fs(4, 9, 5, 10), lines{bs(2, 4), []int{1}, []int{0, 1, 4}}}, {five, fs(3, 10, 0, 8), lines{bs(1, 4), []int{0}, []int{0, 4}}}, {five, fs(0, 14, 3, 8), lines{bs(1, 5), []int{0}, []int{0}}}, {five, fs(11, 12, 2, 3), lines{bs(1, 2, 4, 5), []int{0, 3}, []int{0, 2, 3}}},
		{five, fs(8, 3), lines{nil, nil, []int{0, 1, 2, 3, 4}}}, {five, fs(14, 0), lines{nil, nil, []int{0, 1, 2, 3, 4}}}, {five, fs(3, 3), lines{nil, nil, []int{0, 1, 2, 3, 4}}}, {five, fs(5, 4), lines{nil, nil, []int{0, 1, 2, 3, 4}}}, {five, fs(8, 3, 0, 4), lines{bs(1, 2), []int{0}, []int{0, 2, 3, 4}}},
		{five, fs(0, 15), lines{nil, nil, []int{0, 1, 2, 3, 4}}}, {five, fs(-1, 14), lines{nil, nil, []int{0, 1, 2, 3, 4}}}, {five, fs(15, 16), lines{nil, nil, []int{0, 1, 2, 3, 4}}}, {five, fs(-5, -1), lines{nil, nil, []int{0, 1, 2, 3, 4}}}, {five, fs(-1, 15), lines{nil, nil, []int{0, 1, 2, 3, 4}}}, {five, fs(-1, 14, 0, 15, 3, 8), lines{bs(2, 3), []int{1}, []int{0, 1, 3, 4}}},
		{"", nil, lines{nil, nil, []int{0}}}, {"", fs(0, 0), lines{nil, nil, []int{0}}}, {"", fs(0, 1), lines{nil, nil, []int{0}}}, {"ab", fs(0, 2), lines{nil, nil, []int{0}}}, {"ab", fs(0, 3), lines{nil, nil, []int{0}}}, {"ab", nil, lines{nil, nil, []int{0}}},
		{"\n", fs(0, 1), lines{bs(1, 2), []int{0}, []int{0}}}, {"\n", fs(0, 0), lines{nil, nil, []int{0, 1}}}, {"\n", fs(1, 1), lines{nil, nil, []int{0, 1}}}, {"\n", fs(1, 2), lines{nil, nil, []int{0, 1}}}, {"\n\n\n", fs(0, 3), lines{bs(1, 4), []int{0}, []int{0}}}, {"\n\n\n", fs(1, 2), lines{bs(2, 3), []int{1}, []int{0, 1, 3}}},
		{"ab\ncd\n", fs(0, 6), lines{bs(1, 3), []int{0}, []int{0}}}, {"ab\ncd\n", fs(0, 5), lines{bs(1, 2), []int{0}, []int{0, 2}}}, {"ab\ncd\n", fs(3, 6), lines{bs(2, 3), []int{1}, []int{0, 1}}}, {"ab\ncd\n", fs(5, 6), lines{bs(2, 3), []int{1}, []int{0, 1}}}, {"ab\ncd\n", fs(0, 7), lines{nil, nil, []int{0, 1, 2}}}, {"ab\ncd", fs(0, 5), lines{bs(1, 2), []int{0}, []int{0}}}, {"ab\ncd", fs(0, 6), lines{nil, nil, []int{0, 1}}},
		{"a\nb\nc", fs(0, 2), lines{bs(1, 2), []int{0}, []int{0, 2}}}, {"\xff\n\xc3\xa9\n\xc3", fs(3, 6), lines{bs(2, 3), []int{1}, []int{0, 1}}},
	} {
		isLines(t, c.l, of(t, c.s), c.want)
	}
}

// lineOf is the line in which at lies, byte by byte.
func lineOf(s string, at int) (int, bool) {
	if at < 0 || at > len(s) {
		return 0, false
	}
	line := 0
	for _, b := range []byte(s)[:at] {
		if b == '\n' {
			line++
		}
	}
	return line, true
}

// hidesOne is whether the fold hides the line, by the chapter's words.
func hidesOne(s string, fold api.Span, line int) bool {
	from, begins := lineOf(s, fold.From)
	to, ends := lineOf(s, fold.To)
	return begins && ends && line > from && line <= to
}

// linesOf is what is to be told of all lines of s, one by one.
func linesOf(s string, l []api.Span) lines {
	var want lines
	hidden := func(line int) bool {
		return slices.ContainsFunc(l, func(fold api.Span) bool { return hidesOne(s, fold, line) })
	}
	last, _ := lineOf(s, len(s))
	for line := range last + 1 {
		switch {
		case !hidden(line):
			want.shown = append(want.shown, line)
			if hidden(line + 1) {
				want.heads = append(want.heads, line)
			}
		case hidden(line - 1):
			want.hidden[len(want.hidden)-1].To++
		default:
			want.hidden = append(want.hidden, api.Band{From: line, To: line + 1})
		}
	}
	return want
}

// opened is l without those that hide the line of at, one by one; all of it, if at is no place.
func opened(s string, l []api.Span, at int) []api.Span {
	line, ok := lineOf(s, at)
	var left []api.Span
	for _, fold := range l {
		if !ok || !hidesOne(s, fold, line) {
			left = append(left, fold)
		}
	}
	return left
}

// P14.2, P14.3: all short texts with all lists of up to two folds, those that are none among them, line by line.
func TestAllSmallTexts(t *testing.T) {
	eachText(4, func(s string) {
		x := of(t, s)
		eachList(spans(-1, len(s)+1), 2, func(l []api.Span) {
			isLines(t, l, x, linesOf(s, l))
			for at := -2; at <= len(s)+2; at++ {
				isOpens(t, l, x, at, opened(s, l, at))
			}
		})
	})
}

// P14.2, P14.3: three folds, which may be good ones beside one another.
func TestThreeFolds(t *testing.T) {
	for _, s := range []string{"a\nb\n\nc", "\n\n\n\n\n", "\nab\nc\n"} {
		x := of(t, s)
		for _, a := range spans(0, len(s)) {
			for _, b := range spans(a.From, len(s)) {
				for _, c := range spans(b.From, len(s)) {
					l := []api.Span{a, b, c}
					isLines(t, l, x, linesOf(s, l))
					isOpens(t, l, x, b.To, opened(s, l, b.To))
				}
			}
		}
	}
}

// P14.2, P14.3: what is told is told of the text as it is, behind each insert and delete.
func TestTextThatIsEdited(t *testing.T) {
	s := "ab\ncd\nef"
	x := of(t, s)
	l := fs(1, 4, 4, 8)
	for i, e := range []struct {
		at, out int
		in      string
	}{{3, 0, "\n"}, {2, 1, ""}, {0, 0, "\n\n"}, {4, 3, "x\ny\nz"}, {0, 9, ""}, {1, 0, "1\n2\n3\n"}, {0, 0, "long\nlong\n"}} {
		if _, c := x.Delete(e.at, e.out); c != api.OK {
			t.Fatal(i, c)
		}
		if c := x.Insert(e.at, []byte(e.in)); c != api.OK {
			t.Fatal(i, c)
		}
		s = s[:e.at] + e.in + s[e.at+e.out:]
		isLines(t, l, x, linesOf(s, l))
		for at := range len(s) + 2 {
			isOpens(t, l, x, at, opened(s, l, at))
		}
		if string(x.All()) != s {
			t.Fatalf("%d: the text is %q, not %q", i, x.All(), s)
		}
	}
}

// P14.2, P14.3: no text at all has no lines, and no places.
func TestNoText(t *testing.T) {
	for _, l := range [][]api.Span{nil, fs(0, 0), fs(0, 1), fs(0, 3, 3, 9), fs(-1, 0), fs(-5, 5)} {
		isLines(t, l, nil, lines{})
		for _, at := range []int{-1, 0, 1, 4, math.MinInt, math.MaxInt} {
			isOpens(t, l, nil, at, l)
			if Hides(l, nil, at) {
				t.Errorf("Hides(%v, nil, %d)", l, at)
			}
		}
	}
}

// P14.2, P14.3: folds, lines and places of numbers that none may have: such a fold hides nothing, such a line isn't hidden, at such a place none opens.
func TestLinesOfStrangeNumbers(t *testing.T) {
	const s = "a\nb\nc\nd"
	x := of(t, s)
	good := fs(0, 3, 3, 5)
	want := lines{bs(1, 3), []int{0}, []int{0, 3}}
	isLines(t, good, x, want)
	for _, n := range strange {
		for _, fold := range []api.Span{f(n, 7), f(0, n), f(n, n), f(n, 0), f(n, -n), f(n, n+1), f(-n, n), f(7, n)} {
			if fold == f(0, 7) || fold == f(0, 0) {
				continue
			}
			isLines(t, []api.Span{fold}, x, linesOf(s, []api.Span{fold}))
			l := []api.Span{good[0], fold, good[1]}
			isLines(t, l, x, want)
			isOpens(t, l, x, 4, []api.Span{good[0], fold})
			isOpens(t, l, x, 7, l)
		}
		isOpens(t, good, x, n, good)
		if Hides(good, x, n) || Hides(fs(0, 7), x, n) {
			t.Errorf("Hides of the line %d", n)
		}
	}
}

// isOpens holds what Opens tells against what it is to be; behind it the line of at is seen, and no other one is hidden anew.
func isOpens(t *testing.T, l []api.Span, x *text.Text, at int, want []api.Span) {
	t.Helper()
	got := Opens(l, x, at)
	if !slices.Equal(got, want) {
		t.Errorf("Opens(%v, %q, %d): %v, not %v", l, x.All(), at, got, want)
	}
	if line, _, ok := x.Place(at); ok && Hides(got, x, line) {
		t.Errorf("Opens(%v, %q, %d): %v, by which the line %d is hidden", l, x.All(), at, got, line)
	}
}

// P14.3: Opens, as it stands: in hidden lines, in heads, behind folds, at both ends, and of places that are none.
func TestOpensByHand(t *testing.T) {
	const five = "ab\ncd\nef\ngh\nij"
	l := fs(1, 4, 7, 13)
	all := fs(0, 9, 1, 4, 4, 8, 14, 3, -1, 9)
	for _, c := range []struct {
		s    string
		l    []api.Span
		at   int
		want []api.Span
	}{
		{five, l, 0, l}, {five, l, 1, l}, {five, l, 2, l}, {five, l, 3, fs(7, 13)}, {five, l, 4, fs(7, 13)}, {five, l, 5, fs(7, 13)}, {five, l, 6, l}, {five, l, 7, l}, {five, l, 8, l},
		{five, l, 9, fs(1, 4)}, {five, l, 11, fs(1, 4)}, {five, l, 12, fs(1, 4)}, {five, l, 13, fs(1, 4)}, {five, l, 14, fs(1, 4)}, {five, l, 15, l}, {five, l, -1, l}, {five, l, most, l},
		{five, all, 0, all}, {five, all, 3, fs(4, 8, 14, 3, -1, 9)}, {five, all, 6, fs(1, 4, 14, 3, -1, 9)}, {five, all, 10, fs(1, 4, 4, 8, 14, 3, -1, 9)}, {five, all, 14, all}, {five, all, 15, all},
		{five, fs(3, 8, 3, 8), 7, nil}, {five, fs(3, 8, 3, 8), 4, fs(3, 8, 3, 8)}, {five, fs(0, 2), 1, fs(0, 2)}, {five, fs(0, 14), 14, nil}, {five, fs(0, 14), 2, fs(0, 14)}, {five, fs(0, 14), 3, nil}, {five, nil, 3, nil}, {five, nil, 99, nil},
		{"", nil, 0, nil}, {"", fs(0, 0), 0, fs(0, 0)}, {"", fs(0, 1), 0, fs(0, 1)}, {"", fs(0, 1), 1, fs(0, 1)}, {"ab", fs(0, 2), 1, fs(0, 2)},
		{"ab\n", fs(0, 3), 3, nil}, {"ab\n", fs(0, 3), 2, fs(0, 3)}, {"ab\n", fs(0, 2), 3, fs(0, 2)}, {"ab\n", fs(0, 4), 3, fs(0, 4)}, {"\n", fs(0, 1), 1, nil}, {"\n", fs(0, 1), 0, fs(0, 1)},
	} {
		isOpens(t, c.l, of(t, c.s), c.at, c.want)
	}
}

// P14.2: the chapter's example.
func TestExample(t *testing.T) {
	isLines(t, fs(1, 4), of(t, "ab\ncd\nef"), lines{bs(1, 2), []int{0}, []int{0, 2}})
}

// once tells whether the lines that are hidden and those that are seen are all lines, each once, the first one among those that are seen, and each list as it must be.
func once(t *testing.T, l []api.Span, x *text.Text) {
	t.Helper()
	hidden, shown := Hidden(l, x), Visible(l, x)
	if !band.Good(hidden) || !slices.IsSorted(shown) || x.Lines() > 0 && (len(shown) == 0 || shown[0] != 0) || Hides(l, x, 0) {
		t.Errorf("%v of %d lines: %v are hidden, %d seen", l, x.Lines(), hidden, len(shown))
	}
	times := make([]int, x.Lines())
	for _, b := range hidden {
		for line := b.From; line < b.To; line++ {
			times[line]++
		}
	}
	for _, line := range shown {
		times[line]++
	}
	if slices.ContainsFunc(times, func(n int) bool { return n != 1 }) {
		t.Errorf("%v of %d lines: %v are hidden, %v seen", l, x.Lines(), hidden, shown)
	}
}

// P14.4: Visible and Hidden are all lines, each once, and the first line is seen.
func TestAllLinesOnce(t *testing.T) {
	eachText(4, func(s string) {
		x := of(t, s)
		eachList(spans(-1, len(s)+1), 2, func(l []api.Span) { once(t, l, x) })
	})
	x := of(t, string(bytes.Repeat([]byte("ab\n"), 400)))
	for long := 1; long < 20; long++ {
		for gap := range 9 {
			once(t, row(1200/(long+gap), long, gap), x)
		}
	}
	once(t, fs(0, 1), nil)
}

// P14.1 to P14.4: so many folds as there may be, in the longest text.
func TestManyFoldsOfTheLongestText(t *testing.T) {
	x, c := text.New(bytes.Repeat([]byte("\n"), most), most)
	if c != api.OK {
		t.Fatal(c)
	}
	// Each fold hides the lines behind its first place, up to its last; the next one begins in the line behind that.
	long := most/limit - 1
	l := row(limit, long, 1)
	if !Good(l, most) {
		t.Fatal("Good")
	}
	hidden, heads, shown := Hidden(l, x), Heads(l, x), Visible(l, x)
	if len(hidden) != limit || len(heads) != limit || len(shown) != limit+1 {
		t.Fatalf("%d bands, %d heads, %d lines", len(hidden), len(heads), len(shown))
	}
	for i, s := range l {
		if hidden[i] != (api.Band{From: s.From + 1, To: s.To + 1}) || heads[i] != s.From || shown[i] != s.From {
			t.Fatalf("%d: %v, %d, %d", i, hidden[i], heads[i], shown[i])
		}
	}
	if shown[limit] != most || Hides(l, x, most) || !Hides(l, x, most-1) || Hides(l, x, most+1) {
		t.Errorf("the last line: %d", shown[limit])
	}
	if got := Opens(l, x, most-1); !slices.Equal(got, l[:limit-1]) {
		t.Errorf("Opens: %d folds", len(got))
	}
	all := fs(0, most)
	isWhole := func(b []api.Band, h, v []int) bool {
		return slices.Equal(b, bs(1, most+1)) && slices.Equal(h, []int{0}) && slices.Equal(v, []int{0})
	}
	if !isWhole(Hidden(all, x), Heads(all, x), Visible(all, x)) || !Hides(all, x, most) || Hides(all, x, 0) || Hides(all, x, most+1) || len(Opens(all, x, 1)) != 0 {
		t.Error("a fold of all")
	}
	if v := Visible(nil, x); len(v) != most+1 || v[0] != 0 || v[most] != most {
		t.Errorf("no folds: %d lines", len(v))
	}
}

// overwrite makes others of all of l, and of what lies in its spare room.
func overwrite[T any](l []T, other T) {
	l = l[:cap(l)]
	for i := range l {
		l[i] = other
	}
}

// Memory: what is handed in stays as it was, its spare room included, and what is handed out is apart from it, from the text, and from what is handed out again.
func TestMemoryApart(t *testing.T) {
	const s = "ab\ncd\nef\ngh\nij"
	x := of(t, s)
	was := fs(1, 4, 4, 8, 10, 13, 0, 2, 7, 7)
	for name, call := range map[string]func(l []api.Span) []api.Span{
		"Add ahead":         func(l []api.Span) []api.Span { return added(l, f(0, 1)) },
		"Add between":       func(l []api.Span) []api.Span { return added(l, f(8, 10)) },
		"Add behind":        func(l []api.Span) []api.Span { return added(l, f(13, 14)) },
		"Add what's shared": func(l []api.Span) []api.Span { return added(l, f(3, 6)) },
		"Drop the first":    func(l []api.Span) []api.Span { return dropped(l, 1) },
		"Drop the second":   func(l []api.Span) []api.Span { return dropped(l, 4) },
		"Drop the last":     func(l []api.Span) []api.Span { return dropped(l, 12) },
		"Drop none":         func(l []api.Span) []api.Span { return dropped(l, 9) },
		"Opens one":         func(l []api.Span) []api.Span { return Opens(l, x, 3) },
		"Opens another":     func(l []api.Span) []api.Span { return Opens(l, x, 12) },
		"Opens none":        func(l []api.Span) []api.Span { return Opens(l, x, 0) },
		"Opens nowhere":     func(l []api.Span) []api.Span { return Opens(l, x, 99) },
		"Opens of no text":  func(l []api.Span) []api.Span { return Opens(l, nil, 3) },
	} {
		whole := slices.Clone(was)
		first, again := call(whole[:3]), call(whole[:3])
		want := slices.Clone(again)
		if !slices.Equal(first, again) || !slices.Equal(whole, was) {
			t.Errorf("%s makes %v of %v", name, whole, was)
		}
		overwrite(first, f(-7, -7))
		if !slices.Equal(whole, was) || !slices.Equal(again, want) {
			t.Errorf("%s hands out what it was handed, or what it hands out again", name)
		}
		overwrite(whole, f(-7, -7))
		if !slices.Equal(again, want) {
			t.Errorf("%s hands out what it was handed", name)
		}
	}
}

// added is what Add makes.
func added(l []api.Span, s api.Span) []api.Span {
	l, _ = Add(l, s, 14)
	return l
}

// dropped is what Drop leaves.
func dropped(l []api.Span, at int) []api.Span {
	l, _ = Drop(l, at)
	return l
}

// Memory: Good, Hidden, Hides, Heads and Visible change neither folds nor text, and each list of lines is its own.
func TestMemoryOfLines(t *testing.T) {
	const s = "ab\ncd\nef\ngh\nij"
	x := of(t, s)
	was := fs(1, 4, 7, 10, 0, 2, 7, 7)
	whole := slices.Clone(was)
	l := whole[:2]
	want := lines{bs(1, 2, 3, 4), []int{0, 2}, []int{0, 2, 4}}
	Good(l, 14)
	for range 2 {
		isLines(t, l, x, want)
		overwrite(Hidden(l, x), api.Band{From: -7, To: -7})
		overwrite(Heads(l, x), -7)
		overwrite(Visible(l, x), -7)
	}
	if !slices.Equal(whole, was) || string(x.All()) != s {
		t.Errorf("%v, %q", whole, x.All())
	}
}
