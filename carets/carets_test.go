package carets

import (
	"math"
	"slices"
	"testing"

	"scrivener/api"
	"scrivener/mark"
	"scrivener/text"
	"scrivener/utf"
)

const (
	most  = 1 << 24
	limit = 1 << 16
)

// strange are numbers far below 0 and far above what a text may have, and such that sums of them wrap round.
var strange = []int{
	-2, -most, -1 << 31, 1 - 1<<32, -1 << 32, math.MinInt / 2, math.MinInt + 1, math.MinInt,
	most + 1, most + 2, 1 << 31, 1 << 32, 1<<32 + 1, math.MaxInt / 2, math.MaxInt - 1, math.MaxInt,
}

// c is a caret.
func c(anchor, head int) api.Caret {
	return api.Caret{Anchor: anchor, Head: head}
}

// cs is carets of numbers, two of each.
func cs(n ...int) []api.Caret {
	var l []api.Caret
	for i := 0; i < len(n); i += 2 {
		l = append(l, c(n[i], n[i+1]))
	}
	return l
}

// ss is spans of numbers, two of each.
func ss(n ...int) []api.Span {
	var l []api.Span
	for i := 0; i < len(n); i += 2 {
		l = append(l, api.Span{From: n[i], To: n[i+1]})
	}
	return l
}

// of is a text of the bytes of s.
func of(t *testing.T, s string) *text.Text {
	t.Helper()
	x, e := text.New([]byte(s), most)
	if e != api.OK {
		t.Fatalf("a text of %d bytes: %d", len(s), e)
	}
	return x
}

// pairs are all carets whose ends are from low to high.
func pairs(low, high int) []api.Caret {
	var l []api.Caret
	for anchor := low; anchor <= high; anchor++ {
		for head := low; head <= high; head++ {
			l = append(l, c(anchor, head))
		}
	}
	return l
}

// eachList calls do with each list of up to n of some.
func eachList(some []api.Caret, n int, do func(l []api.Caret)) {
	var grow func(l []api.Caret)
	grow = func(l []api.Caret) {
		do(l)
		if len(l) < n {
			for _, s := range some {
				grow(append(slices.Clone(l), s))
			}
		}
	}
	grow(nil)
}

// ends is the ends of a caret in order, told by a sort.
func ends(a api.Caret) [2]int {
	l := []int{a.Anchor, a.Head}
	slices.Sort(l)
	return [2]int(l)
}

// meet is whether two carets meet, in the chapter's words.
func meet(a, b api.Caret) bool {
	p, q := ends(a), ends(b)
	if p[0] < q[1] && q[0] < p[1] {
		return true
	}
	nothing := a.Anchor == a.Head || b.Anchor == b.Head
	return nothing && (p[0] == q[1] || q[0] == p[1])
}

// before is whether a comes ahead of b in order.
func before(a, b api.Caret) bool {
	p, q := ends(a), ends(b)
	return p[0] < q[0] || p[0] == q[0] && p[1] < q[1]
}

// tidied is Tidy in the chapter's words: the first of those that are left is taken, again and again.
func tidied(l []api.Caret) []api.Caret {
	left := slices.Clone(l)
	var out []api.Caret
	for len(left) > 0 {
		first := 0
		for i := range left {
			if before(left[i], left[first]) {
				first = i
			}
		}
		next := left[first]
		left = slices.Delete(left, first, first+1)
		if len(out) == 0 || !meet(out[len(out)-1], next) {
			out = append(out, next)
			continue
		}
		last := out[len(out)-1]
		low, high := ends(last)[0], max(ends(last)[1], ends(next)[1])
		one := c(low, high)
		if last.Head < last.Anchor {
			one = c(high, low)
		}
		out[len(out)-1] = one
	}
	return out
}

// has is whether one of l has the place at.
func has(l []api.Caret, at int) bool {
	for _, a := range l {
		if p := ends(a); p[0] <= at && p[1] > at {
			return true
		}
	}
	return false
}

// P15.2: the limits upon which the edges below stand.
func TestLimits(t *testing.T) {
	if api.MaxCarets != limit || api.MaxText != most {
		t.Error(api.MaxCarets, api.MaxText)
	}
	if api.OK != 0 || api.ErrRange != 1 || api.ErrLimit != 2 || api.ErrEmpty != 7 {
		t.Error(api.OK, api.ErrRange, api.ErrLimit, api.ErrEmpty)
	}
}

// P15.1: Ends of a caret whose Anchor is below, at, and above its Head.
func TestEnds(t *testing.T) {
	for _, w := range []struct {
		c         api.Caret
		low, high int
	}{
		{c(2, 5), 2, 5}, {c(5, 2), 2, 5}, {c(3, 3), 3, 3}, {c(0, 0), 0, 0}, {c(0, 1), 0, 1}, {c(1, 0), 0, 1},
		{c(-3, 4), -3, 4}, {c(4, -3), -3, 4}, {c(-5, -7), -7, -5},
		{c(0, most), 0, most}, {c(most+1, most), most, most + 1},
		{c(math.MaxInt, math.MinInt), math.MinInt, math.MaxInt}, {c(math.MinInt, math.MaxInt), math.MinInt, math.MaxInt}, {c(math.MinInt, math.MinInt), math.MinInt, math.MinInt},
	} {
		if low, high := Ends(w.c); low != w.low || high != w.high {
			t.Errorf("Ends(%v): %d, %d", w.c, low, high)
		}
	}
	for _, a := range append(pairs(-2, 3), cs(strange...)...) {
		if low, high := Ends(a); [2]int{low, high} != ends(a) {
			t.Errorf("Ends(%v): %d, %d", a, low, high)
		}
	}
}

// isTidy holds what Tidy makes against what it is to be.
func isTidy(t *testing.T, l, want []api.Caret) {
	t.Helper()
	if got := Tidy(l...); !slices.Equal(got, want) {
		t.Errorf("Tidy(%v): %v, not %v", l, got, want)
	}
}

// P15.1: Tidy at each edge, and one beyond.
func TestTidyByHand(t *testing.T) {
	for _, w := range []struct{ l, want []api.Caret }{
		{nil, nil}, {cs(2, 5), cs(2, 5)}, {cs(5, 2), cs(5, 2)}, {cs(3, 3), cs(3, 3)}, {cs(-4, -9), cs(-4, -9)},
		{cs(0, 3, 2, 5), cs(0, 5)}, {cs(2, 5, 0, 3), cs(0, 5)}, {cs(0, 3, 3, 5), cs(0, 3, 3, 5)}, {cs(0, 3, 4, 5), cs(0, 3, 4, 5)}, {cs(3, 5, 0, 3), cs(0, 3, 3, 5)}, {cs(4, 5, 0, 3), cs(0, 3, 4, 5)},
		// the same one twice
		{cs(2, 5, 2, 5), cs(2, 5)}, {cs(5, 2, 5, 2), cs(5, 2)}, {cs(3, 3, 3, 3), cs(3, 3)}, {cs(3, 3, 4, 4), cs(3, 3, 4, 4)}, {cs(4, 4, 3, 3), cs(3, 3, 4, 4)},
		// the same but for its direction: the first one in l points
		{cs(2, 5, 5, 2), cs(2, 5)}, {cs(5, 2, 2, 5), cs(5, 2)}, {cs(5, 2, 2, 5, 2, 5), cs(5, 2)}, {cs(2, 5, 5, 2, 5, 2), cs(2, 5)},
		{cs(9, 9, 5, 2, 7, 7, 2, 5), cs(5, 2, 7, 7, 9, 9)}, {cs(9, 9, 2, 5, 7, 7, 5, 2), cs(2, 5, 7, 7, 9, 9)},
		// one that chooses nothing, at the low end, within, at the high end, and one beyond each
		{cs(2, 2, 2, 5), cs(2, 5)}, {cs(1, 1, 2, 5), cs(1, 1, 2, 5)}, {cs(3, 3, 2, 5), cs(2, 5)}, {cs(4, 4, 2, 5), cs(2, 5)}, {cs(5, 5, 2, 5), cs(2, 5)}, {cs(6, 6, 2, 5), cs(2, 5, 6, 6)},
		// one that chooses nothing comes first, just if it stands at the low end: then it points, to the high end
		{cs(2, 2, 5, 2), cs(2, 5)}, {cs(5, 2, 2, 2), cs(2, 5)}, {cs(1, 1, 5, 2), cs(1, 1, 5, 2)}, {cs(5, 2, 3, 3), cs(5, 2)}, {cs(5, 2, 4, 4), cs(5, 2)}, {cs(5, 2, 5, 5), cs(5, 2)}, {cs(5, 2, 6, 6), cs(5, 2, 6, 6)},
		// which of both points: the one of the lower low end, then of the lower high end
		{cs(3, 0, 2, 5), cs(5, 0)}, {cs(0, 3, 5, 2), cs(0, 5)}, {cs(2, 5, 3, 0), cs(5, 0)}, {cs(5, 2, 3, 0), cs(5, 0)},
		{cs(2, 4, 5, 2), cs(2, 5)}, {cs(4, 2, 2, 5), cs(5, 2)}, {cs(5, 2, 2, 4), cs(2, 5)}, {cs(2, 5, 4, 2), cs(5, 2)}, {cs(2, 2, 5, 2, 2, 2), cs(2, 5)},
		// one within another
		{cs(0, 9, 3, 5), cs(0, 9)}, {cs(9, 0, 3, 5), cs(9, 0)}, {cs(5, 3, 0, 9), cs(0, 9)}, {cs(0, 9, 7, 9), cs(0, 9)}, {cs(9, 0, 7, 9), cs(9, 0)}, {cs(0, 9, 8, 10), cs(0, 10)}, {cs(0, 9, 9, 10), cs(0, 9, 9, 10)}, {cs(0, 9, 3, 5, 8, 10), cs(0, 10)}, {cs(0, 9, 3, 5, 6, 6), cs(0, 9)},
		// what is one by then meets the next one, not what came into it
		{cs(0, 2, 2, 2, 2, 4), cs(0, 2, 2, 4)}, {cs(2, 4, 2, 2, 0, 2), cs(0, 2, 2, 4)}, {cs(2, 0, 2, 2, 4, 2), cs(2, 0, 4, 2)}, {cs(2, 2, 2, 3, 3, 4), cs(2, 3, 3, 4)}, {cs(2, 2, 2, 3, 3, 3, 4, 3), cs(2, 3, 4, 3)},
		// many that meet one after the other
		{cs(0, 2, 1, 3, 2, 4, 3, 5), cs(0, 5)}, {cs(3, 5, 2, 4, 1, 3, 2, 0), cs(5, 0)}, {cs(0, 2, 1, 3, 3, 5, 4, 6), cs(0, 3, 3, 6)}, {cs(6, 4, 5, 3, 3, 1, 2, 0), cs(3, 0, 6, 3)},
		{cs(8, 8, 6, 7, 0, 1, 3, 3), cs(0, 1, 3, 3, 6, 7, 8, 8)}, {cs(7, 6, 1, 0), cs(1, 0, 7, 6)},
		{cs(math.MaxInt, math.MinInt, 0, 0), cs(math.MaxInt, math.MinInt)}, {cs(0, math.MaxInt, math.MinInt, 0), cs(math.MinInt, 0, 0, math.MaxInt)}, {cs(math.MaxInt, math.MaxInt, math.MinInt, math.MinInt), cs(math.MinInt, math.MinInt, math.MaxInt, math.MaxInt)},
		{cs(math.MinInt, math.MinInt, 5, math.MinInt), cs(math.MinInt, 5)}, {cs(math.MaxInt, math.MaxInt, math.MaxInt, 5), cs(math.MaxInt, 5)}, {cs(math.MaxInt, math.MinInt, 0, 1), cs(math.MaxInt, math.MinInt)},
	} {
		isTidy(t, w.l, w.want)
	}
	if got := Tidy(); len(got) != 0 {
		t.Errorf("Tidy of none: %v", got)
	}
}

// isAll holds all that tells of l alone against the chapter's words, and P15.4 of it.
func isAll(t *testing.T, l []api.Caret, low, high int) {
	t.Helper()
	want := tidied(l)
	got := Tidy(l...)
	if !slices.Equal(got, want) {
		t.Fatalf("Tidy(%v): %v, not %v", l, got, want)
	}
	for i := range got {
		for j := range i {
			if meet(got[i], got[j]) || !before(got[j], got[i]) {
				t.Fatalf("Tidy(%v): %v", l, got)
			}
		}
	}
	isTidy(t, got, got)
	var spans []api.Span
	for _, a := range want {
		if p := ends(a); p[0] < p[1] {
			spans = append(spans, api.Span{From: p[0], To: p[1]})
		}
	}
	if told := Spans(l); !slices.Equal(told, spans) {
		t.Fatalf("Spans(%v): %v, not %v", l, told, spans)
	}
	for i := range high - low + 3 {
		// Far from 0 the number beside an end may wrap round; it is but another number then.
		at := low - 1 + i
		if is := has(l, at); Chosen(l, at) != is || Chosen(got, at) != is {
			t.Fatalf("Chosen(%v, %d): %t, and %t when Tidy", l, at, Chosen(l, at), Chosen(got, at))
		}
	}
}

// P15.1, P15.3, P15.4: Tidy, Spans and Chosen of all short lists of small carets; no two of Tidy meet, and what was chosen still is.
func TestShortLists(t *testing.T) {
	eachList(pairs(0, 3), 3, func(l []api.Caret) { isAll(t, l, 0, 3) })
	eachList(pairs(-1, 1), 4, func(l []api.Caret) { isAll(t, l, -1, 1) })
	eachList(pairs(0, 1), 6, func(l []api.Caret) { isAll(t, l, 0, 1) })
}

// P15.1, P15.4: lists that are longer than a sort does at one go, of numbers that come again and again.
func TestLongLists(t *testing.T) {
	for _, size := range []int{13, 40, 100} {
		for _, wide := range []int{1, 3, 9, 50, 400} {
			for step := 1; step < 60; step += 2 {
				var l []api.Caret
				n := step
				for range size {
					n = (n*75 + 74) % 65537
					at := n % wide
					n = (n*75 + 74) % 65537
					l = append(l, c(at, at+n%7-3))
				}
				isAll(t, l, -4, wide+4)
			}
		}
	}
}

// P15.1: of many that are the same but for their direction, the first one in l points, however many lie between.
func TestManyOfTheSameEnds(t *testing.T) {
	for _, size := range []int{2, 12, 13, 200, 3000} {
		for _, first := range cs(4, 9, 9, 4) {
			l := []api.Caret{first}
			for i := range size {
				l = append(l, c(first.Head, first.Anchor), c(30+i%5, 20+i%5), c(i%3, 0))
			}
			l = append(l, first)
			if got := Tidy(l...); got[1] != first {
				t.Errorf("%d of %v: %v", size, first, got)
			}
		}
	}
}

// goodPairs is Good in other words: there are some, all lie in the text, each comes ahead of all behind it, and none meet.
func goodPairs(l []api.Caret, n int) bool {
	for i, a := range l {
		if p := ends(a); p[0] < 0 || p[1] > n {
			return false
		}
		for _, b := range l[:i] {
			if !before(b, a) || meet(a, b) {
				return false
			}
		}
	}
	return len(l) > 0
}

// P15.1: Good at each edge, and one beyond.
func TestGoodByHand(t *testing.T) {
	for _, w := range []struct {
		l    []api.Caret
		n    int
		good bool
	}{
		{nil, 9, false}, {[]api.Caret{}, 9, false}, {nil, 0, false}, {nil, -1, false}, {nil, most, false},
		{cs(2, 5), 9, true}, {cs(5, 2), 9, true}, {cs(3, 3), 9, true}, {cs(0, 0), 0, true}, {cs(0, 0), 9, true}, {cs(9, 9), 9, true}, {cs(0, 0), -1, false},
		{cs(0, 9), 9, true}, {cs(9, 0), 9, true}, {cs(0, 10), 9, false}, {cs(10, 0), 9, false}, {cs(-1, 9), 9, false}, {cs(9, -1), 9, false}, {cs(10, 10), 9, false}, {cs(-1, -1), 9, false}, {cs(9, 10), 9, false}, {cs(10, 9), 9, false}, {cs(-1, 0), 9, false}, {cs(0, -1), 9, false},
		{cs(0, 2, 3, 5), 9, true}, {cs(0, 2, 5, 3), 9, true}, {cs(3, 5, 0, 2), 9, false}, {cs(0, 2, 2, 5), 9, true}, {cs(2, 0, 5, 2), 9, true}, {cs(2, 5, 0, 2), 9, false}, {cs(0, 3, 2, 5), 9, false}, {cs(0, 9, 2, 5), 9, false},
		{cs(0, 2, 2, 2), 9, false}, {cs(2, 2, 2, 5), 9, false}, {cs(0, 2, 3, 3), 9, true}, {cs(1, 1, 2, 5), 9, true}, {cs(2, 2, 2, 2), 9, false}, {cs(2, 2, 3, 3), 9, true}, {cs(3, 3, 2, 2), 9, false}, {cs(2, 5, 2, 5), 9, false}, {cs(2, 5, 5, 2), 9, false}, {cs(2, 4, 2, 5), 9, false},
		{cs(0, 2, 3, 5, 5, 9), 9, true}, {cs(0, 2, 3, 5, 5, 10), 9, false}, {cs(0, 2, 3, 5, 4, 9), 9, false}, {cs(-1, 2, 3, 5, 5, 9), 9, false}, {cs(0, 2, 5, 9, 3, 5), 9, false}, {cs(0, 2, 3, 10, 11, 12), 9, false},
		{cs(0, most), most, true}, {cs(0, most+1), most, false}, {cs(most, most), most, true},
		{cs(math.MaxInt, 0), math.MaxInt, true}, {cs(math.MaxInt, 0), math.MaxInt - 1, false}, {cs(0, math.MinInt), math.MaxInt, false}, {cs(0, 0), math.MinInt, false},
	} {
		if Good(w.l, w.n) != w.good {
			t.Errorf("Good(%v, %d): %t", w.l, w.n, !w.good)
		}
	}
}

// P15.1: Good of all short lists of small carets; it is so just of such as Tidy leaves as they are.
func TestGoodShortLists(t *testing.T) {
	hold := func(l []api.Caret) {
		for n := -2; n <= 4; n++ {
			if want := goodPairs(l, n); Good(l, n) != want {
				t.Fatalf("Good(%v, %d): %t", l, n, !want)
			}
		}
	}
	eachList(pairs(-1, 3), 2, hold)
	eachList(pairs(0, 2), 4, hold)
	eachList(pairs(0, 3), 3, hold)
}

// P15.1: Good knows no limit of how many there are, as its words name none.
func TestGoodOfMany(t *testing.T) {
	l := row(limit+1, 1, 1)
	n := l[limit].Head
	if !Good(l[:limit], n) || !Good(l, n) || Good(l, n-1) {
		t.Error(Good(l[:limit], n), Good(l, n), Good(l, n-1))
	}
	l[limit] = l[limit-1]
	if Good(l, n) {
		t.Error("the last one twice")
	}
}

// row is n carets of long places each, with a gap between them.
func row(n, long, gap int) []api.Caret {
	l := make([]api.Caret, n)
	for i := range l {
		l[i] = c(i*(long+gap), i*(long+gap)+long)
	}
	return l
}

// P15.1, P15.4: Tidy of so many carets as there may be, and of one more: apart, side by side, over one another, out of order.
func TestTidyOfMany(t *testing.T) {
	for _, size := range []int{limit, limit + 1} {
		end := 2*size - 1
		for _, w := range []struct {
			name    string
			l, want []api.Caret
		}{
			{"apart", row(size, 1, 1), row(size, 1, 1)},
			{"side by side", row(size, 2, 0), row(size, 2, 0)},
			{"over one another", row(size, 3, -1), cs(0, 2*size+1)},
			{"that choose nothing", row(size, 0, 1), row(size, 0, 1)},
			{"all the same", slices.Repeat(cs(7, 3), size), cs(7, 3)},
			{"within one", append(row(size-1, 1, 1), c(end, -1)), cs(end, -1)},
		} {
			isMany(t, w.name, w.l, w.want)
			slices.Reverse(w.l)
			isMany(t, w.name+", turned", w.l, w.want)
		}
	}
}

// isMany holds Tidy of many carets against what it is to be, without telling them.
func isMany(t *testing.T, name string, l, want []api.Caret) {
	t.Helper()
	if got := Tidy(l...); !slices.Equal(got, want) {
		t.Errorf("%d %s: %d, not %d", len(l), name, len(got), len(want))
	}
}

// isSet holds what Set tells against what it is to be.
func isSet(t *testing.T, l []api.Caret, x *text.Text, want []api.Caret, code api.Code) {
	t.Helper()
	if got, e := Set(l, x); !slices.Equal(got, want) || e != code {
		t.Errorf("Set(%v): %v, %d, not %v, %d", l, got, e, want, code)
	}
}

// P15.2: Set at each edge, and one beyond.
func TestSetByHand(t *testing.T) {
	// a, e9 out of two bytes, a bad byte, 20ac out of three, a line feed, b
	x := of(t, "a\xc3\xa9\xff\xe2\x82\xac\nb")
	for _, w := range []struct {
		l, want []api.Caret
		code    api.Code
	}{
		{nil, nil, api.ErrEmpty}, {[]api.Caret{}, nil, api.ErrEmpty},
		{cs(0, 0), cs(0, 0), api.OK}, {cs(9, 9), cs(9, 9), api.OK}, {cs(0, 9), cs(0, 9), api.OK}, {cs(9, 0), cs(9, 0), api.OK}, {cs(8, 9), cs(8, 9), api.OK},
		{cs(10, 9), nil, api.ErrRange}, {cs(9, 10), nil, api.ErrRange}, {cs(10, 10), nil, api.ErrRange}, {cs(-1, 0), nil, api.ErrRange}, {cs(0, -1), nil, api.ErrRange}, {cs(-1, -1), nil, api.ErrRange},
		{cs(0, 1, 3, 10), nil, api.ErrRange}, {cs(3, 10, 0, 1), nil, api.ErrRange}, {cs(0, 1, -1, 3, 4, 4), nil, api.ErrRange},
		// within the bytes of a rune, and of what is none
		{cs(1, 1), cs(1, 1), api.OK}, {cs(2, 2), cs(1, 1), api.OK}, {cs(3, 3), cs(3, 3), api.OK}, {cs(4, 4), cs(4, 4), api.OK}, {cs(5, 5), cs(4, 4), api.OK}, {cs(6, 6), cs(4, 4), api.OK}, {cs(7, 7), cs(7, 7), api.OK},
		{cs(2, 6), cs(1, 4), api.OK}, {cs(6, 2), cs(4, 1), api.OK}, {cs(1, 2), cs(1, 1), api.OK}, {cs(2, 1), cs(1, 1), api.OK}, {cs(6, 5), cs(4, 4), api.OK}, {cs(2, 3), cs(1, 3), api.OK},
		// carets that meet only then
		{cs(1, 1, 2, 2), cs(1, 1), api.OK}, {cs(4, 4, 5, 5, 6, 6, 7, 7), cs(4, 4, 7, 7), api.OK}, {cs(0, 1, 2, 2), cs(0, 1), api.OK}, {cs(1, 0, 2, 2), cs(1, 0), api.OK}, {cs(0, 1, 2, 3), cs(0, 1, 1, 3), api.OK}, {cs(6, 6, 7, 5), cs(4, 7), api.OK}, {cs(7, 5, 4, 4), cs(4, 7), api.OK},
		// by their places behind the snap, of the same ones in the order of l
		{cs(7, 6, 5, 7), cs(7, 4), api.OK}, {cs(5, 7, 7, 4), cs(4, 7), api.OK}, {cs(7, 5, 4, 7), cs(7, 4), api.OK},
		// carets that meet, and that are out of order
		{cs(0, 3, 1, 4), cs(0, 4), api.OK}, {cs(8, 9, 0, 1), cs(0, 1, 8, 9), api.OK}, {cs(4, 4, 4, 4), cs(4, 4), api.OK}, {cs(0, 4, 4, 7), cs(0, 4, 4, 7), api.OK},
	} {
		isSet(t, w.l, x, w.want, w.code)
		if w.code == api.OK {
			isSnap(t, w.l, x, w.want)
		}
	}
}

// P15.2: Set and Snap of no text, and of an empty one.
func TestNoText(t *testing.T) {
	for _, x := range []*text.Text{nil, of(t, "")} {
		isSet(t, nil, x, nil, api.ErrEmpty)
		isSet(t, cs(0, 0), x, cs(0, 0), api.OK)
		isSet(t, cs(0, 0, 0, 0), x, cs(0, 0), api.OK)
		isSet(t, cs(0, 1), x, nil, api.ErrRange)
		isSet(t, cs(1, 0), x, nil, api.ErrRange)
		isSet(t, cs(0, 0, 0, -1), x, nil, api.ErrRange)
		isSnap(t, nil, x, nil)
		isSnap(t, cs(3, 7, -2, 9), x, cs(0, 0))
		for _, s := range strange {
			isSet(t, cs(s, 0), x, nil, api.ErrRange)
			isSnap(t, cs(s, 0, 0, s), x, cs(0, 0))
		}
	}
}

// P15.2: Set of so many carets as there may be, and of one more; which of the codes is told, where several would fit.
func TestSetOfMany(t *testing.T) {
	x := of(t, string(make([]byte, limit+1)))
	all := row(limit+1, 0, 1)
	for _, size := range []int{limit - 1, limit} {
		if got, e := Set(all[:size], x); e != api.OK || !slices.Equal(got, all[:size]) {
			t.Errorf("%d carets: %d, %d", size, len(got), e)
		}
	}
	isSet(t, slices.Repeat(cs(5, 2), limit), x, cs(5, 2), api.OK)
	for _, w := range []struct {
		name string
		l    []api.Caret
		x    *text.Text
		code api.Code
	}{
		{"one more", all, x, api.ErrLimit},
		{"one more, all the same", slices.Repeat(cs(5, 2), limit+1), x, api.ErrLimit},
		{"one more, of no text", slices.Repeat(cs(0, 0), limit+1), nil, api.ErrLimit},
		{"many more", slices.Repeat(cs(5, 2), 2*limit+7), x, api.ErrLimit},
		{"one more, the last one beyond the text", append(slices.Clone(all[:limit]), c(0, limit+2)), x, api.ErrRange},
		{"one more, the first one ahead of it", append(cs(-1, 0), all[:limit]...), x, api.ErrRange},
		{"one more, beyond no text", all, nil, api.ErrRange},
		{"the last one beyond the text", append(slices.Clone(all[:limit-1]), c(limit+2, 0)), x, api.ErrRange},
		{"none, of no text", nil, nil, api.ErrEmpty},
	} {
		if got, e := Set(w.l, w.x); len(got) != 0 || e != w.code {
			t.Errorf("%s: %d, %d, not %d", w.name, len(got), e, w.code)
		}
	}
	if got, e := Set(append(slices.Clone(all[:limit]), c(limit+1, limit+1)), x); len(got) != 0 || e != api.ErrLimit {
		t.Errorf("one more, at the text's end: %d", e)
	}
}

// isSnap holds what Snap makes against what it is to be.
func isSnap(t *testing.T, l []api.Caret, x *text.Text, want []api.Caret) {
	t.Helper()
	if got := Snap(l, x); !slices.Equal(got, want) {
		t.Errorf("Snap(%v): %v, not %v", l, got, want)
	}
}

// P15.2: Set and Snap of all places of texts of all kinds of runes and of bytes that are none, held against utf.Starts.
func TestSnapEachPlace(t *testing.T) {
	for _, s := range []string{
		"", "a", "ab\ncd", "\xc3\xa9", "a\xc3\xa9b", "\xe2\x82\xac\xf0\x9f\x98\x80", "\xff\xfe", "\xc3", "a\xe2\x82", "\xf0\x9f\x98", "\x82\xac\xe2", "\xc3\xc3\xa9\xa9", "\xed\xa0\x80", "\xc3\xa9\n\xc3\xa9\n",
	} {
		x := of(t, s)
		starts := utf.Starts([]byte(s))
		snap := func(at int) int {
			best := 0
			for _, p := range starts {
				if p <= at {
					best = max(best, p)
				}
			}
			return best
		}
		eachList(pairs(-1, len(s)+1), 2, func(l []api.Caret) {
			var there []api.Caret
			in := len(l) > 0
			for _, a := range l {
				there = append(there, c(snap(a.Anchor), snap(a.Head)))
				in = in && ends(a)[0] >= 0 && ends(a)[1] <= len(s)
			}
			want := tidied(there)
			isSnap(t, l, x, want)
			switch {
			case len(l) == 0:
				isSet(t, l, x, nil, api.ErrEmpty)
			case in:
				isSet(t, l, x, want, api.OK)
			default:
				isSet(t, l, x, nil, api.ErrRange)
			}
		})
	}
}

// P15.2: Set and Snap go by the text as it is when they are called.
func TestTextThatIsEdited(t *testing.T) {
	x := of(t, "a\xc3")
	isSet(t, cs(2, 2), x, cs(2, 2), api.OK)
	isSet(t, cs(3, 3), x, nil, api.ErrRange)
	x.Insert(2, []byte("\xa9z"))
	isSet(t, cs(2, 2), x, cs(1, 1), api.OK)
	isSet(t, cs(4, 4), x, cs(4, 4), api.OK)
	x.Delete(1, 1)
	isSnap(t, cs(2, 2), x, cs(2, 2))
	isSet(t, cs(4, 4), x, nil, api.ErrRange)
}

// P15.2: Set and Snap of the longest text.
func TestLongestText(t *testing.T) {
	b := make([]byte, most)
	b[most-2], b[most-1] = 0xc3, 0xa9
	x := of(t, string(b))
	isSet(t, cs(0, most), x, cs(0, most), api.OK)
	isSet(t, cs(most, most-1), x, cs(most, most-2), api.OK)
	isSet(t, cs(most-1, most-1, most-2, most-2), x, cs(most-2, most-2), api.OK)
	isSet(t, cs(0, most+1), x, nil, api.ErrRange)
	isSnap(t, cs(most+1, most+1, -1, -1), x, cs(0, 0, most, most))
}

// isMove holds what Move makes against what it is to be.
func isMove(t *testing.T, l []api.Caret, e api.Edit, want []api.Caret) {
	t.Helper()
	if got := Move(l, e); !slices.Equal(got, want) {
		t.Errorf("Move(%v, %v): %v, not %v", l, e, got, want)
	}
}

// edit is an edit.
func edit(at, out, in int) api.Edit {
	return api.Edit{At: at, Out: out, In: in}
}

// P15.2: Move at each edge, and one beyond.
func TestMoveByHand(t *testing.T) {
	l := cs(10, 14, 16, 16, 20, 18)
	for _, w := range []struct {
		e    api.Edit
		want []api.Caret
	}{
		// ahead of all, and at the first low end
		{edit(3, 2, 5), cs(13, 17, 19, 19, 23, 21)}, {edit(3, 0, 5), cs(15, 19, 21, 21, 25, 23)}, {edit(3, 2, 0), cs(8, 12, 14, 14, 18, 16)}, {edit(3, 0, 0), l}, {edit(8, 2, 5), cs(13, 17, 19, 19, 23, 21)}, {edit(10, 0, 5), cs(15, 19, 21, 21, 25, 23)},
		// within what is chosen, to its end, over it
		{edit(11, 2, 5), cs(10, 17, 19, 19, 23, 21)}, {edit(11, 0, 5), cs(10, 19, 21, 21, 25, 23)}, {edit(11, 2, 0), cs(10, 12, 14, 14, 18, 16)}, {edit(11, 3, 1), cs(10, 12, 14, 14, 18, 16)}, {edit(11, 3, 0), cs(10, 11, 13, 13, 17, 15)},
		{edit(10, 4, 2), cs(10, 12, 14, 14, 18, 16)}, {edit(10, 4, 0), cs(10, 10, 12, 12, 16, 14)}, {edit(9, 3, 2), cs(11, 13, 15, 15, 19, 17)}, {edit(8, 7, 1), cs(9, 9, 10, 10, 14, 12)}, {edit(12, 3, 0), cs(10, 12, 13, 13, 17, 15)},
		// at the high end, between them, at one that chooses nothing
		{edit(14, 0, 3), cs(10, 17, 19, 19, 23, 21)}, {edit(14, 1, 3), cs(10, 14, 18, 18, 22, 20)}, {edit(15, 0, 3), cs(10, 14, 19, 19, 23, 21)}, {edit(14, 2, 0), cs(10, 14, 18, 16)}, {edit(15, 1, 0), cs(10, 14, 15, 15, 19, 17)}, {edit(16, 0, 3), cs(10, 14, 19, 19, 23, 21)}, {edit(16, 1, 3), cs(10, 14, 16, 16, 22, 20)}, {edit(16, 2, 0), cs(10, 14, 16, 18)}, {edit(17, 1, 0), cs(10, 14, 16, 16, 19, 17)},
		// over several
		{edit(14, 4, 0), cs(10, 14, 16, 14)}, {edit(14, 5, 0), cs(10, 14, 15, 14)}, {edit(13, 4, 0), cs(10, 13, 16, 14)}, {edit(9, 9, 0), cs(9, 11)}, {edit(9, 9, 3), cs(12, 14)}, {edit(10, 8, 0), cs(10, 12)}, {edit(9, 10, 0), cs(9, 10)}, {edit(9, 11, 0), cs(9, 9)}, {edit(9, 11, 2), cs(11, 11)}, {edit(0, 30, 0), cs(0, 0)}, {edit(0, 30, 7), cs(7, 7)}, {edit(12, 5, 1), cs(10, 13, 16, 14)}, {edit(12, 7, 1), cs(10, 13, 14, 13)},
		// at the last high end, and behind all
		{edit(20, 0, 3), cs(10, 14, 16, 16, 23, 18)}, {edit(20, 5, 3), l}, {edit(21, 0, 3), l}, {edit(21, 5, 0), l}, {edit(19, 1, 0), cs(10, 14, 16, 16, 19, 18)}, {edit(18, 2, 0), cs(10, 14, 16, 16, 18, 18)}, {edit(18, 9, 2), cs(10, 14, 16, 16, 20, 18)},
	} {
		isMove(t, l, w.e, w.want)
	}
	// carets that meet only then, and which way they point
	isMove(t, cs(1, 0, 5, 5), edit(1, 4, 0), cs(1, 0))
	isMove(t, cs(1, 1, 7, 5), edit(1, 4, 0), cs(1, 3))
	isMove(t, cs(1, 0, 7, 5), edit(1, 4, 0), cs(1, 0, 3, 1))
	isMove(t, cs(3, 2, 6, 9), edit(0, 7, 0), cs(0, 2))
	isMove(t, cs(9, 3, 3, 9), edit(0, 1, 0), cs(8, 2))
	isMove(t, nil, edit(0, 1, 0), nil)
}

// P15.2: Move of all short lists of small carets, out of order and over one another too, by all small edits: each end goes where mark.Right tells.
func TestMoveEach(t *testing.T) {
	for _, e := range []api.Edit{edit(0, 0, 0), edit(0, 1, 0), edit(0, 0, 1), edit(0, 4, 2), edit(1, 0, 2), edit(1, 1, 0), edit(1, 1, 1), edit(1, 2, 0), edit(1, 3, 9), edit(2, 0, 1), edit(2, 1, 0), edit(2, 2, 3), edit(3, 0, 0), edit(4, 0, 5), edit(4, 1, 1)} {
		eachList(pairs(-1, 4), 2, func(l []api.Caret) { isMoved(t, l, e) })
		eachList(pairs(0, 2), 3, func(l []api.Caret) { isMoved(t, l, e) })
	}
	for at := range 5 {
		for out := range 5 {
			for in := range 4 {
				eachList(pairs(0, 4), 2, func(l []api.Caret) { isMoved(t, l, edit(at, out, in)) })
			}
		}
	}
}

// isMoved holds Move against mark.Right of each end.
func isMoved(t *testing.T, l []api.Caret, e api.Edit) {
	t.Helper()
	var there []api.Caret
	for _, a := range l {
		there = append(there, c(mark.Right(a.Anchor, e), mark.Right(a.Head, e)))
	}
	isMove(t, l, e, tidied(there))
}

// P15.2: ends and edits whose numbers are none: such an end stays, such an edit moves nothing; all of them are made Tidy.
func TestStrangeMoves(t *testing.T) {
	l := cs(8, 6, 2, 5, 3, 3)
	for _, s := range strange {
		for _, e := range []api.Edit{edit(s, 1, 2), edit(1, s, 2), edit(1, 2, s), edit(s, s, s), edit(s, -s, 1)} {
			isMove(t, l, e, cs(2, 5, 8, 6))
		}
		isMoved(t, cs(8, 6, s, 5, 2, 3), edit(1, 2, 9))
		isMoved(t, cs(s, s, 5, s, 2, 3), edit(1, 2, 9))
	}
	isMove(t, cs(most, most+1), edit(0, 0, 5), cs(most+5, most+1))
	isMove(t, cs(-1, 4), edit(0, 0, 5), cs(-1, 9))
	isMove(t, cs(4, most), edit(0, 0, most), cs(most+4, most+most))
}

// P15.1 to P15.3: strange ends are but places: what is one, what is chosen, and what is refused, is told of them as of others.
func TestStrangeEnds(t *testing.T) {
	x := of(t, "abcdefghi")
	for _, s := range strange {
		for _, a := range []api.Caret{c(s, 4), c(4, s), c(s, s), c(s, s+1), c(-s, s)} {
			for _, l := range [][]api.Caret{{a}, {a, c(2, 6)}, {c(6, 2), a}, {c(1, 1), a, c(8, 8)}} {
				isAll(t, l, 0, 9)
				isAll(t, l, s, s)
				isSet(t, l, x, nil, api.ErrRange)
				if Good(l, 9) {
					t.Errorf("Good(%v, 9)", l)
				}
			}
		}
		if want := s >= 9; Good(cs(0, 2, 9, 5), s) != want {
			t.Errorf("Good of %d bytes: %t", s, !want)
		}
		isSnap(t, cs(s, 3), x, cs(min(max(s, 0), 9), 3))
		isSnap(t, cs(s, s), x, cs(min(max(s, 0), 9), min(max(s, 0), 9)))
	}
}

// P15.3: Chosen at each edge, and one beyond.
func TestChosenByHand(t *testing.T) {
	for _, w := range []struct {
		l    []api.Caret
		at   int
		want bool
	}{
		{nil, 0, false}, {cs(2, 5), 1, false}, {cs(2, 5), 2, true}, {cs(2, 5), 4, true}, {cs(2, 5), 5, false}, {cs(5, 2), 1, false}, {cs(5, 2), 2, true}, {cs(5, 2), 4, true}, {cs(5, 2), 5, false},
		{cs(3, 3), 2, false}, {cs(3, 3), 3, false}, {cs(3, 3), 4, false}, {cs(2, 5, 3, 3), 3, true}, {cs(3, 3, 2, 5), 3, true},
		{cs(2, 5, 5, 7), 5, true}, {cs(5, 7, 2, 5), 4, true}, {cs(2, 5, 6, 7), 5, false}, {cs(2, 5, 4, 7), 4, true}, {cs(2, 5, 4, 7), 6, true}, {cs(4, 7, 2, 5), 2, true}, {cs(0, 9, 2, 5), 7, true}, {cs(2, 5, 0, 9), 7, true}, {cs(2, 5, 2, 5), 5, false},
		{cs(-3, -1), -2, true}, {cs(-3, -1), -1, false}, {cs(-3, 1), 0, true}, {cs(0, most), most, false}, {cs(0, most), most - 1, true}, {cs(0, most+1), most, true},
		{cs(math.MinInt, math.MaxInt), math.MinInt, true}, {cs(math.MaxInt, math.MinInt), math.MaxInt - 1, true}, {cs(math.MinInt, math.MaxInt), math.MaxInt, false},
	} {
		if Chosen(w.l, w.at) != w.want {
			t.Errorf("Chosen(%v, %d): %t", w.l, w.at, !w.want)
		}
	}
}

// P15.3: Spans of carets of which some, all or none choose something.
func TestSpansByHand(t *testing.T) {
	for _, w := range []struct {
		l    []api.Caret
		want []api.Span
	}{
		{nil, nil}, {cs(3, 3), nil}, {cs(3, 3, 3, 3, 7, 7), nil}, {cs(2, 5), ss(2, 5)}, {cs(5, 2), ss(2, 5)}, {cs(0, 1), ss(0, 1)}, {cs(1, 0), ss(0, 1)},
		{cs(2, 5, 7, 6), ss(2, 5, 6, 7)}, {cs(7, 6, 2, 5), ss(2, 5, 6, 7)}, {cs(2, 5, 5, 7), ss(2, 5, 5, 7)}, {cs(2, 5, 4, 7), ss(2, 7)}, {cs(2, 5, 5, 2), ss(2, 5)},
		{cs(1, 1, 2, 5, 9, 9, 7, 6), ss(2, 5, 6, 7)}, {cs(2, 2, 5, 2, 5, 5), ss(2, 5)}, {cs(0, 2, 2, 2, 2, 4), ss(0, 2, 2, 4)}, {cs(0, 0, 1, 1, 2, 3), ss(2, 3)}, {cs(2, 3, 4, 4), ss(2, 3)},
		{cs(-3, -1, math.MaxInt, math.MaxInt-1), ss(-3, -1, math.MaxInt-1, math.MaxInt)}, {cs(math.MaxInt, math.MinInt), ss(math.MinInt, math.MaxInt)},
	} {
		if got := Spans(w.l); !slices.Equal(got, w.want) {
			t.Errorf("Spans(%v): %v, not %v", w.l, got, w.want)
		}
	}
}

// overwrite makes others of all of l, and of what lies in its spare room.
func overwrite[T any](l []T, other T) {
	l = l[:cap(l)]
	for i := range l {
		l[i] = other
	}
}

// Memory: what is handed in stays as it was, its spare room included, and what is handed out is apart from it, and from what is handed out again.
func TestMemoryApart(t *testing.T) {
	const s = "ab\ncd\xc3\xa9f\ngh"
	x := of(t, s)
	for _, was := range [][]api.Caret{cs(1, 1, 2, 4, 9, 7, 0, 2, 3, 3), cs(9, 7, 2, 4, 1, 1, 5, 5, 0, 0), cs(6, 3, 4, 8, 8, 8, 1, 0, 2, 2), cs(4, 4, 4, 4, 4, 4, 7, 1, 4, 4)} {
		for name, call := range map[string]func(l []api.Caret) []api.Caret{
			"Tidy":            func(l []api.Caret) []api.Caret { return Tidy(l...) },
			"Set":             func(l []api.Caret) []api.Caret { set, _ := Set(l, x); return set },
			"Snap":            func(l []api.Caret) []api.Caret { return Snap(l, x) },
			"Snap of no text": func(l []api.Caret) []api.Caret { return Snap(l, nil) },
			"Move":            func(l []api.Caret) []api.Caret { return Move(l, edit(2, 1, 4)) },
			"Move by nothing": func(l []api.Caret) []api.Caret { return Move(l, edit(0, 0, 0)) },
			"Move behind all": func(l []api.Caret) []api.Caret { return Move(l, edit(99, 1, 4)) },
			"Move by none":    func(l []api.Caret) []api.Caret { return Move(l, edit(-1, 1, 4)) },
		} {
			isApart(t, name, was, call)
		}
	}
	if string(x.All()) != s {
		t.Errorf("%q", x.All())
	}
}

// isApart holds what call is handed, the first three of was, apart from what it hands out, and that from what it hands out again.
func isApart(t *testing.T, name string, was []api.Caret, call func(l []api.Caret) []api.Caret) {
	t.Helper()
	whole := slices.Clone(was)
	first, again := call(whole[:3]), call(whole[:3])
	want := slices.Clone(again)
	if len(want) == 0 || !slices.Equal(first, again) || !slices.Equal(whole, was) {
		t.Errorf("%s makes %v of %v, and of %v %v", name, whole, was, again, first)
	}
	overwrite(first, c(-7, -7))
	if !slices.Equal(whole, was) || !slices.Equal(again, want) {
		t.Errorf("%s hands out what it was handed, or what it hands out again", name)
	}
	overwrite(whole, c(-7, -7))
	if !slices.Equal(again, want) {
		t.Errorf("%s hands out what it was handed", name)
	}
}

// Memory: Good, Chosen, Spans, and Set that refuses, change no carets, and each list of spans is its own.
func TestMemoryOfWhatIsTold(t *testing.T) {
	x := of(t, "abc")
	was := cs(9, 7, 2, 4, 1, 1, 5, 5)
	whole := slices.Clone(was)
	l := whole[:3]
	for range 2 {
		Good(l, 9)
		Chosen(l, 3)
		Set(l, x)
		overwrite(Spans(l), api.Span{From: -7, To: -7})
		if got := Spans(l); !slices.Equal(got, ss(2, 4, 7, 9)) || !slices.Equal(whole, was) {
			t.Errorf("%v of %v", got, whole)
		}
	}
}
