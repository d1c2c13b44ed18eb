package heights

import (
	"math"
	"slices"
	"testing"

	"scrivener/api"
)

// limit is how much of a height there may be.
const limit = 1 << 24

// far are numbers far below and far above all, so that sums of them wrap round.
var far = []int{
	math.MinInt, math.MinInt + 1, math.MinInt + 5, math.MinInt / 2, -1 << 48, -1 << 32, 1 - 1<<32, -1 << 31, -limit,
	1 << 31, 1 << 32, 1<<32 + 1, 1 << 49, math.MaxInt / 2, math.MaxInt/2 + 1, math.MaxInt - 5, math.MaxInt - 1, math.MaxInt,
}

// wrong are numbers that neither Rows nor High may be.
var wrong = append([]int{-1, -2, -9, limit + 1, limit + 2, 2 * limit, 1<<32 + 9}, far...)

// around are the numbers from -2 to n + 2, and those far off.
func around(n int) []int {
	l := slices.Clone(far)
	for i := -2; i <= n+2; i++ {
		l = append(l, i)
	}
	return l
}

// tall is a height.
func tall(rows, high int) api.Tall { return api.Tall{Rows: rows, High: high} }

// some are n heights of all kinds, from the k-th on of a long list.
func some(k, n int) []api.Tall {
	var l []api.Tall
	for i := k; i < k+n; i++ {
		l = append(l, tall(i*7%5, i*11%13%10))
	}
	return l
}

// line is what the chapter says of a line: its height, and whether it is hidden.
type line struct {
	full   api.Tall
	hidden bool
}

// open are lines of these heights, none hidden.
func open(l ...api.Tall) []line {
	var lines []line
	for _, t := range l {
		lines = append(lines, line{full: t})
	}
	return lines
}

// mixed are n lines, of which those are hidden that hide says.
func mixed(k, n int, hide func(i int) bool) []line {
	l := open(some(k, n)...)
	for i := range l {
		l[i].hidden = hide(i)
	}
	return l
}

// counts is what lines count together: one that is hidden counts as nothing.
func counts(l []line) api.Tall {
	all := api.Tall{}
	for _, x := range l {
		if !x.hidden {
			all.Rows += x.full.Rows
			all.High += x.full.High
		}
	}
	return all
}

// lies is the line in which y lies, as 20.3 says it of what lines count.
func lies(l []line, y int) (i, top int) {
	i = -1
	for k, x := range l {
		ahead := counts(l[:k]).High
		if !x.hidden && x.full.High > 0 && (i < 0 || ahead <= y) {
			i, top = k, ahead
		}
	}
	return i, top
}

// next and prev are what P21.2 says of Next and Prev.
func next(l []line, i int) (int, bool) {
	for k := range l {
		if k > i && !l[k].hidden {
			return k, true
		}
	}
	return 0, false
}
func prev(l []line, i int) (int, bool) {
	for k := len(l) - 1; k >= 0; k-- {
		if k < i && !l[k].hidden {
			return k, true
		}
	}
	return 0, false
}

// spliced is what P21.1 says of Splice.
func spliced(l []line, i, n int, in ...api.Tall) []line {
	return slices.Concat(l[:i], open(in...), l[i+n:])
}

// made is Heights of lines, of which some are hidden.
func made(t *testing.T, l ...line) *Heights {
	t.Helper()
	var all []api.Tall
	for _, x := range l {
		all = append(all, x.full)
	}
	h, c := New(all...)
	if h == nil || c != api.OK {
		t.Fatalf("New of %d: %v, %d", len(l), h, c)
	}
	for i, x := range l {
		if x.hidden {
			told(t, h.Hide(i, true), api.OK)
		}
	}
	return h
}

// none looks whether New tells nothing but that a height may not be.
func none(t *testing.T, l ...api.Tall) {
	t.Helper()
	if h, c := New(l...); h != nil || c != api.ErrKind {
		t.Fatalf("New of %d: %v, %d", len(l), h, c)
	}
}

// told holds a code against what it should be.
func told(t *testing.T, got, want api.Code) {
	t.Helper()
	if got != want {
		t.Fatalf("the code %d, want %d", got, want)
	}
}

// at holds what is told of the line i against lines.
func at(t *testing.T, h *Heights, l []line, i int) {
	t.Helper()
	var want line
	has := i >= 0 && i < len(l)
	if has {
		want = l[i]
	}
	if full, ok := h.Full(i); full != want.full || ok != has {
		t.Fatalf("%v: Full(%d): %v, %v", l, i, full, ok)
	}
	if got := h.Hidden(i); got != want.hidden {
		t.Fatalf("%v: Hidden(%d): %v", l, i, got)
	}
	if got := h.Top(i); got != counts(l[:min(max(i, 0), len(l))]).High {
		t.Fatalf("%v: Top(%d): %d", l, i, got)
	}
	k, ok := next(l, i)
	if got, there := h.Next(i); got != k || there != ok {
		t.Fatalf("%v: Next(%d): %d, %v, want %d, %v", l, i, got, there, k, ok)
	}
	k, ok = prev(l, i)
	if got, there := h.Prev(i); got != k || there != ok {
		t.Fatalf("%v: Prev(%d): %d, %v, want %d, %v", l, i, got, there, k, ok)
	}
}

// seen holds the line in which y lies against lines.
func seen(t *testing.T, h *Heights, l []line, y int) {
	t.Helper()
	want, ahead := lies(l, y)
	if i, top := h.Line(y); i != want || top != ahead {
		t.Fatalf("%v: Line(%d): %d, %d, want %d, %d", l, y, i, top, want, ahead)
	}
}

// holds holds all that Heights tell against lines.
func holds(t *testing.T, h *Heights, l []line) {
	t.Helper()
	if h.Len() != len(l) || h.Total() != counts(l) {
		t.Fatalf("%v: Len %d, Total %v", l, h.Len(), h.Total())
	}
	for _, i := range around(len(l)) {
		at(t, h, l, i)
	}
	for _, y := range around(counts(l).High) {
		seen(t, h, l, y)
	}
}

// chance tells numbers that are the same each time.
type chance uint64

func (c *chance) below(n int) int {
	*c = *c*6364136223846793005 + 1442695040888963407
	return int(uint64(*c) >> 33 % uint64(n))
}

// P21.1: the limit and the codes upon which the edges below stand.
func TestLimits(t *testing.T) {
	if api.MaxHigh != limit || api.OK != 0 || api.ErrRange != 1 || api.ErrKind != 5 {
		t.Error("limits")
	}
}

// The chapter's example.
func TestExample(t *testing.T) {
	h := made(t, open(tall(1, 9), tall(1, 9))...)
	told(t, h.Hide(0, true), api.OK)
	if h.Top(1) != 0 {
		t.Error(h.Top(1))
	}
	if i, top := h.Line(5); i != 1 || top != 0 {
		t.Error(i, top)
	}
}

// P21.1: New of none, of one, of many; none is hidden.
func TestNew(t *testing.T) {
	for n := range 120 {
		holds(t, made(t, open(some(n, n)...)...), open(some(n, n)...))
	}
	h, c := New([]api.Tall{}...)
	told(t, c, api.OK)
	holds(t, h, nil)
	holds(t, made(t, open(some(0, 700)...)...), open(some(0, 700)...))
}

// P21.1: what may be, alone: New, Set and Splice take it.
func TestWhatMayBe(t *testing.T) {
	for _, r := range []int{0, 1, 2, 1000, limit - 1, limit} {
		for _, y := range []int{0, 1, 2, 1000, limit - 1, limit} {
			h := made(t, open(tall(r, y))...)
			told(t, h.Splice(1, 0, tall(y, r), tall(r, y)), api.OK)
			told(t, h.Set(2, tall(y, y)), api.OK)
			for i, want := range []api.Tall{tall(r, y), tall(y, r), tall(y, y)} {
				at(t, h, open(tall(r, y), tall(y, r), tall(y, y)), i)
				if got, _ := h.Full(i); got != want {
					t.Errorf("Full(%d): %v, want %v", i, got, want)
				}
			}
		}
	}
}

// P21.1: what may not be, alone: New, Set and Splice refuse it, of a line that is hidden, too.
func TestWhatMayNotBe(t *testing.T) {
	l := []line{{tall(1, 2), false}, {tall(3, 4), true}}
	h := made(t, l...)
	for _, n := range wrong {
		for _, bad := range []api.Tall{tall(n, 0), tall(0, n), tall(n, 9), tall(9, n), tall(n, limit), tall(limit, n), tall(n, n)} {
			none(t, bad)
			for i := range 2 {
				told(t, h.Set(i, bad), api.ErrKind)
				told(t, h.Splice(i, 0, bad), api.ErrKind)
				told(t, h.Splice(i, 1, bad), api.ErrKind)
			}
			told(t, h.Splice(2, 0, bad), api.ErrKind)
		}
	}
	holds(t, h, l)
}

// P21.1: what may not be, among others: at the beginning, within and at the end.
func TestWhatMayNotBeAmongOthers(t *testing.T) {
	l := mixed(3, 20, func(i int) bool { return i%3 == 1 })
	h := made(t, l...)
	for _, n := range []int{1, 2, 3, 32, 33, 100} {
		for i := range n {
			for _, bad := range []api.Tall{tall(-1, 1), tall(1, -1), tall(limit+1, 1), tall(1, limit+1)} {
				in := some(0, n)
				in[i] = bad
				none(t, in...)
				told(t, h.Splice(i%21, 0, in...), api.ErrKind)
				told(t, h.Splice(0, 20, in...), api.ErrKind)
			}
		}
	}
	holds(t, h, l)
}

// P21.1: Splice of each span, and of numbers of which there is no span; with lines that come, and with none.
func TestSplice(t *testing.T) {
	for n := range 7 {
		for hide := range 1 << n {
			l := mixed(n, n, func(i int) bool { return hide>>i&1 == 1 })
			for i := -1; i <= n+1; i++ {
				for gone := -1; gone <= n+1; gone++ {
					for k := range 3 {
						h := made(t, l...)
						if i < 0 || i > n || gone < 0 || gone > n-i {
							told(t, h.Splice(i, gone, some(9, k)...), api.ErrRange)
							holds3(t, h, l)
							continue
						}
						told(t, h.Splice(i, gone, some(9, k)...), api.OK)
						holds3(t, h, spliced(l, i, gone, some(9, k)...))
					}
				}
			}
		}
	}
}

// holds3 holds what is told of all lines against lines, without numbers far off.
func holds3(t *testing.T, h *Heights, l []line) {
	t.Helper()
	if h.Len() != len(l) || h.Total() != counts(l) {
		t.Fatalf("%v: Len %d, Total %v", l, h.Len(), h.Total())
	}
	for i := -1; i <= len(l); i++ {
		at(t, h, l, i)
		seen(t, h, l, counts(l).High*i/max(len(l), 1))
	}
}

// P21.1: Splice of many lines, with many that come in their place.
func TestSpliceOfMany(t *testing.T) {
	for _, n := range []int{0, 1, 31, 32, 33, 150} {
		l := mixed(5, n, func(i int) bool { return i%4 < 2 })
		for _, k := range []int{0, 1, 2, 40, 200} {
			for _, i := range []int{0, 1, n / 2, n - 1, n} {
				for _, gone := range []int{0, 1, 2, 33, n - i} {
					if i < 0 || i > n || gone > n-i {
						continue
					}
					h := made(t, l...)
					told(t, h.Splice(i, gone, some(i, k)...), api.OK)
					holds3(t, h, spliced(l, i, gone, some(i, k)...))
				}
			}
		}
	}
}

// P21.1: the codes of Splice: that there is no such span is told ahead of what may not be.
func TestSpliceCodes(t *testing.T) {
	for _, n := range []int{0, 1, 3} {
		l := mixed(2, n, func(i int) bool { return i == 1 })
		h := made(t, l...)
		for _, i := range around(n) {
			for _, gone := range around(n) {
				if i >= 0 && i <= n && gone >= 0 && gone <= n-i {
					told(t, h.Splice(i, gone, tall(1, 1), tall(0, -1)), api.ErrKind)
					continue
				}
				told(t, h.Splice(i, gone), api.ErrRange)
				told(t, h.Splice(i, gone, tall(1, 1)), api.ErrRange)
				told(t, h.Splice(i, gone, tall(0, -1)), api.ErrRange)
			}
		}
		holds(t, h, l)
	}
}

// P21.1: lines that come are not hidden, also in place of ones that were; those to both sides stay as they were.
func TestWhatComesIsNotHidden(t *testing.T) {
	h := made(t, open(some(1, 6)...)...)
	for _, i := range []int{1, 2, 4} {
		told(t, h.Hide(i, true), api.OK)
	}
	told(t, h.Splice(2, 2, tall(1, 7), tall(0, 0), tall(2, 8)), api.OK)
	for i, want := range []bool{false, true, false, false, false, true, false} {
		if h.Hidden(i) != want {
			t.Errorf("Hidden(%d): %v", i, !want)
		}
	}
	told(t, h.Splice(0, 7, some(0, 7)...), api.OK)
	holds(t, h, open(some(0, 7)...))
}

// P21.1: Set of each line, hidden or not, and of those that there are none of.
func TestSet(t *testing.T) {
	for _, n := range []int{0, 1, 2, 5, 33, 70} {
		l := mixed(n, n, func(i int) bool { return i%2 == 1 })
		h := made(t, l...)
		for _, i := range around(n) {
			for _, to := range []api.Tall{tall(limit, 7), tall(0, 0), tall(3, 50)} {
				if i < 0 || i >= n {
					told(t, h.Set(i, to), api.ErrRange)
					told(t, h.Set(i, tall(-1, 0)), api.ErrRange)
					told(t, h.Set(i, tall(0, limit+1)), api.ErrRange)
					continue
				}
				told(t, h.Set(i, to), api.OK)
				l[i].full = to
				at(t, h, l, i)
				at(t, h, l, i+1)
			}
		}
		holds(t, h, l)
	}
}

// P21.1: a line that is hidden stays so when it is set, and is of the new height when it is shown.
func TestSetOfHidden(t *testing.T) {
	l := []line{{tall(1, 9), false}, {tall(2, 18), true}, {tall(3, 27), false}}
	h := made(t, l...)
	for _, to := range []api.Tall{tall(4, 36), tall(0, 0), tall(5, 45)} {
		told(t, h.Set(1, to), api.OK)
		l[1].full = to
		holds(t, h, l)
	}
	told(t, h.Hide(1, false), api.OK)
	l[1].hidden = false
	holds(t, h, l)
	if h.Total() != tall(9, 81) {
		t.Error(h.Total())
	}
}

// P21.1: Hide of each line, twice in a row, and showing it, twice in a row; of those that there are none of.
func TestHide(t *testing.T) {
	for _, n := range []int{0, 1, 2, 5, 40} {
		l := mixed(n, n, func(i int) bool { return i%3 == 0 })
		h := made(t, l...)
		for i := range n {
			for _, on := range []bool{true, true, false, false, i%2 == 0} {
				told(t, h.Hide(i, on), api.OK)
				l[i].hidden = on
				holds3(t, h, l)
			}
		}
		for _, i := range around(n) {
			if i < 0 || i >= n {
				told(t, h.Hide(i, true), api.ErrRange)
				told(t, h.Hide(i, false), api.ErrRange)
			}
		}
		holds(t, h, l)
	}
}

// P21.2: all lists of up to four lines of some kinds, some of which have no High or no Rows, hidden and not.
func TestAllShortLists(t *testing.T) {
	kinds := []api.Tall{tall(0, 0), tall(0, 2), tall(3, 0), tall(2, 3)}
	var walk func(l []line)
	walk = func(l []line) {
		holds(t, made(t, l...), l)
		if len(l) == 4 {
			return
		}
		for _, k := range kinds {
			for _, hidden := range []bool{false, true} {
				walk(append(l[:len(l):len(l)], line{k, hidden}))
			}
		}
	}
	walk(nil)
}

// P21.2: many lines, hidden at the beginning, between others, at the end, here and there, all, and none.
func TestManyLines(t *testing.T) {
	for _, n := range []int{1, 2, 40, 100, 260} {
		for _, hide := range []func(i int) bool{
			func(int) bool { return false },
			func(int) bool { return true },
			func(i int) bool { return i < n/3 },
			func(i int) bool { return i >= n/3 && i < n*2/3 },
			func(i int) bool { return i > n/3 },
			func(i int) bool { return i != n/2 },
			func(i int) bool { return i == n/2 },
			func(i int) bool { return i%7 < 5 },
		} {
			l := mixed(n, n, hide)
			holds(t, made(t, l...), l)
		}
	}
}

// P21.2: Next and Prev count a line that is no pixel high, if it is not hidden, and Line does not.
func TestLinesWithoutHigh(t *testing.T) {
	l := []line{{tall(1, 9), true}, {tall(1, 0), false}, {tall(0, 0), true}, {tall(0, 0), false}, {tall(2, 5), false}}
	h := made(t, l...)
	for i, want := range []int{1, 1, 3, 3, 4, 0} {
		if k, ok := h.Next(i - 1); k != want || ok != (i < 5) {
			t.Errorf("Next(%d): %d, %v", i-1, k, ok)
		}
	}
	for i, want := range []int{0, 0, 1, 1, 3, 4} {
		if k, ok := h.Prev(i); k != want || ok != (i > 1) {
			t.Errorf("Prev(%d): %d, %v", i, k, ok)
		}
	}
	if i, top := h.Line(0); i != 4 || top != 0 {
		t.Errorf("Line(0): %d, %d", i, top)
	}
	told(t, h.Set(4, tall(2, 0)), api.OK)
	if i, top := h.Line(0); i != -1 || top != 0 {
		t.Errorf("Line(0): %d, %d", i, top)
	}
}

// P21.1, P21.2: long ways of all calls, at any lines.
func TestLongWays(t *testing.T) {
	for seed := range 6 {
		c := chance(seed)
		h, l := made(t), []line(nil)
		for step := range 1500 {
			i := c.below(len(l) + 1)
			switch what := c.below(9); {
			case what < 3 && len(l) < 400:
				n := min(c.below(9), len(l)-i)
				in := some(step, c.below(9)*c.below(5))
				told(t, h.Splice(i, n, in...), api.OK)
				l = spliced(l, i, n, in...)
			case what < 6 && i < len(l):
				l[i].hidden = c.below(2) == 0
				told(t, h.Hide(i, l[i].hidden), api.OK)
			case what < 8 && i < len(l):
				l[i].full = tall(c.below(4), c.below(30))
				told(t, h.Set(i, l[i].full), api.OK)
			default:
				n := min(c.below(40), len(l)-i)
				told(t, h.Splice(i, n), api.OK)
				l = spliced(l, i, n)
			}
			if h.Len() != len(l) || h.Total() != counts(l) {
				t.Fatalf("%d, %v of %d lines", h.Len(), h.Total(), len(l))
			}
			for range 4 {
				at(t, h, l, c.below(len(l)+2)-1)
				seen(t, h, l, c.below(counts(l).High+2)-1)
			}
			if step%300 == 0 {
				holds(t, h, l)
			}
		}
	}
}

// P21.3: what is hidden and shown again is as it was: each line alone, and all in several orders.
func TestShownAgain(t *testing.T) {
	for _, n := range []int{1, 2, 7, 40} {
		l := mixed(n, n, func(i int) bool { return i%5 == 3 })
		h := made(t, l...)
		for i := range n {
			told(t, h.Hide(i, true), api.OK)
			told(t, h.Hide(i, l[i].hidden), api.OK)
			holds3(t, h, l)
		}
		for _, by := range []int{1, 3, 11} {
			for _, on := range []bool{true, false} {
				for i := range n {
					told(t, h.Hide(i*by%n, on), api.OK)
				}
			}
			for i := range n {
				told(t, h.Hide(i, l[i].hidden), api.OK)
			}
			holds(t, h, l)
		}
	}
}

// What is refused leaves all as it was.
func TestErrorsChangeNothing(t *testing.T) {
	for _, n := range []int{0, 1, 5, 40} {
		l := mixed(1, n, func(i int) bool { return i%2 == 0 })
		h := made(t, l...)
		for _, i := range around(n) {
			for _, c := range []api.Code{h.Splice(i, 0, tall(1, 1), tall(0, -1)), h.Splice(i, n+1, tall(1, 1)), h.Splice(i, -1), h.Set(i, tall(limit+1, 0))} {
				if c != api.ErrRange && c != api.ErrKind {
					t.Fatalf("the code %d", c)
				}
			}
		}
		holds(t, h, l)
	}
}

// Each method of nil Heights, and of ones that no call made, ends.
func TestNil(t *testing.T) {
	var h *Heights
	if h.Len() != 0 || h.Total() != tall(0, 0) {
		t.Error("nil Heights have something")
	}
	for _, i := range around(1) {
		for _, x := range []api.Tall{tall(0, 0), tall(1, 9), tall(-1, 0), tall(0, limit+1)} {
			told(t, h.Set(i, x), api.ErrRange)
			told(t, h.Splice(i, 0, x), api.ErrRange)
		}
		for _, n := range around(1) {
			told(t, h.Splice(i, n), api.ErrRange)
		}
		told(t, h.Hide(i, true), api.ErrRange)
		told(t, h.Hide(i, false), api.ErrRange)
		at(t, h, nil, i)
		seen(t, h, nil, i)
	}
	z := new(Heights)
	z.Splice(0, 0, tall(1, 9))
	z.Hide(0, true)
	z.Set(0, tall(1, 8))
	for i := range 2 {
		z.Full(i)
		z.Hidden(i)
		z.Top(i)
		z.Line(i)
		z.Next(i)
		z.Prev(i)
	}
	z.Total()
}

// scratch writes over all of a list, its spare room included.
func scratch(l []api.Tall) {
	l = l[:cap(l)]
	for i := range l {
		l[i] = tall(77, 77)
	}
}

// What is handed in is neither changed nor kept, its spare room included.
func TestMemory(t *testing.T) {
	for _, n := range []int{1, 3, 32, 33, 130} {
		all := some(0, 3*n)
		list, more := slices.Clone(all), slices.Clone(all)
		h, c := New(list[:n]...)
		told(t, c, api.OK)
		told(t, h.Splice(n/2, 0, more[n:2*n]...), api.OK)
		l := spliced(open(all[:n]...), n/2, 0, all[n:2*n]...)
		for i := range l {
			l[i] = line{tall(i%9, 3), i%3 == 0}
			told(t, h.Set(i, l[i].full), api.OK)
			told(t, h.Hide(i, l[i].hidden), api.OK)
		}
		told(t, h.Splice(0, 1), api.OK)
		if !slices.Equal(list, all) || !slices.Equal(more, all) {
			t.Fatal("what was handed in was changed")
		}
		scratch(list)
		scratch(more)
		holds(t, h, l[1:])
	}
}

// What was told stays as it is, whatever comes later.
func TestWhatWasTold(t *testing.T) {
	h := made(t, open(some(1, 50)...)...)
	was, _ := h.Full(7)
	all := h.Total()
	told(t, h.Set(7, tall(100, 100)), api.OK)
	told(t, h.Hide(8, true), api.OK)
	if now, _ := h.Full(7); was != some(1, 50)[7] || now != tall(100, 100) || all != counts(open(some(1, 50)...)) {
		t.Error(was, now, all)
	}
	was.Rows, all.High = 9, 9
	if now, _ := h.Full(7); now != tall(100, 100) || h.Total().High == 9 {
		t.Error(now, h.Total())
	}
}

// Two Heights know nothing of one another, though they were made of the same list.
func TestApart(t *testing.T) {
	for _, n := range []int{1, 2, 32, 100} {
		l := open(some(0, n)...)
		x, y, z := made(t, l...), made(t, l...), made(t, l...)
		told(t, x.Hide(n-1, true), api.OK)
		told(t, y.Splice(0, 1, tall(6, 6), tall(7, 7)), api.OK)
		holds(t, z, l)
		holds(t, y, spliced(l, 0, 1, tall(6, 6), tall(7, 7)))
		l[n-1].hidden = true
		holds(t, x, l)
	}
}

// P21.1, P21.2: one line more than a Seq holds, as a text of as many line feeds as may be has: no code is told of that.
func TestMoreThanASeqHolds(t *testing.T) {
	n := api.MaxLines + 1
	l := slices.Repeat([]api.Tall{tall(1, 9)}, n)
	l[n-1] = tall(1, limit+1)
	none(t, l...)
	l[n-1] = tall(2, 18)
	h, c := New(l...)
	told(t, c, api.OK)
	told(t, h.Hide(n/2, true), api.OK)
	if h.Len() != n || h.Total() != tall(n, 9*n) || h.Top(n-1) != 9*(n-2) || !h.Hidden(n/2) {
		t.Fatal(h.Len(), h.Total())
	}
	for _, i := range []int{0, 1, n/2 - 1, n/2 + 1, n - 2, n - 1} {
		if k, top := h.Line(h.Top(i)); k != i || top != h.Top(i) {
			t.Errorf("Line of %d: %d, %d", i, k, top)
		}
	}
	if k, ok := h.Next(n/2 - 1); k != n/2+1 || !ok {
		t.Error(k, ok)
	}
	if k, ok := h.Prev(n); k != n-1 || !ok {
		t.Error(k, ok)
	}
	told(t, h.Splice(n/2, 2, tall(3, 3), tall(4, 4)), api.OK)
	told(t, h.Splice(n, 0, tall(5, 5)), api.OK)
	if h.Len() != n+1 || h.Total() != tall(n+11, 9*n+3) || h.Hidden(n/2) {
		t.Error(h.Len(), h.Total())
	}
}
