package runs

import (
	"math"
	"slices"
	"testing"

	"scrivener/api"
)

const most = 1 << 24

// of is runs of the lengths and styles that follow each other.
func of(n ...int) []api.Run {
	var l []api.Run
	for i := 0; i+1 < len(n); i += 2 {
		l = append(l, api.Run{Len: n[i], Style: n[i+1]})
	}
	return l
}

// bytesOf is the style of each byte, as P10.1 tells it: the oracle of all small lists.
func bytesOf(l []api.Run) []int {
	var b []int
	for _, r := range l {
		if r.Len < 1 || r.Len > most || r.Style < 0 || r.Style > 23 {
			continue
		}
		for range r.Len {
			b = append(b, r.Style)
		}
	}
	return b
}

// runsOf is the runs of bytes of such styles.
func runsOf(b []int) []api.Run {
	var l []api.Run
	for from := 0; from < len(b); {
		to := from
		for to < len(b) && b[to] == b[from] {
			to++
		}
		l = append(l, api.Run{Len: to - from, Style: b[from]})
		from = to
	}
	return l
}

// kinds are the runs that small lists are made of: good ones, and some of each kind that falls away.
var kinds = []api.Run{{Len: 1, Style: 0}, {Len: 2, Style: 0}, {Len: 1, Style: 5}, {Len: 3, Style: 23}, {Len: 0, Style: 5}, {Len: 2, Style: 24}, {Len: -1, Style: 0}}

// lists are all lists of at most n of these.
func lists(n int) [][]api.Run {
	all := [][]api.Run{nil}
	for from := 0; n > 0; n-- {
		to := len(all)
		for _, l := range all[from:to] {
			for _, r := range kinds {
				all = append(all, append(slices.Clone(l), r))
			}
		}
		from = to
	}
	return all
}

// far are numbers far below and far above all that is good.
var far = []int{math.MinInt, math.MinInt + 1, math.MinInt + 5, -1 << 32, -1 << 31, -most, 1 << 31, 1 << 32, 1<<32 + 1, math.MaxInt - 5, math.MaxInt - 1, math.MaxInt}

// around are the numbers from -2 to n, and those far off.
func around(n int) []int {
	l := slices.Clone(far)
	for i := -2; i <= n; i++ {
		l = append(l, i)
	}
	return l
}

// same tells whether two lists have the same runs in them.
func same(t *testing.T, what string, l, got, want []api.Run) {
	t.Helper()
	if !slices.Equal(got, want) {
		t.Errorf("%s of %v is %v, want %v", what, l, got, want)
	}
}

// P10.1: what the limits are, upon which the edges below stand.
func TestLimits(t *testing.T) {
	if api.MaxText != most || api.MaxStyle != 23 || api.ErrRange != 1 || api.ErrLimit != 2 || api.ErrKind != 5 {
		t.Error("limits")
	}
}

// P10.1: Good, as it stands.
func TestGoodByHand(t *testing.T) {
	for _, c := range []struct {
		l    []api.Run
		good bool
	}{
		{nil, true}, {[]api.Run{}, true},
		{of(1, 0), true}, {of(1, 23), true}, {of(1, 24), false}, {of(1, -1), false}, {of(1, math.MaxInt), false}, {of(1, math.MinInt), false}, {of(1, 256), false}, {of(1, 1<<32), false},
		{of(0, 0), false}, {of(-1, 0), false}, {of(0, 24), false}, {of(math.MinInt, 0), false}, {of(math.MaxInt, 0), false}, {of(1<<32, 0), false}, {of(1<<32+1, 0), false},
		{of(most, 0), true}, {of(most+1, 0), false}, {of(most-1, 0), true}, {of(most-1, 0, 1, 1), true}, {of(most-1, 0, 2, 1), false}, {of(most, 0, 1, 1), false}, {of(1, 1, most, 0), false},
		{of(1, 0, most-2, 1, 1, 0), true}, {of(1, 0, most-2, 1, 2, 0), false}, {of(most, 0, most, 1, most, 0), false},
		{of(1, 0, 1, 1), true}, {of(1, 0, 1, 0), false}, {of(1, 0, 1, 1, 1, 0), true}, {of(1, 0, 1, 1, 1, 1), false}, {of(1, 1, 1, 1, 1, 0), false}, {of(1, 1, 2, 1), false},
		{of(1, 0, 0, 1, 1, 2), false}, {of(0, 1, 1, 2), false}, {of(1, 2, 0, 1), false}, {of(1, 2, 1, 24), false}, {of(1, -1, 1, 2), false}, {of(1, 2, -1, 3, 1, 4), false},
		{of(math.MaxInt, 0, math.MaxInt, 1, 2, 0), false},
	} {
		if Good(c.l) != c.good {
			t.Errorf("Good(%v) is %v", c.l, !c.good)
		}
	}
}

// P10.1: Tidy and Len, as they stand.
func TestTidyByHand(t *testing.T) {
	for _, c := range []struct{ l, want []api.Run }{
		{nil, nil}, {[]api.Run{}, nil}, {of(2, 5), of(2, 5)}, {of(2, 5, 3, 5), of(5, 5)}, {of(2, 5, 3, 6), of(2, 5, 3, 6)}, {of(3, 6, 2, 5), of(3, 6, 2, 5)},
		{of(1, 1, 2, 1, 3, 1, 4, 2, 5, 2, 6, 1), of(6, 1, 9, 2, 6, 1)},
		{of(0, 5), nil}, {of(-1, 5), nil}, {of(1, 24), nil}, {of(1, -1), nil}, {of(0, 5, 1, 24, -7, 3), nil},
		{of(1, 5, 0, 6, 1, 5), of(2, 5)}, {of(1, 5, 1, 24, 1, 5), of(2, 5)}, {of(1, 5, -1, 6, 1, 5), of(2, 5)}, {of(1, 5, most+1, 6, 1, 5), of(2, 5)}, {of(1, 5, 1, -1, 0, 7, 2, 7), of(1, 5, 2, 7)},
		{of(0, 3, 1, 5), of(1, 5)}, {of(1, 5, 0, 3), of(1, 5)}, {of(1, 0, 1, -1), of(1, 0)}, {of(1, 23, 1, 24), of(1, 23)},
		{of(most, 0), of(most, 0)}, {of(most-1, 0, 1, 0), of(most, 0)}, {of(most-1, 0, 1, 1), of(most-1, 0, 1, 1)}, {of(1, 1, most-1, 0), of(1, 1, most-1, 0)},
		{of(most, 0, 1, 0), nil}, {of(most, 0, 1, 1), nil}, {of(1, 1, most, 0), nil}, {of(most, 0, most, 0), nil}, {of(most, 0, most, 1, most, 2), nil},
		{of(most, 0, 1, 24), of(most, 0)}, {of(most, 0, 0, 1), of(most, 0)}, {of(most, 0, -1, 1), of(most, 0)}, {of(most, 0, -most, 1, most, 2), nil}, {of(most, 24, most, 1), of(most, 1)},
		{of(most+1, 0), nil}, {of(most+1, 0, 1, 1), of(1, 1)}, {of(1, 1, most+1, 0), of(1, 1)}, {of(1, 1, most+1, 1, 1, 2), of(1, 1, 1, 2)},
		{of(math.MaxInt, 0, math.MaxInt, 1, 2, 2), of(2, 2)}, {of(math.MinInt, 0, math.MinInt, 1, 2, 2), of(2, 2)}, {of(1<<32+1, 0), nil}, {of(3, math.MaxInt, 2, math.MinInt), nil}, {of(3, 1<<32, 2, 256), nil},
		{of(1, 1, most+1, 24, 1, 2), of(1, 1, 1, 2)}, {of(1, 1, math.MaxInt, -1, 1, 1), of(2, 1)}, {of(1, 1, 0, 24, 1, 1), of(2, 1)}, {of(1, 1, -1, -1, 1, 2), of(1, 1, 1, 2)},
		{of(most/2, 0, most/2, 1), of(most/2, 0, most/2, 1)}, {of(most/2, 0, most/2, 1, 1, 0), nil},
	} {
		same(t, "Tidy", c.l, Tidy(c.l...), c.want)
		n := 0
		for _, r := range c.want {
			n += r.Len
		}
		if Len(c.l) != n {
			t.Errorf("Len(%v) is %d, want %d", c.l, Len(c.l), n)
		}
		if !Good(c.want) {
			t.Errorf("Good(%v) is false", c.want)
		}
	}
	if Tidy() != nil && len(Tidy()) > 0 {
		t.Error("Tidy()")
	}
	same(t, "Tidy", nil, Tidy(api.Run{Len: 1, Style: 2}, api.Run{Len: 1, Style: 2}), of(2, 2))
}

// P10.1: all styles, those beside them, and far ones.
func TestStyles(t *testing.T) {
	for _, s := range around(60) {
		l := of(1, 7, 2, s, 1, 9)
		want := of(1, 7, 1, 9)
		switch {
		case s == 7:
			want = of(3, 7, 1, 9)
		case s == 9:
			want = of(1, 7, 3, 9)
		case s >= 0 && s <= 23:
			want = l
		}
		same(t, "Tidy", l, Tidy(l...), want)
		if Good(l) != slices.Equal(l, want) {
			t.Errorf("Good(%v) is %v", l, Good(l))
		}
	}
}

// P10.1: all lengths around 0 and around MaxText, and far ones.
func TestLengths(t *testing.T) {
	for _, n := range append(around(5), most-2, most-1, most, most+1, most+2, 2*most) {
		l := of(n, 4)
		var want []api.Run
		size := 0
		if n >= 1 && n <= most {
			want, size = l, n
		}
		same(t, "Tidy", l, Tidy(l...), want)
		if Good(l) != (size > 0) || Len(l) != size {
			t.Errorf("Good(%v), Len are %v, %d", l, Good(l), Len(l))
		}
	}
}

// P10.1: many runs, each as long as can be, are too many bytes, and none.
func TestManyRuns(t *testing.T) {
	var l []api.Run
	for i := range 5000 {
		l = append(l, api.Run{Len: most, Style: i % 24})
	}
	if Good(l) || Len(l) != 0 || len(Tidy(l...)) != 0 || At(l, 0) != 0 {
		t.Error("runs of too many bytes")
	}
	var small []api.Run
	for i := range 100000 {
		small = append(small, api.Run{Len: 1, Style: i % 24})
	}
	if !Good(small) || Len(small) != 100000 || !slices.Equal(Tidy(small...), small) || At(small, 99999) != 99999%24 {
		t.Error("many small runs")
	}
}

// P10.1: all short lists: Good, Tidy, Len and At, byte by byte.
func TestAllShortLists(t *testing.T) {
	for _, l := range lists(5) {
		b := bytesOf(l)
		want := runsOf(b)
		same(t, "Tidy", l, Tidy(l...), want)
		if Good(l) != slices.Equal(l, want) {
			t.Errorf("Good(%v) is %v", l, Good(l))
		}
		if Len(l) != len(b) {
			t.Errorf("Len(%v) is %d, want %d", l, Len(l), len(b))
		}
		for _, i := range around(len(b) + 2) {
			style := 0
			if i >= 0 && i < len(b) {
				style = b[i]
			}
			if At(l, i) != style {
				t.Errorf("At(%v, %d) is %d, want %d", l, i, At(l, i), style)
			}
		}
	}
}

// P10.1: At, at the ends of long runs.
func TestAtByHand(t *testing.T) {
	l := of(2, 5, 1, 24, 3, 6, most-6, 7, 1, 8)
	for _, c := range [][2]int{
		{-1, 0}, {0, 5}, {1, 5}, {2, 6}, {4, 6}, {5, 7}, {6, 7}, {most - 2, 7}, {most - 1, 8}, {most, 0}, {most + 1, 0}, {math.MaxInt, 0}, {math.MinInt, 0}, {-most, 0}, {1 << 32, 0}, {1<<32 + 1, 0},
	} {
		if s := At(l, c[0]); s != c[1] {
			t.Errorf("At(%v, %d) is %d, want %d", l, c[0], s, c[1])
		}
	}
	for _, l := range [][]api.Run{nil, {}, of(0, 5), of(3, 24), of(most+1, 5), of(most, 5, 1, 6)} {
		for _, i := range around(3) {
			if At(l, i) != 0 {
				t.Errorf("At(%v, %d) is %d", l, i, At(l, i))
			}
		}
	}
}

// P10.2: Part, as it stands.
func TestPartByHand(t *testing.T) {
	l := of(2, 5, 3, 6, 4, 5)
	for _, c := range []struct {
		from, to int
		want     []api.Run
	}{
		{0, 9, l}, {-1, 10, l}, {math.MinInt, math.MaxInt, l}, {0, 0, nil}, {9, 9, nil}, {4, 4, nil}, {5, 4, nil}, {9, 0, nil}, {math.MaxInt, math.MinInt, nil},
		{-5, -1, nil}, {-5, 0, nil}, {10, 20, nil}, {9, 20, nil}, {math.MinInt, -1, nil}, {9, math.MaxInt, nil}, {-1, 1, of(1, 5)}, {8, 10, of(1, 5)},
		{0, 2, of(2, 5)}, {2, 5, of(3, 6)}, {5, 9, of(4, 5)}, {1, 3, of(1, 5, 1, 6)}, {3, 4, of(1, 6)}, {4, 6, of(1, 6, 1, 5)}, {1, 8, of(1, 5, 3, 6, 3, 5)}, {1, 5, of(1, 5, 3, 6)},
	} {
		same(t, "Part", l, Part(l, c.from, c.to), c.want)
	}
	same(t, "Part", l, Part(of(most, 3), 1, most), of(most-1, 3))
	same(t, "Part", l, Part(of(most-1, 3, 1, 4), most-2, most+1), of(1, 3, 1, 4))
	same(t, "Part", l, Part(of(most, 3, 1, 4), 0, 2), nil)
	same(t, "Part", l, Part(of(most, 3, 1, 4), 0, most), nil)
	same(t, "Part", l, Part(of(1, 3, 2, 24, 2, 3), 0, 2), of(2, 3))
}

// P10.2: Set, as it stands: which code comes first, and what it makes.
func TestSetByHand(t *testing.T) {
	l := of(2, 5, 3, 6, 4, 5)
	for _, c := range []struct {
		from, to, style int
		want            []api.Run
		code            api.Code
	}{
		{0, 1, 7, of(1, 7, 1, 5, 3, 6, 4, 5), api.OK}, {8, 9, 7, of(2, 5, 3, 6, 3, 5, 1, 7), api.OK}, {0, 9, 7, of(9, 7), api.OK}, {0, 9, 5, of(9, 5), api.OK},
		{2, 5, 5, of(9, 5), api.OK}, {2, 5, 6, l, api.OK}, {2, 4, 5, of(4, 5, 1, 6, 4, 5), api.OK}, {3, 5, 5, of(2, 5, 1, 6, 6, 5), api.OK}, {3, 4, 5, of(2, 5, 1, 6, 1, 5, 1, 6, 4, 5), api.OK},
		{2, 5, 0, of(2, 5, 3, 0, 4, 5), api.OK}, {1, 6, 23, of(1, 5, 5, 23, 3, 5), api.OK}, {1, 4, 6, of(1, 5, 4, 6, 4, 5), api.OK}, {0, 2, 6, of(5, 6, 4, 5), api.OK}, {5, 9, 6, of(2, 5, 7, 6), api.OK},
		{0, 0, 7, l, api.OK}, {4, 4, 7, l, api.OK}, {2, 2, 7, l, api.OK}, {9, 9, 7, l, api.OK}, {0, 2, 5, l, api.OK}, {3, 4, 6, l, api.OK}, {6, 7, 5, l, api.OK},
		{0, 0, 24, nil, api.ErrKind}, {4, 5, 24, nil, api.ErrKind}, {9, 9, -1, nil, api.ErrKind}, {0, 9, math.MaxInt, nil, api.ErrKind}, {0, 9, math.MinInt, nil, api.ErrKind}, {0, 9, 256, nil, api.ErrKind}, {0, 9, 1 << 32, nil, api.ErrKind},
		{-1, 5, 7, nil, api.ErrRange}, {0, 10, 7, nil, api.ErrRange}, {5, 4, 7, nil, api.ErrRange}, {10, 10, 7, nil, api.ErrRange}, {-1, -1, 7, nil, api.ErrRange}, {10, 9, 7, nil, api.ErrRange}, {0, -1, 7, nil, api.ErrRange},
		{-1, 5, 24, nil, api.ErrRange}, {0, 10, 24, nil, api.ErrRange}, {5, 4, -1, nil, api.ErrRange},
		{math.MinInt, math.MaxInt, 7, nil, api.ErrRange}, {math.MaxInt, math.MinInt, 7, nil, api.ErrRange}, {0, math.MaxInt, 7, nil, api.ErrRange}, {math.MinInt, 0, 7, nil, api.ErrRange}, {math.MinInt, math.MinInt, 7, nil, api.ErrRange}, {math.MaxInt, math.MaxInt, 7, nil, api.ErrRange},
	} {
		got, code := Set(l, c.from, c.to, c.style)
		if code != c.code || !slices.Equal(got, c.want) {
			t.Errorf("Set(%v, %d, %d, %d) is %v, %d, want %v, %d", l, c.from, c.to, c.style, got, code, c.want, c.code)
		}
	}
	got, code := Set(of(most, 3), 1, most-1, 4)
	if code != api.OK || !slices.Equal(got, of(1, 3, most-2, 4, 1, 3)) {
		t.Error(got, code)
	}
	if got, code = Set(of(most, 3), 1, most+1, 4); code != api.ErrRange || len(got) > 0 {
		t.Error(got, code)
	}
	if got, code = Set(of(most, 3, 1, 4), 0, 1, 4); code != api.ErrRange || len(got) > 0 {
		t.Error("runs of too many bytes have none that could be set", got, code)
	}
}

// P10.2: Insert, as it stands.
func TestInsertByHand(t *testing.T) {
	for _, c := range []struct {
		l     []api.Run
		at, n int
		want  []api.Run
		code  api.Code
	}{
		{of(2, 5), 1, 3, of(5, 5), api.OK}, {of(2, 5), 0, 3, of(5, 5), api.OK}, {of(2, 5), 2, 3, of(5, 5), api.OK}, {of(2, 5), 1, 0, of(2, 5), api.OK},
		{nil, 0, 3, of(3, 0), api.OK}, {nil, 0, 0, nil, api.OK}, {nil, 1, 0, nil, api.ErrRange}, {nil, -1, 3, nil, api.ErrRange}, {nil, 0, -1, nil, api.ErrRange}, {of(0, 5), 0, 2, of(2, 0), api.OK}, {of(2, 24), 0, 2, of(2, 0), api.OK},
		{of(2, 5, 3, 6), 0, 1, of(3, 5, 3, 6), api.OK}, {of(2, 5, 3, 6), 2, 1, of(3, 5, 3, 6), api.OK}, {of(2, 5, 3, 6), 3, 1, of(2, 5, 4, 6), api.OK}, {of(2, 5, 3, 6), 5, 1, of(2, 5, 4, 6), api.OK},
		{of(2, 5, 3, 6, 1, 7), 5, 9, of(2, 5, 12, 6, 1, 7), api.OK}, {of(1, 5, 2, 24, 1, 5), 1, 1, of(3, 5), api.OK}, {of(1, 5, 0, 8, 1, 6), 1, 1, of(2, 5, 1, 6), api.OK}, {of(0, 8, 1, 6), 0, 1, of(2, 6), api.OK},
		{of(2, 5), 3, 1, nil, api.ErrRange}, {of(2, 5), -1, 1, nil, api.ErrRange}, {of(2, 5), 1, -1, nil, api.ErrRange}, {of(2, 5), 3, most, nil, api.ErrRange}, {of(2, 5), -1, most, nil, api.ErrRange}, {of(2, 5), 3, -1, nil, api.ErrRange},
		{of(2, 5), 1, most - 2, of(most, 5), api.OK}, {of(2, 5), 1, most - 1, nil, api.ErrLimit}, {of(2, 5), 1, most, nil, api.ErrLimit}, {of(2, 5), 1, math.MaxInt, nil, api.ErrLimit}, {of(2, 5), 1, math.MaxInt - 1, nil, api.ErrLimit}, {of(2, 5), 1, 1 << 32, nil, api.ErrLimit},
		{nil, 0, most, of(most, 0), api.OK}, {nil, 0, most + 1, nil, api.ErrLimit}, {nil, 0, math.MaxInt, nil, api.ErrLimit}, {nil, 0, math.MinInt, nil, api.ErrRange}, {nil, math.MaxInt, math.MaxInt, nil, api.ErrRange}, {nil, math.MinInt, math.MinInt, nil, api.ErrRange},
		{of(most, 7), most, 0, of(most, 7), api.OK}, {of(most, 7), most, 1, nil, api.ErrLimit}, {of(most, 7), most + 1, 1, nil, api.ErrRange}, {of(most, 7), 0, math.MinInt, nil, api.ErrRange},
		{of(1, 5, 2, 6), 1, most - 3, of(most-2, 5, 2, 6), api.OK}, {of(1, 5, 2, 6), 3, most - 3, of(1, 5, most-1, 6), api.OK}, {of(1, 5, 2, 6), 3, most - 2, nil, api.ErrLimit},
		{of(most, 7, 1, 8), 0, 2, of(2, 0), api.OK}, {of(most, 7, 1, 8), 1, 2, nil, api.ErrRange}, {of(most+1, 7, 1, 8), 1, 2, of(3, 8), api.OK},
	} {
		got, code := Insert(c.l, c.at, c.n)
		if code != c.code || !slices.Equal(got, c.want) {
			t.Errorf("Insert(%v, %d, %d) is %v, %d, want %v, %d", c.l, c.at, c.n, got, code, c.want, c.code)
		}
	}
}

// P10.2: Delete, as it stands.
func TestDeleteByHand(t *testing.T) {
	l := of(2, 5, 3, 6, 4, 5)
	for _, c := range []struct {
		l     []api.Run
		at, n int
		want  []api.Run
		code  api.Code
	}{
		{l, 0, 9, nil, api.OK}, {l, 0, 0, l, api.OK}, {l, 9, 0, l, api.OK}, {l, 4, 0, l, api.OK}, {l, 2, 0, l, api.OK},
		{l, 0, 1, of(1, 5, 3, 6, 4, 5), api.OK}, {l, 8, 1, of(2, 5, 3, 6, 3, 5), api.OK}, {l, 0, 2, of(3, 6, 4, 5), api.OK}, {l, 5, 4, of(2, 5, 3, 6), api.OK},
		{l, 2, 3, of(6, 5), api.OK}, {l, 3, 1, of(2, 5, 2, 6, 4, 5), api.OK}, {l, 1, 5, of(4, 5), api.OK}, {l, 1, 3, of(1, 5, 1, 6, 4, 5), api.OK}, {l, 0, 8, of(1, 5), api.OK}, {l, 1, 8, of(1, 5), api.OK}, {l, 0, 6, of(3, 5), api.OK}, {l, 4, 5, of(2, 5, 2, 6), api.OK},
		{l, -1, 1, nil, api.ErrRange}, {l, 10, 0, nil, api.ErrRange}, {l, 0, -1, nil, api.ErrRange}, {l, 9, 1, nil, api.ErrRange}, {l, 0, 10, nil, api.ErrRange}, {l, 5, 5, nil, api.ErrRange}, {l, 5, -1, nil, api.ErrRange}, {l, -1, 0, nil, api.ErrRange}, {l, -1, -1, nil, api.ErrRange},
		{l, math.MaxInt, math.MaxInt, nil, api.ErrRange}, {l, math.MinInt, math.MinInt, nil, api.ErrRange}, {l, math.MinInt, math.MaxInt, nil, api.ErrRange}, {l, math.MaxInt, math.MinInt, nil, api.ErrRange}, {l, 1, math.MaxInt, nil, api.ErrRange}, {l, math.MaxInt, 1, nil, api.ErrRange}, {l, 1 << 32, 0, nil, api.ErrRange}, {l, 0, 1 << 32, nil, api.ErrRange},
		{nil, 0, 0, nil, api.OK}, {nil, 0, 1, nil, api.ErrRange}, {nil, 1, 0, nil, api.ErrRange}, {nil, -1, 1, nil, api.ErrRange},
		{of(1, 5, 3, 24, 1, 5), 0, 1, of(1, 5), api.OK}, {of(1, 5, 3, 24, 1, 5), 1, 1, of(1, 5), api.OK}, {of(1, 5, 3, 24, 1, 5), 2, 1, nil, api.ErrRange}, {of(2, 5, 1, 5), 0, 0, of(3, 5), api.OK},
		{of(most, 7), 0, most, nil, api.OK}, {of(most, 7), 1, most - 2, of(2, 7), api.OK}, {of(most, 7), 0, most + 1, nil, api.ErrRange}, {of(1, 6, most-2, 7, 1, 6), 1, most - 2, of(2, 6), api.OK},
		{of(most, 7, 1, 8), 0, 0, nil, api.OK}, {of(most, 7, 1, 8), 0, 1, nil, api.ErrRange},
	} {
		got, code := Delete(c.l, c.at, c.n)
		if code != c.code || !slices.Equal(got, c.want) {
			t.Errorf("Delete(%v, %d, %d) is %v, %d, want %v, %d", c.l, c.at, c.n, got, code, c.want, c.code)
		}
	}
}

// P10.2: all short lists: Part and Set, from each place to each.
func TestPartAndSetOfShortLists(t *testing.T) {
	for _, l := range lists(3) {
		b := bytesOf(l)
		for _, from := range around(len(b) + 2) {
			for _, to := range around(len(b) + 2) {
				a, z := min(max(from, 0), len(b)), min(max(to, 0), len(b))
				var want []api.Run
				if a < z {
					want = runsOf(b[a:z])
				}
				same(t, "Part", l, Part(l, from, to), want)
				for _, style := range []int{-1, 0, 4, 5, 23, 24} {
					checkSet(t, l, b, from, to, style)
				}
			}
		}
	}
}

func checkSet(t *testing.T, l []api.Run, b []int, from, to, style int) {
	t.Helper()
	var want []api.Run
	code := api.OK
	switch {
	case from < 0 || to < from || len(b) < to:
		code = api.ErrRange
	case style < 0 || style > 23:
		code = api.ErrKind
	default:
		c := slices.Clone(b)
		for i := from; i < to; i++ {
			c[i] = style
		}
		want = runsOf(c)
	}
	got, is := Set(l, from, to, style)
	if is != code || !slices.Equal(got, want) {
		t.Fatalf("Set(%v, %d, %d, %d) is %v, %d, want %v, %d", l, from, to, style, got, is, want, code)
	}
}

// P10.2, P10.3: all short lists: Insert and Delete, so many bytes at each place, and one behind the other.
func TestInsertAndDeleteOfShortLists(t *testing.T) {
	for _, l := range lists(3) {
		b := bytesOf(l)
		for _, at := range around(len(b) + 2) {
			for _, n := range append(around(len(b)+2), most-len(b), most-len(b)+1) {
				checkInsert(t, l, b, at, n)
				checkDelete(t, l, b, at, n)
			}
		}
	}
}

func checkInsert(t *testing.T, l []api.Run, b []int, at, n int) {
	t.Helper()
	got, code := Insert(l, at, n)
	switch {
	case at < 0 || at > len(b) || n < 0:
		if code != api.ErrRange || len(got) > 0 {
			t.Fatalf("Insert(%v, %d, %d) is %v, %d", l, at, n, got, code)
		}
		return
	case n > most-len(b):
		if code != api.ErrLimit || len(got) > 0 {
			t.Fatalf("Insert(%v, %d, %d) is %v, %d", l, at, n, got, code)
		}
		return
	case n <= 20:
		style := 0
		if at > 0 {
			style = b[at-1]
		} else if len(b) > 0 {
			style = b[0]
		}
		c := slices.Insert(slices.Clone(b), at, slices.Repeat([]int{style}, n)...)
		if code != api.OK || !slices.Equal(got, runsOf(c)) {
			t.Fatalf("Insert(%v, %d, %d) is %v, %d, want %v", l, at, n, got, code, runsOf(c))
		}
	}
	if code != api.OK || !Good(got) || Len(got) != len(b)+n {
		t.Fatalf("Insert(%v, %d, %d) is %v, %d", l, at, n, got, code)
	}
	back, code := Delete(got, at, n)
	if code != api.OK || !slices.Equal(back, runsOf(b)) {
		t.Fatalf("%v, %d bytes inserted at %d and deleted again, is %v, %d", l, n, at, back, code)
	}
}

func checkDelete(t *testing.T, l []api.Run, b []int, at, n int) {
	t.Helper()
	var want []api.Run
	code := api.ErrRange
	if at >= 0 && at <= len(b) && n >= 0 && n <= len(b)-at {
		want, code = runsOf(slices.Delete(slices.Clone(b), at, at+n)), api.OK
	}
	got, is := Delete(l, at, n)
	if is != code || !slices.Equal(got, want) {
		t.Fatalf("Delete(%v, %d, %d) is %v, %d, want %v, %d", l, at, n, got, is, want, code)
	}
}

// P10.3: bytes that are inserted and deleted again, in long runs up to just MaxText.
func TestBackOfLongRuns(t *testing.T) {
	l := of(2, 5, 1<<20, 6, 1, 23, most-1<<21, 5, 3, 0)
	all := 2 + 1<<20 + 1 + most - 1<<21 + 3
	for _, at := range []int{0, 1, 2, 3, 1 << 20, 1<<20 + 2, 1<<20 + 3, 1<<20 + 4, all - 4, all - 3, all - 1, all} {
		for _, n := range []int{0, 1, 2, 1000, most - all - 1, most - all} {
			more, code := Insert(l, at, n)
			if code != api.OK || Len(more) != all+n {
				t.Fatal(at, n, code, Len(more))
			}
			if back, code := Delete(more, at, n); code != api.OK || !slices.Equal(back, l) {
				t.Errorf("%d bytes at %d: %v, %d", n, at, back, code)
			}
		}
	}
}

// calls are all calls that answer runs; l is handed to each as it stands.
func calls(l []api.Run) map[string][]api.Run {
	set, _ := Set(l, 1, 3, 9)
	setNone, _ := Set(l, 0, 0, 9)
	insert, _ := Insert(l, 1, 3)
	insertNone, _ := Insert(l, 1, 0)
	del, _ := Delete(l, 1, 2)
	delNone, _ := Delete(l, 1, 0)
	return map[string][]api.Run{
		"Tidy": Tidy(l...), "Part": Part(l, 0, 9), "Part of some": Part(l, 1, 3), "Set": set, "Set of none": setNone,
		"Insert": insert, "Insert of none": insertNone, "Delete": del, "Delete of none": delNone,
	}
}

// P10.1, P10.2: what came in is neither changed nor in what came out, its spare room included, whatever is done to that.
func TestMemory(t *testing.T) {
	for _, l := range [][]api.Run{of(2, 5, 3, 6, 4, 5), of(2, 5, 3, 5, 4, 5), of(1, 5, 0, 6, 3, 24, 8, 5), of(9, 5)} {
		room := append(slices.Clone(l), of(7, 7, 6, 6, 5, 5, 4, 4)...)
		kept := slices.Clone(room)
		short := room[:len(l):len(room)]
		Good(short)
		Len(short)
		At(short, 3)
		answers, again := calls(short), calls(short)
		if !slices.Equal(room, kept) {
			t.Fatalf("%v is now %v", kept, room)
		}
		for name, a := range answers {
			if !slices.Equal(a, again[name]) {
				t.Errorf("%s: two answers, %v and %v", name, a, again[name])
			}
			a = a[:cap(a)]
			for i := range a {
				a[i] = api.Run{Len: -9, Style: -9}
			}
			if !slices.Equal(room, kept) {
				t.Fatalf("%s shares memory with what came in", name)
			}
		}
		want := calls(l)
		for i := range room {
			room[i] = api.Run{Len: -8, Style: -8}
		}
		for name, a := range again {
			if !slices.Equal(a, want[name]) {
				t.Errorf("%s shares memory with another list: %v, want %v", name, a, want[name])
			}
		}
	}
}
