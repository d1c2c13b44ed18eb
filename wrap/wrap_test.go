package wrap

import (
	"math"
	"slices"
	"strings"
	"testing"

	"scrivener/api"
)

const high = 1 << 30

// far are numbers far below and far above all that is a width or a cell's number.
var far = []int{
	math.MinInt, math.MinInt + 1, math.MinInt / 2, -1 << 32, 1 - 1<<32, -1 << 31, -high, -1 << 24, -100,
	1 << 24, high - 1, high, high + 1, 1 << 31, 1 << 32, 1<<32 + 1, math.MaxInt / 2, math.MaxInt - 48, math.MaxInt - 6, math.MaxInt - 1, math.MaxInt,
}

// around are the numbers from -3 to n, and those far off.
func around(n int) []int {
	l := slices.Clone(far)
	for i := -3; i <= n; i++ {
		l = append(l, i)
	}
	return l
}

// styled are cells of the runes of s, all of one style.
func styled(style int, s string) []api.Cell {
	var l []api.Cell
	for i, r := range s {
		l = append(l, api.Cell{At: i, N: len(string(r)), Rune: r, Style: style})
	}
	return l
}

// regular are cells of the runes of s, each 6 wide, but the tabs.
func regular(s string) []api.Cell { return styled(0, s) }

// rs is rows of numbers, three of each: From, To, W.
func rs(n ...int) []api.Row {
	var l []api.Row
	for i := 0; i < len(n); i += 3 {
		l = append(l, api.Row{From: n[i], To: n[i+1], W: n[i+2]})
	}
	return l
}

// single is n rows of one cell each, all w wide.
func single(n, w int) []api.Row {
	var l []api.Row
	for i := range n {
		l = append(l, api.Row{From: i, To: i + 1, W: w})
	}
	return l
}

// blank is whether a row may be broken behind c.
func blank(c api.Cell) bool { return c.Rune == 32 || c.Rune == 9 }

// wide is how wide cells are that lie side by side from 0 on, in the words of the chapter of cells.
func wide(l []api.Cell) int {
	x := 0
	for _, c := range l {
		switch {
		case c.Rune == 9 && x <= high:
			x = (x/48 + 1) * 48
		case c.Rune == 9:
		case c.Style >= 0 && c.Style <= 23:
			x += []int{6, 7, 12}[c.Style%3]
		default:
			x += 6
		}
	}
	return x
}

// told is Rows in the chapter's words: of each row it is asked anew how many cells there is place for, and which of these is the last blank.
func told(l []api.Cell, width int) []api.Row {
	width = max(width, 1)
	var rows []api.Row
	for from := 0; ; {
		to := min(from+1, len(l))
		for to < len(l) && wide(l[from:to+1]) <= width {
			to++
		}
		end := to
		if to < len(l) {
			for end > from && !blank(l[end-1]) {
				end--
			}
			if end == from {
				end = to
			}
		}
		rows = append(rows, api.Row{From: from, To: end, W: wide(l[from:end])})
		if end == len(l) {
			return rows
		}
		from = end
	}
}

// checkRows holds Rows against the chapter's words.
func checkRows(t *testing.T, l []api.Cell, width int) {
	t.Helper()
	if got, want := Rows(l, width), told(l, width); !slices.Equal(got, want) {
		t.Fatalf("Rows(%v, %d) is %v, want %v", l, width, got, want)
	}
}

// checkWhole holds what comes to it: all cells are in rows, each in one, and a row wider than width has one cell.
func checkWhole(t *testing.T, l []api.Cell, width int) {
	t.Helper()
	rows := Rows(l, width)
	if len(l) == 0 {
		if !slices.Equal(rows, rs(0, 0, 0)) {
			t.Fatalf("Rows of no cells in %d is %v", width, rows)
		}
		return
	}
	in := make([]int, len(l))
	for _, r := range rows {
		for c := r.From; c < r.To; c++ {
			in[c]++
		}
		if r.To <= r.From || r.W > width && r.W > 1 && r.To-r.From != 1 {
			t.Fatalf("Rows(%v, %d) is %v, with %v", l, width, rows, r)
		}
	}
	if i := slices.IndexFunc(in, func(n int) bool { return n != 1 }); i >= 0 {
		t.Fatalf("Rows(%v, %d) is %v: the cell %d is in %d rows", l, width, rows, i, in[i])
	}
}

// grow calls do with each list of up to n of some cells.
func grow(some []api.Cell, n int, do func(l []api.Cell)) {
	var more func(l []api.Cell)
	more = func(l []api.Cell) {
		do(l)
		if len(l) == n {
			return
		}
		for _, c := range some {
			more(append(l[:len(l):len(l)], c))
		}
	}
	more(nil)
}

// mixed is a long line of cells of all kinds, blanks among them one in so many.
func mixed(n, blanks int) []api.Cell {
	seed := uint32(7)
	next := func(n int) int {
		seed = seed*1664525 + 1013904223
		return int(seed>>8) % n
	}
	l := make([]api.Cell, n)
	for i := range l {
		l[i] = api.Cell{At: i, N: 1, Rune: rune("abXYz"[next(5)]), Style: next(28) - 2}
		if next(blanks) == 0 {
			l[i].Rune = rune("  \t"[next(3)])
		}
	}
	return l
}

// P18.1: Rows of regular letters and spaces, as it stands.
func TestRowsByHand(t *testing.T) {
	for _, c := range []struct {
		s     string
		width int
		want  []api.Row
	}{
		{"", 24, rs(0, 0, 0)}, {"", 1, rs(0, 0, 0)}, {"", 0, rs(0, 0, 0)}, {"", -1, rs(0, 0, 0)}, {"", math.MinInt, rs(0, 0, 0)}, {"", math.MaxInt, rs(0, 0, 0)},
		{"a", 6, rs(0, 1, 6)}, {"a", 7, rs(0, 1, 6)}, {"a", 5, rs(0, 1, 6)}, {"a", 1, rs(0, 1, 6)}, {"a", 0, rs(0, 1, 6)}, {"a", -1, rs(0, 1, 6)}, {"a", math.MinInt, rs(0, 1, 6)}, {"a", math.MaxInt, rs(0, 1, 6)}, {" ", 6, rs(0, 1, 6)}, {" ", 5, rs(0, 1, 6)},
		// all fit
		{"ab", 12, rs(0, 2, 12)}, {"ab", 13, rs(0, 2, 12)}, {"ab cd", 30, rs(0, 5, 30)}, {"ab cd", 31, rs(0, 5, 30)}, {"ab cd", math.MaxInt, rs(0, 5, 30)}, {" ab  ", 30, rs(0, 5, 30)},
		// none fits beside another
		{"ab", 11, single(2, 6)}, {"abc", 6, single(3, 6)}, {"abc", 11, single(3, 6)}, {"a b c", 11, single(5, 6)}, {"   ", 11, single(3, 6)},
		{"ab cd", 5, single(5, 6)}, {"ab cd", 2, single(5, 6)}, {"ab cd", 1, single(5, 6)}, {"ab cd", 0, single(5, 6)}, {"ab cd", -1, single(5, 6)}, {"ab cd", -24, single(5, 6)}, {"ab cd", -high, single(5, 6)}, {"ab cd", math.MinInt + 1, single(5, 6)}, {"ab cd", math.MinInt, single(5, 6)},
		// without a blank, just at width and one behind it
		{"abc", 12, rs(0, 2, 12, 2, 3, 6)}, {"abc", 17, rs(0, 2, 12, 2, 3, 6)}, {"abc", 18, rs(0, 3, 18)}, {"abcdef", 18, rs(0, 3, 18, 3, 6, 18)}, {"abcdef", 23, rs(0, 3, 18, 3, 6, 18)}, {"abcdefg", 18, rs(0, 3, 18, 3, 6, 18, 6, 7, 6)},
		// behind a blank
		{"ab cd", 29, rs(0, 3, 18, 3, 5, 12)}, {"ab cd", 24, rs(0, 3, 18, 3, 5, 12)}, {"ab cd", 23, rs(0, 3, 18, 3, 5, 12)}, {"ab cd", 18, rs(0, 3, 18, 3, 5, 12)},
		{"ab cd", 17, rs(0, 2, 12, 2, 3, 6, 3, 5, 12)}, {"ab cd", 12, rs(0, 2, 12, 2, 3, 6, 3, 5, 12)}, {"ab cde", 24, rs(0, 3, 18, 3, 6, 18)}, {"ab cdefgh", 24, rs(0, 3, 18, 3, 7, 24, 7, 9, 12)},
		// behind the last of several
		{"a b c d", 30, rs(0, 4, 24, 4, 7, 18)}, {"a b c d", 36, rs(0, 6, 36, 6, 7, 6)}, {"a b c d", 24, rs(0, 4, 24, 4, 7, 18)}, {"a b c d", 18, rs(0, 2, 12, 2, 4, 12, 4, 7, 18)}, {"a b cdefg", 30, rs(0, 4, 24, 4, 9, 30)}, {"a bcdefgh i", 24, rs(0, 2, 12, 2, 6, 24, 6, 10, 24, 10, 11, 6)},
		// behind a blank that is the row's first cell
		{" abc", 18, rs(0, 1, 6, 1, 4, 18)}, {" abc", 23, rs(0, 1, 6, 1, 4, 18)}, {" abc", 24, rs(0, 4, 24)}, {" abcd", 18, rs(0, 1, 6, 1, 4, 18, 4, 5, 6)}, {"abc def", 18, rs(0, 3, 18, 3, 4, 6, 4, 7, 18)}, {"abc de", 18, rs(0, 3, 18, 3, 6, 18)}, {" a", 6, single(2, 6)},
		// blanks one behind the other
		{"ab  cd", 24, rs(0, 4, 24, 4, 6, 12)}, {"ab  cd", 18, rs(0, 3, 18, 3, 6, 18)}, {"ab  cd", 12, rs(0, 2, 12, 2, 4, 12, 4, 6, 12)}, {"ab   cd", 18, rs(0, 3, 18, 3, 5, 12, 5, 7, 12)}, {"ab    cd", 18, rs(0, 3, 18, 3, 6, 18, 6, 8, 12)}, {"  abc", 24, rs(0, 2, 12, 2, 5, 18)}, {"   ", 12, rs(0, 2, 12, 2, 3, 6)}, {"     ", 12, rs(0, 2, 12, 2, 4, 12, 4, 5, 6)},
		// blanks at the line's end
		{"ab ", 18, rs(0, 3, 18)}, {"ab ", 12, rs(0, 2, 12, 2, 3, 6)}, {"ab  ", 18, rs(0, 3, 18, 3, 4, 6)}, {"ab cd ", 30, rs(0, 3, 18, 3, 6, 18)}, {"a ", 6, single(2, 6)},
	} {
		if got := Rows(regular(c.s), c.width); !slices.Equal(got, c.want) {
			t.Errorf("Rows(%q, %d) is %v, want %v", c.s, c.width, got, c.want)
		}
	}
}

// P18.1: tabs are as wide as their own row's x has it, as it stands.
func TestTabsByHand(t *testing.T) {
	for _, c := range []struct {
		s     string
		width int
		want  []api.Row
	}{
		{"\t", 48, rs(0, 1, 48)}, {"\t", 47, rs(0, 1, 48)}, {"\t", 1, rs(0, 1, 48)}, {"\t", 0, rs(0, 1, 48)}, {"\t", 100, rs(0, 1, 48)},
		{"\t\t", 96, rs(0, 2, 96)}, {"\t\t", 95, single(2, 48)}, {"\t\t", 48, single(2, 48)}, {"\t\t", 1, single(2, 48)}, {"\t\t\t", 143, rs(0, 2, 96, 2, 3, 48)}, {"\t\t\t\t", 96, rs(0, 2, 96, 2, 4, 96)},
		{"a\tb", 54, rs(0, 3, 54)}, {"a\tb", 53, rs(0, 2, 48, 2, 3, 6)}, {"a\tb", 48, rs(0, 2, 48, 2, 3, 6)}, {"a\tb", 47, rs(0, 1, 6, 1, 2, 48, 2, 3, 6)}, {"a\tb", 1, rs(0, 1, 6, 1, 2, 48, 2, 3, 6)},
		{"\tab", 60, rs(0, 3, 60)}, {"\tab", 59, rs(0, 1, 48, 1, 3, 12)}, {"\tab", 12, rs(0, 1, 48, 1, 3, 12)}, {"ab\t", 12, rs(0, 2, 12, 2, 3, 48)}, {"ab\t", 47, rs(0, 2, 12, 2, 3, 48)}, {"ab\t", 48, rs(0, 3, 48)},
		{"a\t\tb", 96, rs(0, 3, 96, 3, 4, 6)}, {"a\t\tb", 95, rs(0, 2, 48, 2, 4, 54)}, {"a\t\tb", 53, rs(0, 2, 48, 2, 3, 48, 3, 4, 6)}, {"a\t\tb", 54, rs(0, 2, 48, 2, 4, 54)}, {"a\tb\tc", 101, rs(0, 4, 96, 4, 5, 6)}, {"a\tb\tc", 95, rs(0, 2, 48, 2, 5, 54)},
		// a tab that lies just at a tab stop, one ahead of it
		{"aaaaaaaa\tb", 96, rs(0, 9, 96, 9, 10, 6)}, {"aaaaaaaa\tb", 95, rs(0, 8, 48, 8, 10, 54)}, {"aaaaaaa\tb", 48, rs(0, 8, 48, 8, 9, 6)},
		// the row's x, not the line's
		{"aaaaaaaaaaa\tb", 60, rs(0, 10, 60, 10, 13, 54)}, {"aaaaaaaaaaa\tb", 53, rs(0, 8, 48, 8, 12, 48, 12, 13, 6)}, {"ab cdefgh\ti", 54, rs(0, 3, 18, 3, 11, 54)}, {"ab cdefgh\ti", 48, rs(0, 3, 18, 3, 10, 48, 10, 11, 6)},
		// a tab that is not taken; in the next row it is, or is not again
		{" aaaaaaa\tb", 48, rs(0, 1, 6, 1, 9, 48, 9, 10, 6)}, {" aaaaaaaa\tb", 60, rs(0, 1, 6, 1, 9, 48, 9, 11, 54)}, {"\ta\t", 54, rs(0, 1, 48, 1, 3, 48)},
		{"a \t b", 30, rs(0, 2, 12, 2, 3, 48, 3, 5, 12)}, {"a\t b", 59, rs(0, 3, 54, 3, 4, 6)}, {" \t \t", 54, rs(0, 3, 54, 3, 4, 48)},
	} {
		if got := Rows(regular(c.s), c.width); !slices.Equal(got, c.want) {
			t.Errorf("Rows(%q, %d) is %v, want %v", c.s, c.width, got, c.want)
		}
	}
}

// P18.1: cells of all faces, and of styles that are none, as it stands.
func TestStylesByHand(t *testing.T) {
	for _, c := range []struct {
		l     []api.Cell
		width int
		want  []api.Row
	}{
		{styled(1, "abc"), 21, rs(0, 3, 21)}, {styled(1, "abc"), 20, rs(0, 2, 14, 2, 3, 7)}, {styled(1, "abc"), 14, rs(0, 2, 14, 2, 3, 7)}, {styled(1, "abc"), 13, single(3, 7)}, {styled(1, "abc"), 6, single(3, 7)},
		{styled(2, "abc"), 36, rs(0, 3, 36)}, {styled(2, "abc"), 35, rs(0, 2, 24, 2, 3, 12)}, {styled(2, "abc"), 23, single(3, 12)}, {styled(2, "abc"), 11, single(3, 12)},
		{styled(23, "a b"), 35, rs(0, 2, 24, 2, 3, 12)}, {styled(22, "a b"), 20, rs(0, 2, 14, 2, 3, 7)}, {styled(21, "a b"), 17, rs(0, 2, 12, 2, 3, 6)},
		{styled(24, "abc"), 12, rs(0, 2, 12, 2, 3, 6)}, {styled(25, "abc"), 12, rs(0, 2, 12, 2, 3, 6)}, {styled(26, "abc"), 12, rs(0, 2, 12, 2, 3, 6)}, {styled(-1, "abc"), 12, rs(0, 2, 12, 2, 3, 6)}, {styled(math.MinInt, "abc"), 12, rs(0, 2, 12, 2, 3, 6)}, {styled(math.MaxInt, "abc"), 12, rs(0, 2, 12, 2, 3, 6)},
		{styled(2, "a\tb"), 59, rs(0, 2, 48, 2, 3, 12)}, {styled(2, "\t\t"), 95, single(2, 48)}, {styled(24, "\ta"), 54, rs(0, 2, 54)},
		// a row's first cell wider than width, behind rows that are not
		{slices.Concat(styled(0, "ab"), styled(2, "c"), styled(0, "de")), 11, rs(0, 1, 6, 1, 2, 6, 2, 3, 12, 3, 4, 6, 4, 5, 6)}, {slices.Concat(styled(0, "a "), styled(2, " "), styled(0, "d")), 6, rs(0, 1, 6, 1, 2, 6, 2, 3, 12, 3, 4, 6)},
		{slices.Concat(styled(0, "a"), styled(1, "b"), styled(2, "c")), 25, rs(0, 3, 25)}, {slices.Concat(styled(0, "a"), styled(1, "b"), styled(2, "c")), 24, rs(0, 2, 13, 2, 3, 12)}, {slices.Concat(styled(0, "a"), styled(1, " "), styled(2, "c")), 24, rs(0, 2, 13, 2, 3, 12)},
		{slices.Concat(styled(2, " "), styled(0, "ab"), styled(1, " cd")), 30, rs(0, 1, 12, 1, 4, 19, 4, 6, 14)},
		// other runes that might be taken for blanks break no row
		{regular("a\u00a0b\u2003c\u3000d"), 18, rs(0, 3, 18, 3, 6, 18, 6, 7, 6)}, {regular("a\nb\rc\vd"), 18, rs(0, 3, 18, 3, 6, 18, 6, 7, 6)}, {regular("a-b\x00c\x1fd!e"), 24, rs(0, 4, 24, 4, 8, 24, 8, 9, 6)}, {regular("\u00e9\u20ac \U0001d11e"), 18, rs(0, 3, 18, 3, 4, 6)},
	} {
		if got := Rows(c.l, c.width); !slices.Equal(got, c.want) {
			t.Errorf("Rows(%v, %d) is %v, want %v", c.l, c.width, got, c.want)
		}
	}
}

// P18.1: the chapter's example.
func TestExample(t *testing.T) {
	if got := Rows(regular("ab cd"), 24); !slices.Equal(got, rs(0, 3, 18, 3, 5, 12)) {
		t.Error(got)
	}
}

// P18.1, P18.3: all short lines of cells of all kinds, in all widths up to where all have place.
func TestAllShortLines(t *testing.T) {
	some := slices.Concat(regular("a"), styled(4, "b"), styled(8, "c"), regular(" "), styled(2, " "), regular("\t"), styled(2, "\t"), styled(24, "d"), styled(-1, " "))
	widths := around(4*48 + 1)
	grow(some, 4, func(l []api.Cell) {
		for _, width := range widths {
			checkRows(t, l, width)
			checkWhole(t, l, width)
		}
	})
}

// P18.1, P18.3: all lines of up to eight cells of few kinds, in widths at which something changes.
func TestAllLines(t *testing.T) {
	some := slices.Concat(regular("a \t"), styled(2, "b"))
	widths := []int{1, 5, 6, 7, 11, 12, 17, 18, 24, 29, 30, 36, 47, 48, 53, 54, 59, 60, 66, 72, 95, 96, 101, 102, 108, 144, 150, 200}
	grow(some, 8, func(l []api.Cell) {
		for _, width := range widths {
			checkRows(t, l, width)
		}
		checkWhole(t, l, 24)
		checkWhole(t, l, 54)
	})
}

// P18.1, P18.3: long lines of cells of all kinds, with many blanks, few, and none.
func TestLongLines(t *testing.T) {
	for _, blanks := range []int{1, 2, 5, 20, 100, 5000} {
		l := mixed(3000, blanks)
		for _, width := range append(around(60), 95, 96, 97, 200, 500, 1000, 2001) {
			if width < 3000 {
				checkRows(t, l, width)
			}
			checkWhole(t, l, width)
		}
	}
}

// P18.1: where cells lie in their line, and how many bytes they have, is nothing to Rows.
func TestRowsOfAnyPlaces(t *testing.T) {
	for _, n := range around(9) {
		l := regular("a\tb cd")
		for i := range l {
			l[i].At, l[i].N = n, -n
		}
		l[2].At, l[4].N = -n, n
		if got := Rows(l, 54); !slices.Equal(got, rs(0, 2, 48, 2, 6, 24)) {
			t.Errorf("Rows(%v, 54) is %v", l, got)
		}
		if got := Rows(l, 18); !slices.Equal(got, rs(0, 1, 6, 1, 2, 48, 2, 4, 12, 4, 6, 12)) {
			t.Errorf("Rows(%v, 18) is %v", l, got)
		}
	}
}

// P18.1: no cell of a long line is looked at often, whether its rows are short or long, and wherever its blanks are.
func TestRowsOfTheLongestLines(t *testing.T) {
	const n = 1 << 20
	for _, c := range []struct {
		s     string
		width int
		rows  int
		last  api.Row
	}{
		{strings.Repeat("a", n), 1, n, rs(n-1, n, 6)[0]},
		{strings.Repeat("a", n), 6*n - 1, 2, rs(n-1, n, 6)[0]},
		{strings.Repeat("a", n), 6 * n, 1, rs(0, n, 6*n)[0]},
		{strings.Repeat("a", n), 3 * n, 2, rs(n/2, n, 3*n)[0]},
		{" " + strings.Repeat("a", n-1), 3 * n, 3, rs(n/2+1, n, 3*n-6)[0]},
		{strings.Repeat(" a", n/2), 3 * n, 3, rs(n-1, n, 6)[0]},
		{strings.Repeat(" a", n/2), 1, n, rs(n-1, n, 6)[0]},
		{strings.Repeat(" aaa", n/4), 18, n / 2, rs(n-3, n, 18)[0]},
		{strings.Repeat(" "+strings.Repeat("a", 1023), n/1024), 6 * 1023, n / 512, rs(n-1023, n, 6*1023)[0]},
		{strings.Repeat("\t", n), 48 * n, 1, rs(0, n, 48*n)[0]},
		{strings.Repeat("\t", n), 48*n - 1, 2, rs(n-1, n, 48)[0]},
		{strings.Repeat("\t", n), 95, n, rs(n-1, n, 48)[0]},
	} {
		got := Rows(regular(c.s), c.width)
		if len(got) != c.rows || got[len(got)-1] != c.last {
			t.Errorf("Rows(%.9q.., %d) is %d rows, at last %v, want %d and %v", c.s, c.width, len(got), got[len(got)-1], c.rows, c.last)
		}
	}
}

// P18.1: behind 2^30 tabs have no width any more, so that there is always place for them.
func TestRowsOfFarTabs(t *testing.T) {
	const (
		tabs = high/48 + 1
		end  = tabs * 48
		all  = tabs + 5
	)
	l := slices.Repeat(regular("\t"), all)
	l[tabs+2].Rune, l[tabs+3].Rune = 'a', 'b'
	for _, c := range []struct {
		width int
		want  []api.Row
	}{
		{end - 1, rs(0, tabs-1, end-48, tabs-1, all, 192)},
		{end, rs(0, tabs+2, end, tabs+2, all, 48)},
		{end + 6, rs(0, tabs+2, end, tabs+2, all, 48)},
		{end + 11, rs(0, tabs+2, end, tabs+2, all, 48)},
		{end + 12, rs(0, all, end+12)},
		{math.MaxInt, rs(0, all, end+12)},
	} {
		if got := Rows(l, c.width); !slices.Equal(got, c.want) {
			t.Errorf("Rows of %d tabs in %d is %v, want %v", tabs, c.width, got, c.want)
		}
	}
}

// P18.2: Good of just these rows, and of such as are another in one number, or in how many there are.
func TestGood(t *testing.T) {
	lines := [][]api.Cell{nil, regular("a"), regular("ab cd"), regular("  a\tb\t\tcdefghi j"), slices.Concat(styled(1, "ab c"), styled(2, "d e"), styled(24, "\tf")), mixed(60, 5)}
	for _, l := range lines {
		for _, width := range []int{math.MinInt, -1, 0, 1, 6, 12, 18, 24, 30, 54, 100, 1 << 20, math.MaxInt} {
			want := told(l, width)
			good := func(rows []api.Row) bool { return Good(l, width, rows) }
			if !good(want) || !good(append(slices.Clone(want), rs(1, 2, 3)...)[:len(want)]) {
				t.Fatalf("Good(%v, %d, %v) is false", l, width, want)
			}
			for _, rows := range others(want) {
				if good(rows) {
					t.Fatalf("Good(%v, %d, %v) is true", l, width, rows)
				}
			}
		}
	}
}

// others are rows that are not want: of another number, of one row more or fewer, of none.
func others(want []api.Row) [][]api.Row {
	l := [][]api.Row{nil, {}, want[1:], want[:len(want)-1], slices.Concat(want, want), slices.Concat(want, rs(0, 0, 0)), slices.Concat(rs(0, 0, 0), want)}
	for i, r := range want {
		l = append(l, slices.Delete(slices.Clone(want), i, i+1), slices.Insert(slices.Clone(want), i, r), slices.Insert(slices.Clone(want), i, api.Row{From: r.From, To: r.From}))
		for _, d := range []int{1, -1, 6, -6, 1 << 32, math.MinInt} {
			for _, n := range []api.Row{{From: r.From + d, To: r.To, W: r.W}, {From: r.From, To: r.To + d, W: r.W}, {From: r.From, To: r.To, W: r.W + d}} {
				rows := slices.Clone(want)
				rows[i] = n
				l = append(l, rows)
			}
		}
	}
	return l
}

// P18.2: Good of rows of another width: true just if these are the same.
func TestGoodOfAnotherWidth(t *testing.T) {
	l := regular("ab cd\tef ghi")
	for w := -2; w < 120; w++ {
		for v := -2; v < 120; v++ {
			if want := slices.Equal(told(l, w), told(l, v)); Good(l, w, Rows(l, v)) != want {
				t.Errorf("Good in %d of the rows of %d is %v", w, v, !want)
			}
		}
	}
	for _, c := range []struct {
		width int
		rows  []api.Row
		want  bool
	}{
		{24, rs(0, 3, 18, 3, 5, 12), true}, {29, rs(0, 3, 18, 3, 5, 12), true}, {18, rs(0, 3, 18, 3, 5, 12), true}, {30, rs(0, 3, 18, 3, 5, 12), false}, {17, rs(0, 3, 18, 3, 5, 12), false},
		{24, rs(0, 2, 12, 2, 5, 18), false}, {24, rs(0, 4, 24, 4, 5, 6), false}, {24, rs(3, 5, 12, 0, 3, 18), false}, {24, rs(0, 5, 30), false}, {30, rs(0, 5, 30), true},
		{1, single(5, 6), true}, {0, single(5, 6), true}, {-1, single(5, 6), true}, {math.MinInt, single(5, 6), true}, {11, single(5, 6), true}, {12, single(5, 6), false},
	} {
		if Good(regular("ab cd"), c.width, c.rows) != c.want {
			t.Errorf("Good in %d of %v is %v", c.width, c.rows, !c.want)
		}
	}
}

// P18.2: of all short lists of small rows just one is good.
func TestGoodOfAllSmallRows(t *testing.T) {
	l := regular("a b")
	var some []api.Row
	for from := range 4 {
		for to := range 4 {
			for _, w := range []int{0, 6, 12, 18} {
				some = append(some, api.Row{From: from, To: to, W: w})
			}
		}
	}
	for _, width := range []int{6, 12, 18} {
		want, good := told(l, width), 0
		var more func(rows []api.Row)
		more = func(rows []api.Row) {
			if Good(l, width, rows) {
				if good++; !slices.Equal(rows, want) {
					t.Fatalf("Good in %d of %v is true", width, rows)
				}
			}
			if len(rows) < 3 {
				for _, r := range some {
					more(append(rows[:len(rows):len(rows)], r))
				}
			}
		}
		more(nil)
		if good != 1 {
			t.Errorf("in %d %d lists are good", width, good)
		}
	}
}

// P18.2: Of, as it stands: of rows that touch, that leave cells out, that have no cells, that have a cell twice, and of no rows.
func TestOfByHand(t *testing.T) {
	for _, c := range []struct {
		rows       []api.Row
		cell, want int
	}{
		{nil, 0, -1}, {nil, -1, -1}, {nil, 5, -1}, {nil, math.MinInt, -1}, {nil, math.MaxInt, -1}, {[]api.Row{}, 0, -1},
		{rs(0, 3, 18, 3, 5, 12), 0, 0}, {rs(0, 3, 18, 3, 5, 12), 1, 0}, {rs(0, 3, 18, 3, 5, 12), 2, 0}, {rs(0, 3, 18, 3, 5, 12), 3, 1}, {rs(0, 3, 18, 3, 5, 12), 4, 1},
		{rs(0, 3, 18, 3, 5, 12), 5, 1}, {rs(0, 3, 18, 3, 5, 12), 6, 1}, {rs(0, 3, 18, 3, 5, 12), -1, 1}, {rs(0, 3, 18, 3, 5, 12), math.MinInt, 1}, {rs(0, 3, 18, 3, 5, 12), math.MaxInt, 1},
		{rs(0, 3, 18), 0, 0}, {rs(0, 3, 18), 3, 0}, {rs(0, 3, 18), -1, 0}, {rs(0, 3, 18), 1 << 32, 0},
		{rs(0, 0, 0), 0, 0}, {rs(0, 0, 0), 1, 0}, {rs(0, 0, 0), -1, 0}, {rs(0, 0, 0, 0, 1, 6), 0, 1}, {rs(0, 1, 6, 1, 1, 0), 1, 1}, {rs(0, 1, 6, 1, 1, 0, 1, 2, 6), 1, 2}, {rs(2, 2, 0, 0, 4, 9, 2, 2, 0), 2, 1}, {rs(2, 2, 0, 0, 4, 9, 2, 2, 0), 4, 2},
		{rs(0, 2, 12, 4, 6, 12, 8, 9, 6), 2, 2}, {rs(0, 2, 12, 4, 6, 12, 8, 9, 6), 3, 2}, {rs(0, 2, 12, 4, 6, 12, 8, 9, 6), 4, 1}, {rs(0, 2, 12, 4, 6, 12, 8, 9, 6), 5, 1}, {rs(0, 2, 12, 4, 6, 12, 8, 9, 6), 7, 2}, {rs(0, 2, 12, 4, 6, 12, 8, 9, 6), 8, 2}, {rs(3, 5, 12, 7, 9, 12), 0, 1},
		{rs(0, 4, 24, 2, 6, 24), 1, 0}, {rs(0, 4, 24, 2, 6, 24), 2, 0}, {rs(0, 4, 24, 2, 6, 24), 3, 0}, {rs(0, 4, 24, 2, 6, 24), 4, 1}, {rs(0, 9, 54, 0, 9, 54, 0, 9, 54), 5, 0}, {rs(0, 1, 6, 0, 9, 54, 0, 9, 54), 5, 1}, {rs(0, 9, 54, 3, 4, 6, 20, 30, 6), 3, 0},
		{rs(3, 5, 12, 0, 3, 18), 0, 1}, {rs(3, 5, 12, 0, 3, 18), 4, 0}, {rs(3, 5, 12, 0, 3, 18), 5, 1},
		{rs(5, 3, 0), 4, 0}, {rs(5, 3, 0, 0, 9, 0, 7, 7, 0), 4, 1}, {rs(5, 3, 0, 7, 2, 0), 4, 1}, {rs(9, -9, 0, -3, 0, 0, 1, 1, 1), -1, 1},
		{rs(math.MinInt, math.MaxInt, 0, 0, 1, 0), 0, 0}, {rs(math.MinInt, math.MaxInt, 0, 0, 1, 0), math.MinInt, 0}, {rs(math.MinInt, math.MaxInt, 0, 0, 1, 0), math.MaxInt - 1, 0}, {rs(math.MinInt, math.MaxInt, 0, 0, 1, 0), math.MaxInt, 1}, {rs(math.MaxInt, math.MinInt, 0, 0, 1, 0), 7, 1}, {rs(math.MaxInt-1, math.MaxInt, 0, 0, 1, 0), math.MaxInt - 1, 0}, {rs(math.MinInt, math.MinInt+1, 0, 0, 1, 0), math.MinInt, 0}, {rs(math.MinInt, math.MinInt+1, 0, 0, 1, 0), math.MinInt + 1, 1},
	} {
		if got := Of(c.rows, c.cell); got != c.want {
			t.Errorf("Of(%v, %d) is %d, want %d", c.rows, c.cell, got, c.want)
		}
	}
}

// P18.2: all short lists of small rows, cell by cell; how wide a row is, is nothing to Of.
func TestOfAllSmallRows(t *testing.T) {
	ask := around(6)
	var more func(rows []api.Row)
	more = func(rows []api.Row) {
		first := map[int]int{}
		for i, r := range rows {
			for c := r.From; c < r.To; c++ {
				if _, ok := first[c]; !ok {
					first[c] = i
				}
			}
		}
		for _, c := range ask {
			want, ok := first[c]
			if !ok {
				want = len(rows) - 1
			}
			if got := Of(rows, c); got != want {
				t.Fatalf("Of(%v, %d) is %d, want %d", rows, c, got, want)
			}
		}
		if len(rows) == 3 {
			return
		}
		for from := -2; from < 5; from++ {
			for to := -2; to < 5; to++ {
				more(append(rows[:len(rows):len(rows)], api.Row{From: from, To: to, W: from - to}))
			}
		}
	}
	more(nil)
}

// P18.2, P18.3: of a line's rows Of tells for each cell the one that has it.
func TestOfRows(t *testing.T) {
	for _, l := range [][]api.Cell{nil, regular("a"), regular("ab cd"), regular("  a\tb\t\tcdefghi j"), mixed(500, 6)} {
		for _, width := range around(130) {
			rows := Rows(l, width)
			for i, r := range rows {
				for c := r.From; c < r.To; c++ {
					if got := Of(rows, c); got != i {
						t.Fatalf("in %d of %v, cell %d: Of is %d, want %d", width, rows, c, got, i)
					}
				}
			}
			for _, c := range []int{math.MinInt, -1, len(l), len(l) + 1, math.MaxInt} {
				if got := Of(rows, c); got != len(rows)-1 {
					t.Fatalf("in %d of %v, cell %d: Of is %d", width, rows, c, got)
				}
			}
		}
	}
}

// P18.1, P18.2: what is handed in stays as it was, its spare room included, and none of it is in what is told.
func TestMemoryOfWhatComesIn(t *testing.T) {
	all := regular("ab cd\te spare")
	rows := append(Rows(all[:7], 24), rs(1, 2, 3, 4, 5, 6)...)
	keptAll, keptRows := slices.Clone(all), slices.Clone(rows)
	l, some := all[:7:len(all)], rows[:len(rows)-2]
	for range 2 {
		got := Rows(l, 24)
		if !slices.Equal(got, rs(0, 3, 18, 3, 5, 12, 5, 6, 48, 6, 7, 6)) || !Good(l, 24, some) || Good(l, 55, some) || Of(some, 4) != 1 {
			t.Errorf("%v, %v", got, some)
		}
		if !slices.Equal(all, keptAll) || !slices.Equal(rows, keptRows) {
			t.Fatalf("%v and %v are now %v and %v", keptAll, keptRows, all, rows)
		}
	}
	got := Rows(l, 24)
	for i := range all {
		all[i] = api.Cell{At: 9, N: 9, Rune: 9, Style: 9}
	}
	for i := range rows {
		rows[i] = api.Row{From: 9, To: 9, W: 9}
	}
	if !slices.Equal(got, keptRows[:len(got)]) {
		t.Errorf("what was told is now %v", got)
	}
}

// P18.1: what is told is new each time, its spare room included, and may be changed.
func TestMemoryOfWhatIsTold(t *testing.T) {
	for _, l := range [][]api.Cell{nil, regular("ab"), regular("ab cd\te f gh ij")} {
		for _, width := range []int{0, 24, 1000} {
			want := told(l, width)
			first, second := Rows(l, width), Rows(l, width)
			for i := range first[:cap(first)] {
				first[:cap(first)][i] = api.Row{From: -1, To: -1, W: -1}
			}
			if !slices.Equal(second, want) || !slices.Equal(Rows(l, width), want) || !Good(l, width, want) || Good(l, width, first) {
				t.Errorf("Rows(%v, %d) is now %v, %v", l, width, second, Rows(l, width))
			}
		}
	}
}
