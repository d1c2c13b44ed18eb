package metric

import (
	"bytes"
	"math"
	"math/big"
	"slices"
	"strings"
	"testing"

	"scrivener/api"
	"scrivener/cells"
	"scrivener/wrap"
)

const (
	most    = 1 << 24
	highest = 1 << 20
)

// far are numbers far below and far above all that is a place, a width or a height, and such that sums and differences of them wrap round.
var far = []int{
	math.MinInt, math.MinInt + 1, math.MinInt + 5, math.MinInt / 2, -1 << 32, 1 - 1<<32, -1 << 31, -1 << 30, -most, -100,
	most, 1 << 30, 1 << 31, 1 << 32, 1<<32 + 1, math.MaxInt / 2, math.MaxInt/2 + 1, math.MaxInt - 48, math.MaxInt - 6, math.MaxInt - 1, math.MaxInt,
}

// around are the numbers from -3 to n, and those far off.
func around(n int) []int {
	l := slices.Clone(far)
	for i := -3; i <= n; i++ {
		l = append(l, i)
	}
	return l
}

// rs is runs of numbers, two of each: how long, and of which style.
func rs(n ...int) []api.Run {
	var l []api.Run
	for i := 0; i < len(n); i += 2 {
		l = append(l, api.Run{Len: n[i], Style: n[i+1]})
	}
	return l
}

// cs is cells of numbers, four of each: At, N, Rune, Style.
func cs(n ...int) []api.Cell {
	var l []api.Cell
	for i := 0; i < len(n); i += 4 {
		l = append(l, api.Cell{At: n[i], N: n[i+1], Rune: rune(n[i+2]), Style: n[i+3]})
	}
	return l
}

// ats is cells that begin at places.
func ats(n ...int) []api.Cell {
	var l []api.Cell
	for _, at := range n {
		l = append(l, api.Cell{At: at})
	}
	return l
}

// letters is cells of the bytes of s, the first one at a place, all of the style 0.
func letters(at int, s string) []api.Cell {
	var l []api.Cell
	for i := range len(s) {
		l = append(l, api.Cell{At: at + i, N: 1, Rune: rune(s[i])})
	}
	return l
}

// ns is numbers.
func ns(n ...int) []int { return n }

// row is a row that is laid out, which is not its line's last one.
func row(c []api.Cell, xs []int, up, down, from, to int) api.Laid {
	return api.Laid{Cells: c, Xs: xs, Up: up, Down: down, From: from, To: to}
}

// last is one that is.
func last(c []api.Cell, xs []int, up, down, from, to int) api.Laid {
	r := row(c, xs, up, down, from, to)
	r.Last = true
	return r
}

// tall is a row of no cells that reaches so far up and down.
func tall(up, down int) api.Laid { return api.Laid{Up: up, Down: down} }

// talls is rows of no cells, two numbers of each.
func talls(n ...int) []api.Laid {
	var l []api.Laid
	for i := 0; i < len(n); i += 2 {
		l = append(l, tall(n[i], n[i+1]))
	}
	return l
}

// same is whether two rows are laid out alike.
func same(a, b api.Laid) bool {
	return slices.Equal(a.Cells, b.Cells) && slices.Equal(a.Xs, b.Xs) && a.Up == b.Up && a.Down == b.Down && a.From == b.From && a.To == b.To && a.Last == b.Last
}

// clone is rows in memory of their own.
func clone(l []api.Laid) []api.Laid {
	l = slices.Clone(l)
	for i := range l {
		l[i].Cells, l[i].Xs = slices.Clone(l[i].Cells), slices.Clone(l[i].Xs)
	}
	return l
}

// told is Line in the chapter's words, upon the cells of the line and its rows.
func told(b []byte, l []api.Run, from, width int) []api.Laid {
	all := cells.Of(b, l, from)
	rows := wrap.Rows(all, width)
	var out []api.Laid
	for i, r := range rows {
		d := api.Laid{Xs: []int{0}, Up: 7, Down: 2, Last: i == len(rows)-1}
		x := 0
		for n := r.From; n < r.To; n++ {
			c := all[n]
			if n == r.From {
				d.From = c.At
			}
			d.To = c.At + c.N
			switch {
			case c.Rune == 9:
				x = (x/48 + 1) * 48
			default:
				x += []int{6, 7, 12}[c.Style%3]
			}
			if c.Style%3 == 2 {
				d.Up, d.Down = 14, 3
			}
			d.Cells, d.Xs = append(d.Cells, c), append(d.Xs, x)
		}
		out = append(out, d)
	}
	return out
}

// checkLine holds Line against the chapter's words.
func checkLine(t *testing.T, b []byte, l []api.Run, from, width int) []api.Laid {
	t.Helper()
	got, want := Line(b, l, from, width), told(b, l, from, width)
	if !slices.EqualFunc(got, want, same) {
		t.Fatalf("Line(%x, %v, %d, %d) is %v, want %v", b, l, from, width, got, want)
	}
	return got
}

// pieces are what short lines are made of: runes of one to four bytes, blanks, bytes that are none, and runes that are cut.
var pieces = []string{"a", " ", "\t", "\x00", "\xc3\xa9", "\xe2\x82\xac", "\xf0\x9d\x84\x9e", "\xff", "\xc3", "\xe2\x82"}

// eachLine calls do with each line of up to n pieces.
func eachLine(n int, do func(b []byte)) {
	var grow func(b []byte, n int)
	grow = func(b []byte, n int) {
		do(b)
		if n > 0 {
			for _, p := range pieces {
				grow(append(slices.Clone(b), p...), n-1)
			}
		}
	}
	grow(nil, n)
}

// clothes are runs of all kinds: none, long and short ones, such as change within runes, such as are not good, such as are too many.
func clothes() [][]api.Run {
	return [][]api.Run{
		nil, {}, rs(1, 5), rs(2, 2, 3, 7), rs(3, 6, 2, 0, 2, 23), rs(100, 8), rs(1, 1, 1, 2, 1, 3, 1, 4, 1, 5, 1, 6, 1, 7, 1, 8, 1, 9, 1, 10),
		rs(0, 5, 2, 2, 3, 24, 1, -1, 4, 4), rs(most, 5), rs(most-2, 5, 2, 4), rs(most, 5, 1, 8), rs(math.MaxInt, 5, 2, 5),
	}
}

// P19.1: what the limits are, upon which the edges below stand.
func TestLimits(t *testing.T) {
	if api.MaxText != most || api.MaxStyle != 23 || api.Tab != 48 || api.Column != 6 || api.Regular != 0 || api.Bold != 1 || api.Large != 2 || api.Faces != 3 {
		t.Error("limits")
	}
}

// P19.1: a line of no bytes is one row without cells, in any width, wherever it begins.
func TestLineOfNothing(t *testing.T) {
	want := []api.Laid{{Xs: ns(0), Up: 7, Down: 2, Last: true}}
	for _, n := range around(50) {
		for _, b := range [][]byte{nil, {}} {
			for _, l := range clothes() {
				if got := append(Line(b, l, n, 24), Line(b, l, 3, n)...); len(got) != 2 || !same(got[0], want[0]) || !same(got[1], want[0]) {
					t.Errorf("Line of nothing, %v, %d is %v", l, n, got)
				}
			}
		}
	}
}

// P19.1: Line of one style, as it stands.
func TestLineByHand(t *testing.T) {
	for _, c := range []struct {
		b     string
		width int
		want  []api.Laid
	}{
		{"a", 6, []api.Laid{last(letters(0, "a"), ns(0, 6), 7, 2, 0, 1)}},
		{"a", 100, []api.Laid{last(letters(0, "a"), ns(0, 6), 7, 2, 0, 1)}},
		{"a", 0, []api.Laid{last(letters(0, "a"), ns(0, 6), 7, 2, 0, 1)}},
		{"ab", 12, []api.Laid{last(letters(0, "ab"), ns(0, 6, 12), 7, 2, 0, 2)}},
		{"ab", 11, []api.Laid{row(letters(0, "a"), ns(0, 6), 7, 2, 0, 1), last(letters(1, "b"), ns(0, 6), 7, 2, 1, 2)}},
		{"ab", 6, []api.Laid{row(letters(0, "a"), ns(0, 6), 7, 2, 0, 1), last(letters(1, "b"), ns(0, 6), 7, 2, 1, 2)}},
		// behind a blank
		{"ab cd", 24, []api.Laid{row(letters(0, "ab "), ns(0, 6, 12, 18), 7, 2, 0, 3), last(letters(3, "cd"), ns(0, 6, 12), 7, 2, 3, 5)}},
		{"ab cd", 30, []api.Laid{last(letters(0, "ab cd"), ns(0, 6, 12, 18, 24, 30), 7, 2, 0, 5)}},
		{"ab ", 12, []api.Laid{row(letters(0, "ab"), ns(0, 6, 12), 7, 2, 0, 2), last(letters(2, " "), ns(0, 6), 7, 2, 2, 3)}},
		// within a word
		{"abcdefg", 18, []api.Laid{row(letters(0, "abc"), ns(0, 6, 12, 18), 7, 2, 0, 3), row(letters(3, "def"), ns(0, 6, 12, 18), 7, 2, 3, 6), last(letters(6, "g"), ns(0, 6), 7, 2, 6, 7)}},
		// tabs, each by its own row's x
		{"\t", 1, []api.Laid{last(letters(0, "\t"), ns(0, 48), 7, 2, 0, 1)}},
		{"a\tb", 54, []api.Laid{last(letters(0, "a\tb"), ns(0, 6, 48, 54), 7, 2, 0, 3)}},
		{"a\tb", 53, []api.Laid{row(letters(0, "a\t"), ns(0, 6, 48), 7, 2, 0, 2), last(letters(2, "b"), ns(0, 6), 7, 2, 2, 3)}},
		{"a\tb", 12, []api.Laid{row(letters(0, "a"), ns(0, 6), 7, 2, 0, 1), row(letters(1, "\t"), ns(0, 48), 7, 2, 1, 2), last(letters(2, "b"), ns(0, 6), 7, 2, 2, 3)}},
		{"a b\tc", 50, []api.Laid{row(letters(0, "a b\t"), ns(0, 6, 12, 18, 48), 7, 2, 0, 4), last(letters(4, "c"), ns(0, 6), 7, 2, 4, 5)}},
		// runes of several bytes, and bytes that are none
		{"\xc3\xa9z", 6, []api.Laid{row(cs(0, 2, 0xe9, 0), ns(0, 6), 7, 2, 0, 2), last(cs(2, 1, 'z', 0), ns(0, 6), 7, 2, 2, 3)}},
		{"\xe2\x82\xac\xf0\x9d\x84\x9ea", 12, []api.Laid{row(cs(0, 3, 0x20ac, 0, 3, 4, 0x1d11e, 0), ns(0, 6, 12), 7, 2, 0, 7), last(cs(7, 1, 'a', 0), ns(0, 6), 7, 2, 7, 8)}},
		{"\xff", 6, []api.Laid{last(cs(0, 1, 0xfffd, 0), ns(0, 6), 7, 2, 0, 1)}},
		{"a\xe2\x82 \xc3", 18, []api.Laid{row(cs(0, 1, 'a', 0, 1, 1, 0xfffd, 0, 2, 1, 0xfffd, 0), ns(0, 6, 12, 18), 7, 2, 0, 3), last(cs(3, 1, ' ', 0, 4, 1, 0xfffd, 0), ns(0, 6, 12), 7, 2, 3, 5)}},
	} {
		if got := Line([]byte(c.b), nil, 0, c.width); !slices.EqualFunc(got, c.want, same) {
			t.Errorf("Line(%q, none, 0, %d) is %v, want %v", c.b, c.width, got, c.want)
		}
	}
}

// P19.1: Line of several styles, as it stands.
func TestStylesByHand(t *testing.T) {
	for _, c := range []struct {
		b           string
		l           []api.Run
		from, width int
		want        []api.Laid
	}{
		{"ab", rs(2, 1), 0, 14, []api.Laid{last(cs(0, 1, 'a', 1, 1, 1, 'b', 1), ns(0, 7, 14), 7, 2, 0, 2)}},
		{"ab", rs(2, 2), 0, 24, []api.Laid{last(cs(0, 1, 'a', 2, 1, 1, 'b', 2), ns(0, 12, 24), 14, 3, 0, 2)}},
		{"ab", rs(2, 5), 0, 23, []api.Laid{row(cs(0, 1, 'a', 5), ns(0, 12), 14, 3, 0, 1), last(cs(1, 1, 'b', 5), ns(0, 12), 14, 3, 1, 2)}},
		{"ab", rs(1, 23), 0, 100, []api.Laid{last(cs(0, 1, 'a', 23, 1, 1, 'b', 0), ns(0, 12, 18), 14, 3, 0, 2)}},
		{"ab", rs(1, 22, 1, 21), 0, 100, []api.Laid{last(cs(0, 1, 'a', 22, 1, 1, 'b', 21), ns(0, 7, 13), 7, 2, 0, 2)}},
		{"abc", rs(1, 0, 1, 2, 1, 1), 0, 100, []api.Laid{last(cs(0, 1, 'a', 0, 1, 1, 'b', 2, 2, 1, 'c', 1), ns(0, 6, 18, 25), 14, 3, 0, 3)}},
		// each row reaches as far as its own cells do
		{"ab cd", rs(3, 0, 2, 2), 0, 40, []api.Laid{row(letters(0, "ab "), ns(0, 6, 12, 18), 7, 2, 0, 3), last(cs(3, 1, 'c', 2, 4, 1, 'd', 2), ns(0, 12, 24), 14, 3, 3, 5)}},
		{"ab cd", rs(1, 2, 4, 0), 0, 24, []api.Laid{row(cs(0, 1, 'a', 2, 1, 1, 'b', 0, 2, 1, ' ', 0), ns(0, 12, 18, 24), 14, 3, 0, 3), last(letters(3, "cd"), ns(0, 6, 12), 7, 2, 3, 5)}},
		{"a\tb", rs(1, 0, 1, 2), 0, 54, []api.Laid{last(cs(0, 1, 'a', 0, 1, 1, 9, 2, 2, 1, 'b', 0), ns(0, 6, 48, 54), 14, 3, 0, 3)}},
		// a line that begins within the runs, whose own places are counted from its beginning
		{"ab", rs(3, 0, 1, 2, 5, 1), 2, 100, []api.Laid{last(cs(0, 1, 'a', 0, 1, 1, 'b', 2), ns(0, 6, 18), 14, 3, 0, 2)}},
		{"ab", rs(3, 0, 1, 2, 5, 1), 3, 6, []api.Laid{row(cs(0, 1, 'a', 2), ns(0, 12), 14, 3, 0, 1), last(cs(1, 1, 'b', 1), ns(0, 7), 7, 2, 1, 2)}},
		{"ab", rs(4, 2), 3, 100, []api.Laid{last(cs(0, 1, 'a', 2, 1, 1, 'b', 0), ns(0, 12, 18), 14, 3, 0, 2)}},
		{"ab", rs(4, 2), 4, 100, []api.Laid{last(letters(0, "ab"), ns(0, 6, 12), 7, 2, 0, 2)}},
		{"ab", rs(4, 2), 9, 100, []api.Laid{last(letters(0, "ab"), ns(0, 6, 12), 7, 2, 0, 2)}},
		{"ab", rs(4, 2), -1, 100, []api.Laid{last(letters(0, "ab"), ns(0, 6, 12), 7, 2, 0, 2)}},
		{"ab", rs(4, 2), math.MinInt, 100, []api.Laid{last(letters(0, "ab"), ns(0, 6, 12), 7, 2, 0, 2)}},
		{"ab", rs(4, 2), math.MaxInt, 100, []api.Laid{last(letters(0, "ab"), ns(0, 6, 12), 7, 2, 0, 2)}},
		{"ab", rs(most, 2), most - 1, 100, []api.Laid{last(cs(0, 1, 'a', 2, 1, 1, 'b', 0), ns(0, 12, 18), 14, 3, 0, 2)}},
		{"ab", rs(most, 2, 1, 2), 0, 100, []api.Laid{last(letters(0, "ab"), ns(0, 6, 12), 7, 2, 0, 2)}},
	} {
		if got := Line([]byte(c.b), c.l, c.from, c.width); !slices.EqualFunc(got, c.want, same) {
			t.Errorf("Line(%q, %v, %d, %d) is %v, want %v", c.b, c.l, c.from, c.width, got, c.want)
		}
	}
}

// P19.1: a row of all pairs of styles, and of three that change, reaches as far as the face that reaches farthest.
func TestUpAndDown(t *testing.T) {
	for a := range 24 {
		for b := range 24 {
			for _, c := range []int{a, b, 0, 1, 2} {
				up, down := 7, 2
				if a%3 == 2 || b%3 == 2 || c%3 == 2 {
					up, down = 14, 3
				}
				got := Line([]byte("xyz"), rs(1, a, 1, b, 1, c), 0, 100)
				if len(got) != 1 || got[0].Up != up || got[0].Down != down {
					t.Errorf("of the styles %d, %d, %d: %v", a, b, c, got)
				}
			}
		}
	}
}

// P19.1: all short lines, with runs of all kinds, in all widths up to where all have place.
func TestAllShortLines(t *testing.T) {
	widths := []int{math.MinInt, -1, 0, 1, 6, 7, 11, 12, 13, 18, 24, 36, 47, 48, 54, 60, 96, 101, 1 << 20, math.MaxInt}
	eachLine(2, func(b []byte) {
		for _, l := range clothes() {
			for _, from := range []int{math.MinInt, -1, 0, 1, 2, 3, 5, 7, most - 2, most, most + 1, math.MaxInt} {
				for _, width := range widths {
					checkLine(t, b, l, from, width)
				}
			}
		}
	})
	eachLine(4, func(b []byte) {
		for _, width := range []int{1, 12, 20, 54} {
			checkLine(t, b, rs(2, 1, 3, 2, 2, 3, 1, 5), 1, width)
		}
	})
	for _, n := range around(120) {
		for _, s := range []string{"", "a", "ab cd", "\ta b\xffcd\xe2\x82\xac\t ef"} {
			checkLine(t, []byte(s), rs(3, 1, 4, 2, 5, 3), 0, n)
			checkLine(t, []byte(s), rs(3, 1, 4, 2, 5, 3), n, 30)
		}
	}
}

// P19.1: long lines of words, of blanks alone, and without any, of one row and of many.
func TestLongLines(t *testing.T) {
	const n = 1 << 18
	l := rs(n/4, 1, n/4, 2, n/4, 3, n/2, 5)
	for _, s := range []string{"abc de ", "a", " ", "\t", "\xc3\xa9x\xff y"} {
		b := bytes.Repeat([]byte(s), n/len(s))
		for _, width := range []int{1, 50, 1000, math.MaxInt} {
			got := checkLine(t, b, l, 0, width)
			for i, r := range got {
				if r.Last != (i == len(got)-1) || i > 0 && r.From != got[i-1].To {
					t.Fatalf("the row %d of %d, of %q in %d, goes from %d to %d", i, len(got), s, width, r.From, r.To)
				}
			}
		}
	}
}

// P19.1: Height of all that a row may reach up and down, and of what it may not.
func TestHeight(t *testing.T) {
	for _, c := range [][3]int{
		{7, 2, 9}, {14, 3, 17}, {0, 0, 0}, {0, 5, 5}, {5, 0, 5}, {1, 1, 2},
		{-1, 5, 0}, {5, -1, 0}, {-1, -1, 0}, {-5, 9, 0}, {9, -5, 0},
		{highest, 0, highest}, {0, highest, highest}, {highest, highest, 2 * highest}, {highest - 1, highest, 2*highest - 1},
		{highest + 1, 0, 0}, {0, highest + 1, 0}, {highest + 1, 5, 0}, {5, highest + 1, 0}, {highest + 1, -1, 0}, {-1, highest, 0}, {highest, -1, 0}, {highest + 1, -highest - 1, 0},
		{math.MinInt, math.MinInt, 0}, {math.MaxInt, math.MaxInt, 0}, {math.MaxInt, math.MinInt, 0}, {math.MinInt, math.MaxInt, 0}, {math.MaxInt, 1, 0}, {1, math.MaxInt, 0}, {math.MinInt, 1, 0}, {1, math.MinInt, 0},
	} {
		if h := Height(tall(c[0], c[1])); h != c[2] {
			t.Errorf("Height of %d and %d is %d, want %d", c[0], c[1], h, c[2])
		}
	}
	some := append(around(20), highest-1, highest, highest+1, highest+2, -highest, 2*highest, 1<<32+7, 1<<32-1)
	for _, up := range some {
		for _, down := range some {
			want := up + down
			if up < 0 || up > highest || down < 0 || down > highest {
				want = 0
			}
			if h := Height(tall(up, down)); h != want {
				t.Errorf("Height of %d and %d is %d, want %d", up, down, h, want)
			}
		}
	}
}

// P19.1: Height is of Up and Down alone.
func TestHeightOfAnyRow(t *testing.T) {
	for _, n := range around(10) {
		r := api.Laid{Cells: cs(n, n, n, n), Xs: ns(n, -n, n), Up: 7, Down: 2, From: n, To: -n, Last: n%2 == 0}
		if h := Height(r); h != 9 {
			t.Errorf("Height of %v is %d", r, h)
		}
	}
	for _, r := range Line([]byte("ab cd"), rs(3, 2), 0, 36) {
		if Height(r) != r.Up+r.Down || Height(r) == 0 {
			t.Errorf("Height of %v is %d", r, Height(r))
		}
	}
}

// P19.1: Sum of none, of one, of several, and of such as have no height among others.
func TestSum(t *testing.T) {
	for _, c := range []struct {
		l    []api.Laid
		want int
	}{
		{nil, 0}, {[]api.Laid{}, 0}, {talls(7, 2), 9}, {talls(0, 0), 0}, {talls(7, 2, 14, 3), 26}, {talls(7, 2, 7, 2, 7, 2), 27},
		{talls(-1, 2), 0}, {talls(7, 2, -1, 2, 14, 3), 26}, {talls(-9, 2, 7, 2), 9}, {talls(7, 2, 3, -9), 9}, {talls(7, 2, highest+1, 3), 9}, {talls(7, 2, math.MinInt, math.MinInt, math.MaxInt, math.MaxInt, 1, 1), 11},
		{talls(highest, highest, highest, highest, highest, highest), 6 * highest}, {slices.Repeat(talls(highest, highest), 5000), 10000 * highest},
		{Line(nil, nil, 0, 5), 9}, {Line([]byte("ab cd"), rs(3, 2), 0, 36), 26}, {Line(bytes.Repeat([]byte("a"), 1000), nil, 0, 6), 9000},
	} {
		if s := Sum(c.l); s != c.want {
			t.Errorf("Sum of %d rows is %d, want %d", len(c.l), s, c.want)
		}
	}
}

// P19.2: Row, as it stands.
func TestRowByHand(t *testing.T) {
	three := talls(7, 2, 14, 3, 7, 2)
	gaps := talls(0, 0, 7, 2, -1, 5, 0, 0, 4, 4, 9, highest+1)
	for _, c := range []struct {
		l         []api.Laid
		y, k, top int
	}{
		{nil, 0, -1, 0}, {nil, -1, -1, 0}, {nil, 5, -1, 0}, {nil, math.MinInt, -1, 0}, {nil, math.MaxInt, -1, 0}, {[]api.Laid{}, 7, -1, 0},
		{talls(7, 2), 0, 0, 0}, {talls(7, 2), 8, 0, 0}, {talls(7, 2), 9, 0, 0}, {talls(7, 2), -1, 0, 0}, {talls(7, 2), math.MinInt, 0, 0}, {talls(7, 2), math.MaxInt, 0, 0},
		{three, math.MinInt, 0, 0}, {three, -9, 0, 0}, {three, -1, 0, 0}, {three, 0, 0, 0}, {three, 1, 0, 0}, {three, 8, 0, 0},
		{three, 9, 1, 9}, {three, 10, 1, 9}, {three, 25, 1, 9}, {three, 26, 2, 26}, {three, 34, 2, 26}, {three, 35, 2, 26}, {three, 36, 2, 26}, {three, 1 << 32, 2, 26}, {three, math.MaxInt, 2, 26},
		// rows without height: none has any y
		{talls(0, 0), 0, 0, 0}, {talls(0, 0), -1, 0, 0}, {talls(0, 0), 1, 0, 0}, {talls(0, 0, 0, 0), 0, 1, 0}, {talls(0, 0, 0, 0), -1, 0, 0}, {talls(-1, 0, 0, -1, 0, 0), 0, 2, 0}, {talls(-1, 0, 0, -1, 0, 0), math.MinInt, 0, 0}, {talls(-1, 0, 0, -1, 0, 0), math.MaxInt, 2, 0},
		{gaps, -1, 0, 0}, {gaps, 0, 1, 0}, {gaps, 8, 1, 0}, {gaps, 9, 4, 9}, {gaps, 16, 4, 9}, {gaps, 17, 5, 17}, {gaps, 18, 5, 17}, {gaps, math.MaxInt, 5, 17},
		{talls(7, 2, 0, 0), 8, 0, 0}, {talls(7, 2, 0, 0), 9, 1, 9}, {talls(math.MaxInt, math.MaxInt, 7, 2), 0, 1, 0}, {talls(math.MinInt, math.MinInt, 7, 2), 0, 1, 0}, {talls(math.MaxInt, 1, 7, 2), 100, 1, 0},
		{talls(highest, highest, 7, 2), 2*highest - 1, 0, 0}, {talls(highest, highest, 7, 2), 2 * highest, 1, 2 * highest}, {talls(highest+1, 5, 7, 2), 3, 1, 0},
	} {
		if k, top := Row(c.l, c.y); k != c.k || top != c.top {
			t.Errorf("Row(%v, %d) is %d, %d, want %d, %d", c.l, c.y, k, top, c.k, c.top)
		}
	}
}

// P19.2: all short lists of rows of few heights, with each y.
func TestRowOfAllShortLists(t *testing.T) {
	some := talls(0, 0, 1, 0, 0, 2, 3, 1, -1, 8, 8, -1, highest+1, 2)
	high := ns(0, 1, 2, 4, 0, 0, 0)
	ask := around(20)
	var grow func(l []api.Laid, tops, owner []int)
	grow = func(l []api.Laid, tops, owner []int) {
		for _, y := range ask {
			k, top := -1, 0
			switch {
			case len(l) == 0:
			case y < 0:
				k = 0
			case y < len(owner):
				k, top = owner[y], tops[owner[y]]
			default:
				k, top = len(l)-1, tops[len(l)-1]
			}
			if gotK, gotTop := Row(l, y); gotK != k || gotTop != top {
				t.Fatalf("Row(%v, %d) is %d, %d, want %d, %d", l, y, gotK, gotTop, k, top)
			}
		}
		if len(owner) != Sum(l) {
			t.Fatalf("Sum of %v is %d, want %d", l, Sum(l), len(owner))
		}
		if len(l) == 4 {
			return
		}
		for i, r := range some {
			grow(append(slices.Clone(l), r), append(slices.Clone(tops), len(owner)), append(slices.Clone(owner), slices.Repeat(ns(len(l)), high[i])...))
		}
	}
	grow(nil, nil, nil)
}

// P19.2: Row of a line's rows, whatever else they have.
func TestRowOfLine(t *testing.T) {
	l := Line([]byte("ab cd efghi\tj"), rs(4, 0, 3, 2, 5, 1), 0, 40)
	if len(l) < 4 {
		t.Fatal(l)
	}
	top := 0
	for k, r := range l {
		for y := top; y < top+r.Up+r.Down; y++ {
			if gotK, gotTop := Row(l, y); gotK != k || gotTop != top {
				t.Errorf("Row(.., %d) is %d, %d, want %d, %d", y, gotK, gotTop, k, top)
			}
		}
		top += r.Up + r.Down
	}
}

// checkAt holds At against what is wanted; noughts and false, if k is below 0.
func checkAt(t *testing.T, l []api.Laid, col, k, x int) {
	t.Helper()
	ok := k >= 0
	if !ok {
		k, x = 0, 0
	}
	if gotK, gotX, gotOK := At(l, col); gotK != k || gotX != x || gotOK != ok {
		t.Fatalf("At(%v, %d) is %d, %d, %v, want %d, %d, %v", l, col, gotK, gotX, gotOK, k, x, ok)
	}
}

// P19.3: At of lines, as it stands.
func TestAtByHand(t *testing.T) {
	for _, c := range []struct {
		b     string
		l     []api.Run
		width int
		want  [][3]int
	}{
		{"", nil, 24, [][3]int{{-1, -1, 0}, {0, 0, 0}, {1, -1, 0}}},
		{"ab", nil, 6, [][3]int{{-1, -1, 0}, {0, 0, 0}, {1, 1, 0}, {2, 1, 6}, {3, -1, 0}, {math.MinInt, -1, 0}, {math.MaxInt, -1, 0}, {1 << 32, -1, 0}}},
		{"ab", nil, 12, [][3]int{{0, 0, 0}, {1, 0, 6}, {2, 0, 12}, {3, -1, 0}}},
		{"ab cd", nil, 24, [][3]int{{0, 0, 0}, {1, 0, 6}, {2, 0, 12}, {3, 1, 0}, {4, 1, 6}, {5, 1, 12}, {6, -1, 0}}},
		{"ab ", nil, 12, [][3]int{{1, 0, 6}, {2, 1, 0}, {3, 1, 6}, {4, -1, 0}}},
		{"abcde", nil, 12, [][3]int{{1, 0, 6}, {2, 1, 0}, {3, 1, 6}, {4, 2, 0}, {5, 2, 6}}},
		{"a\tb", nil, 100, [][3]int{{0, 0, 0}, {1, 0, 6}, {2, 0, 48}, {3, 0, 54}}},
		{"a\tb", nil, 48, [][3]int{{1, 0, 6}, {2, 1, 0}, {3, 1, 6}}},
		{"ab", rs(1, 2, 1, 1), 100, [][3]int{{0, 0, 0}, {1, 0, 12}, {2, 0, 19}}},
		// within a rune no caret stands
		{"\xc3\xa9\xe2\x82\xacz", nil, 12, [][3]int{{0, 0, 0}, {1, -1, 0}, {2, 0, 6}, {3, -1, 0}, {4, -1, 0}, {5, 1, 0}, {6, 1, 6}, {7, -1, 0}}},
		{"a\xe2\x82", nil, 12, [][3]int{{0, 0, 0}, {1, 0, 6}, {2, 1, 0}, {3, 1, 6}, {4, -1, 0}}},
	} {
		for _, w := range c.want {
			checkAt(t, Line([]byte(c.b), c.l, 0, c.width), w[0], w[1], w[2])
		}
	}
}

// P19.3: At of rows that no line has, as it stands.
func TestAtOfStrangeRows(t *testing.T) {
	for _, c := range []struct {
		l         []api.Laid
		col, k, x int
	}{
		{nil, 0, -1, 0}, {[]api.Laid{}, 5, -1, 0}, {[]api.Laid{{}}, 0, -1, 0}, {[]api.Laid{{Last: true}}, 0, -1, 0},
		// a place that cells of several rows begin at: the last row's
		{[]api.Laid{{Cells: ats(3, 4), Xs: ns(0, 6, 12)}, {Cells: ats(4, 5), Xs: ns(1, 7, 13)}}, 4, 1, 1}, {[]api.Laid{{Cells: ats(3, 4), Xs: ns(0, 6, 12)}, {Cells: ats(4, 5), Xs: ns(1, 7, 13)}}, 3, 0, 0},
		{[]api.Laid{{Cells: ats(4), Xs: ns(5, 6)}, {Cells: ats(4), Xs: ns(7, 8)}, {Cells: ats(1), Xs: ns(9, 10)}}, 4, 1, 7}, {[]api.Laid{{Cells: ats(4), Xs: ns(5, 6), Last: true}, {Cells: ats(4), Xs: ns(7, 8), Last: true}}, 4, 1, 7},
		{[]api.Laid{{Cells: ats(9, 4), Xs: ns(0, 6, 12)}, {Cells: ats(7, 2), Xs: ns(5, 3, 1)}}, 4, 0, 6}, {[]api.Laid{{Cells: ats(9, 4), Xs: ns(0, 6, 12)}, {Cells: ats(7, 2), Xs: ns(5, 3, 1)}}, 2, 1, 3},
		// To of a row that is not Last, of one that is and lies farther up, of a place at which a cell begins
		{[]api.Laid{{Cells: ats(0), Xs: ns(0, 6), To: 1}}, 1, -1, 0}, {[]api.Laid{{Cells: ats(0), Xs: ns(0, 6), To: 1, Last: true}}, 1, 0, 6}, {[]api.Laid{{Cells: ats(0), Xs: ns(0, 6), To: 1, Last: true}, {Cells: ats(5), Xs: ns(0, 9), To: 1}}, 1, 0, 6},
		{[]api.Laid{{Cells: ats(8), Xs: ns(4, 6)}, {Cells: ats(0), Xs: ns(0, 6), To: 8, Last: true}}, 8, 0, 4}, {[]api.Laid{{Cells: ats(8), Xs: ns(4, 6), To: 8, Last: true}}, 8, 0, 4}, {[]api.Laid{{Cells: ats(8), Xs: ns(4, 6), To: 8, Last: true}, {Cells: ats(1), Xs: ns(0, 3), To: 2}}, 8, 0, 4},
		{[]api.Laid{{Xs: ns(5), To: 2, Last: true}}, 2, 0, 5}, {[]api.Laid{{Xs: ns(5), From: 2, To: 3}}, 2, -1, 0}, {[]api.Laid{{Xs: ns(5), From: 2, To: 3, Last: true}}, 2, -1, 0},
		// Xs that are fewer than the cells, and one: what has no x there is left out
		{[]api.Laid{{Cells: ats(0, 1, 2), Xs: ns(0, 6)}}, 1, 0, 6}, {[]api.Laid{{Cells: ats(0, 1, 2), Xs: ns(0, 6)}}, 2, -1, 0}, {[]api.Laid{{Cells: ats(0, 1, 2), Xs: ns(0, 6, 12)}}, 2, 0, 12}, {[]api.Laid{{Cells: ats(0, 1, 2)}}, 0, -1, 0},
		{[]api.Laid{{Cells: ats(0, 1), Xs: ns(0, 6), To: 2, Last: true}}, 2, -1, 0}, {[]api.Laid{{Cells: ats(0, 1), Xs: ns(0), To: 2, Last: true}}, 2, -1, 0}, {[]api.Laid{{Cells: ats(0, 1), To: 2, Last: true}}, 2, -1, 0}, {[]api.Laid{{To: 2, Last: true}}, 2, -1, 0},
		{[]api.Laid{{Cells: ats(0, 3), Xs: ns(0, 6, 12)}, {Cells: ats(1, 3), Xs: ns(0)}}, 3, 0, 6},
		// Xs that are more
		{[]api.Laid{{Cells: ats(0, 1), Xs: ns(0, 6, 12, 18, 24), To: 2, Last: true}}, 2, 0, 12}, {[]api.Laid{{Cells: ats(0, 1), Xs: ns(0, 6, 12, 18, 24), To: 2, Last: true}}, 1, 0, 6}, {[]api.Laid{{Xs: ns(7, 8, 9), To: 2, Last: true}}, 2, 0, 7},
		// numbers far off
		{[]api.Laid{{Cells: ats(math.MinInt, math.MaxInt), Xs: ns(math.MaxInt, math.MinInt)}}, math.MinInt, 0, math.MaxInt}, {[]api.Laid{{Cells: ats(math.MinInt, math.MaxInt), Xs: ns(math.MaxInt, math.MinInt)}}, math.MaxInt, 0, math.MinInt},
		{[]api.Laid{{Cells: ats(-5), Xs: ns(-6, -7), To: -4, Last: true}}, -5, 0, -6}, {[]api.Laid{{Cells: ats(-5), Xs: ns(-6, -7), To: -4, Last: true}}, -4, 0, -7}, {[]api.Laid{{Xs: ns(3), To: math.MinInt, Last: true}}, math.MinInt, 0, 3}, {[]api.Laid{{Cells: ats(1 << 32), Xs: ns(3, 4)}}, 0, -1, 0},
	} {
		checkAt(t, c.l, c.col, c.k, c.x)
	}
}

// atOf is At in the chapter's words: k is -1, if there is nothing.
func atOf(l []api.Laid, col int) (k, x int) {
	k = -1
	for n, r := range l {
		if r.Last && r.To == col && len(r.Xs) > len(r.Cells) {
			k, x = n, r.Xs[len(r.Cells)]
		}
	}
	for n, r := range l {
		for i, c := range r.Cells {
			if c.At == col && i < len(r.Xs) {
				k, x = n, r.Xs[i]
			}
		}
	}
	return k, x
}

// P19.3: At of all pairs of small rows, and of three of few.
func TestAtOfAllSmallRows(t *testing.T) {
	var some, few []api.Laid
	for _, c := range [][]api.Cell{nil, ats(0), ats(1), ats(2), ats(0, 1), ats(1, 0), ats(1, 2), ats(2, 1), ats(2, 0)} {
		for n := range len(c) + 3 {
			for to := range 3 {
				for _, last := range []bool{false, true} {
					r := api.Laid{Cells: c, Xs: ns(7, 9, 8, 3, 4)[:n], From: 1, To: to, Last: last}
					some = append(some, r)
					if len(c) < 2 && n > 0 && n < 3 {
						few = append(few, r)
					}
				}
			}
		}
	}
	check := func(l ...api.Laid) {
		for col := -1; col < 4; col++ {
			k, x := atOf(l, col)
			checkAt(t, l, col, k, x)
		}
	}
	for _, a := range some {
		check(a)
		for _, b := range some {
			check(a, b)
		}
	}
	for _, a := range few {
		for _, b := range few {
			for _, c := range few {
				check(a, b, c)
			}
		}
	}
}

// P19.3: the example of the chapter, and Near beside it.
func TestExample(t *testing.T) {
	l := Line([]byte("ab"), nil, 0, 6)
	if k, x, ok := At(l, 1); k != 1 || x != 0 || !ok {
		t.Error(k, x, ok)
	}
	if Near(l[0], 6) != 0 || Near(l[1], 6) != 2 || Near(l[1], 2) != 1 {
		t.Error(l)
	}
}

// P19.3: Near, as it stands.
func TestNearByHand(t *testing.T) {
	line := Line([]byte("ab\tcd"), nil, 0, 48) // "ab" and a tab, "cd"
	large := Line([]byte("\xc3\xa9x"), rs(3, 2), 0, 100)
	inner := api.Laid{Cells: ats(3, 4), Xs: ns(0, 10, 20), From: 3, To: 5}
	outer := api.Laid{Cells: ats(3, 4), Xs: ns(0, 10, 20), From: 3, To: 5, Last: true}
	for _, c := range []struct {
		r       api.Laid
		x, want int
	}{
		{inner, 0, 3}, {inner, 1, 3}, {inner, 4, 3}, {inner, 5, 3}, {inner, 6, 4}, {inner, 9, 4}, {inner, 10, 4}, {inner, 11, 4}, {inner, 15, 4}, {inner, 20, 4}, {inner, 1000, 4}, {inner, -1, 3}, {inner, -1000, 3}, {inner, math.MinInt, 3}, {inner, math.MaxInt, 4}, {inner, 1 << 32, 4}, {inner, -1 << 32, 3},
		{outer, 0, 3}, {outer, 5, 3}, {outer, 6, 4}, {outer, 10, 4}, {outer, 14, 4}, {outer, 15, 4}, {outer, 16, 5}, {outer, 19, 5}, {outer, 20, 5}, {outer, 21, 5}, {outer, 1000, 5}, {outer, -1, 3}, {outer, math.MinInt, 3}, {outer, math.MaxInt, 5}, {outer, 1 << 32, 5}, {outer, -1 << 32, 3},
		{line[0], 0, 0}, {line[0], 3, 0}, {line[0], 4, 1}, {line[0], 9, 1}, {line[0], 10, 2}, {line[0], 12, 2}, {line[0], 47, 2}, {line[0], 100, 2}, {line[0], -5, 0},
		{line[1], 0, 3}, {line[1], 3, 3}, {line[1], 4, 4}, {line[1], 9, 4}, {line[1], 10, 5}, {line[1], 100, 5},
		{large[0], 6, 0}, {large[0], 7, 2}, {large[0], 18, 2}, {large[0], 19, 3}, {large[0], 24, 3},
		{Line(nil, nil, 0, 9)[0], 5, 0}, {Line(nil, nil, 0, 9)[0], math.MinInt, 0}, {Line(nil, nil, 0, 9)[0], math.MaxInt, 0},
		// rows without places
		{api.Laid{From: 7, To: 9}, 5, 7}, {api.Laid{From: -7}, 0, -7}, {api.Laid{}, 5, 0}, {api.Laid{Xs: ns(5), From: 7, To: 9}, 5, 7}, {api.Laid{Xs: ns(1, 2, 3), From: math.MinInt}, 2, math.MinInt}, {api.Laid{From: math.MaxInt}, math.MinInt, math.MaxInt},
		// a row of one place: of a Last one without cells To
		{api.Laid{Xs: ns(5), From: 7, To: 9, Last: true}, 5, 9}, {api.Laid{Xs: ns(5), From: 7, To: 9, Last: true}, -100, 9}, {api.Laid{Cells: ats(4), Xs: ns(5, 6), From: 7, To: 9}, 1000, 4}, {api.Laid{Cells: ats(4), Xs: ns(5), From: 7, To: 9}, math.MaxInt, 4},
		// two places of the same x, and such as are as near: the less, wherever it lies
		{api.Laid{Cells: ats(4, 5, 6), Xs: ns(0, 8, 8, 8), To: 7, Last: true}, 8, 5}, {api.Laid{Cells: ats(6, 5, 4), Xs: ns(0, 8, 8, 8), To: 7, Last: true}, 8, 4}, {api.Laid{Cells: ats(6, 5, 4), Xs: ns(0, 8, 8, 8), To: 1, Last: true}, 100, 1}, {api.Laid{Cells: ats(6, 5), Xs: ns(0, 8, 8), To: 1}, 8, 5},
		{api.Laid{Cells: ats(6, 5), Xs: ns(0, 10)}, 5, 5}, {api.Laid{Cells: ats(5, 6), Xs: ns(10, 0)}, 5, 5}, {api.Laid{Cells: ats(6, 5), Xs: ns(10, 0)}, 5, 5}, {api.Laid{Cells: ats(-6, -5), Xs: ns(0, 10)}, 5, -6}, {api.Laid{Cells: ats(9), Xs: ns(0, 10), To: 2, Last: true}, 5, 2}, {api.Laid{Cells: ats(9), Xs: ns(0, 10), To: 2, Last: true}, 4, 9},
		// Xs in no order
		{api.Laid{Cells: ats(1, 2, 3), Xs: ns(20, 0, 10)}, 1, 2}, {api.Laid{Cells: ats(1, 2, 3), Xs: ns(20, 0, 10)}, 11, 3}, {api.Laid{Cells: ats(1, 2, 3), Xs: ns(20, 0, 10)}, 16, 1}, {api.Laid{Cells: ats(3, 1, 2), Xs: ns(0, 9, 9)}, 9, 1},
		// Xs that are fewer, and more
		{api.Laid{Cells: ats(1, 2, 3), Xs: ns(0, 6), To: 4, Last: true}, 100, 2}, {api.Laid{Cells: ats(1, 2), Xs: ns(0, 6), To: 3, Last: true}, 100, 2}, {api.Laid{Cells: ats(1, 2), From: 9, To: 3, Last: true}, 100, 9}, {api.Laid{From: 9, To: 3, Last: true}, 100, 9},
		{api.Laid{Cells: ats(1, 2), Xs: ns(0, 6, 12, 18), To: 3}, 18, 2}, {api.Laid{Cells: ats(1, 2), Xs: ns(0, 6, 12, 18), To: 3, Last: true}, 18, 3}, {api.Laid{Cells: ats(1), Xs: ns(50, 0, 0, 0), To: 3}, 0, 1},
		// numbers whose difference is no int
		{api.Laid{Cells: ats(1, 2), Xs: ns(math.MinInt, math.MaxInt)}, -1, 1}, {api.Laid{Cells: ats(1, 2), Xs: ns(math.MinInt, math.MaxInt)}, 0, 2}, {api.Laid{Cells: ats(1, 2), Xs: ns(math.MinInt, math.MaxInt)}, math.MaxInt, 2}, {api.Laid{Cells: ats(1, 2), Xs: ns(math.MinInt, math.MaxInt)}, math.MinInt, 1},
		{api.Laid{Cells: ats(1, 2), Xs: ns(0, math.MaxInt)}, math.MinInt, 1}, {api.Laid{Cells: ats(1, 2), Xs: ns(math.MaxInt, 0)}, math.MinInt, 2}, {api.Laid{Cells: ats(1, 2), Xs: ns(math.MinInt, 0)}, math.MaxInt, 2}, {api.Laid{Cells: ats(1), Xs: ns(math.MaxInt)}, math.MinInt, 1}, {api.Laid{Cells: ats(1), Xs: ns(math.MinInt), From: 8}, math.MaxInt, 1},
		{api.Laid{Cells: ats(math.MaxInt, math.MinInt), Xs: ns(3, 3)}, 3, math.MinInt}, {api.Laid{Cells: ats(math.MinInt, math.MaxInt), Xs: ns(3, 3)}, 3, math.MinInt}, {api.Laid{Cells: ats(math.MinInt, math.MaxInt), Xs: ns(3, 4)}, 4, math.MaxInt},
	} {
		if at := Near(c.r, c.x); at != c.want {
			t.Errorf("Near(%v, %d) is %d, want %d", c.r, c.x, at, c.want)
		}
	}
}

// nearOf is Near in the chapter's words, by numbers without bounds.
func nearOf(r api.Laid, x int) int {
	ends := slices.Clone(r.Cells)
	if r.Last {
		ends = append(ends, api.Cell{At: r.To})
	}
	near, found := r.From, false
	least := new(big.Int)
	for i, c := range ends {
		if i >= len(r.Xs) {
			break
		}
		d := new(big.Int).Sub(big.NewInt(int64(r.Xs[i])), big.NewInt(int64(x)))
		d.Abs(d)
		if n := d.Cmp(least); !found || n < 0 || n == 0 && c.At < near {
			near, least, found = c.At, d, true
		}
	}
	return near
}

// P19.3: Near of all small rows, with xs near and far, in any order, more and fewer than there are cells.
func TestNearOfAllSmallRows(t *testing.T) {
	lists := [][]int{nil}
	for i := 0; i < len(lists); i++ {
		if len(lists[i]) < 3 {
			for _, x := range []int{0, 4, 5, -1, math.MinInt, math.MaxInt} {
				lists = append(lists, append(slices.Clone(lists[i]), x))
			}
		}
	}
	ask := []int{-2, -1, 0, 1, 2, 3, 4, 5, 6, 100, math.MinInt, math.MinInt + 1, math.MinInt / 2, math.MaxInt / 2, math.MaxInt - 1, math.MaxInt}
	for _, xs := range lists {
		for _, c := range [][]api.Cell{nil, ats(2), ats(9), ats(2, 9), ats(9, 2), ats(-3, 7), ats(9, 2, 5), ats(2, 5, 9)} {
			for _, to := range []int{0, 5, 10} {
				for _, last := range []bool{false, true} {
					r := api.Laid{Cells: c, Xs: xs, From: 1, To: to, Last: last}
					for _, x := range ask {
						if got, want := Near(r, x), nearOf(r, x); got != want {
							t.Fatalf("Near(%v, %d) is %d, want %d", r, x, got, want)
						}
					}
				}
			}
		}
	}
}

// placesOf are where carets stand in a line's row, in the chapter's words.
func placesOf(r api.Laid) []int {
	var l []int
	for _, c := range r.Cells {
		l = append(l, c.At)
	}
	if r.Last {
		l = append(l, r.To)
	}
	return l
}

// checkBack holds what comes to it, of a line's rows: Near of what At tells of a place is the place; other places are not told.
func checkBack(t *testing.T, l []api.Laid, n int) {
	t.Helper()
	told := map[int]int{}
	for k, r := range l {
		for i, col := range placesOf(r) {
			told[col] = k
			checkAt(t, l, col, k, r.Xs[i])
			if slices.Index(r.Xs, r.Xs[i]) != i || slices.Contains(r.Xs[i+1:], r.Xs[i]) {
				continue
			}
			if got := Near(r, r.Xs[i]); got != col {
				t.Fatalf("Near of the row %d of %v is %d at %d, want %d", k, l, got, r.Xs[i], col)
			}
		}
	}
	for col := -2; col < n+3; col++ {
		if _, ok := told[col]; !ok {
			checkAt(t, l, col, -1, 0)
		}
	}
}

// P19.4: all short lines, in all widths that break them otherwise, and all xs of them.
func TestThereAndBack(t *testing.T) {
	eachLine(4, func(b []byte) {
		for _, width := range []int{1, 12, 20, 50, 100, 1000} {
			l := Line(b, rs(1, 2, 2, 0, 2, 1, 1, 5), 0, width)
			checkBack(t, l, len(b))
		}
	})
	eachLine(3, func(b []byte) {
		for _, width := range []int{1, 20, 100} {
			for _, r := range Line(b, rs(1, 2, 2, 0, 2, 1), 0, width) {
				for x := -2; x < r.Xs[len(r.Xs)-1]+3; x++ {
					if got, want := Near(r, x), nearOf(r, x); got != want {
						t.Fatalf("Near(%v, %d) is %d, want %d", r, x, got, want)
					}
				}
			}
		}
	})
	b := []byte(strings.Repeat("ab\tc d\xc3\xa9 \xffefg ", 60))
	for _, width := range around(300) {
		checkBack(t, Line(b, rs(100, 1, 100, 2, 100, 3, 100, 5), 0, width), len(b))
	}
}

// P19.4: where two places have the same x, Near of what At tells of them is the less one of both.
func TestThereAndBackOfTheSameX(t *testing.T) {
	l := []api.Laid{{Cells: ats(0, 1, 2, 3), Xs: ns(0, 6, 6, 12, 12), To: 4, Last: true}}
	for col, want := range []int{0, 1, 1, 3, 3} {
		k, x, ok := At(l, col)
		if k != 0 || !ok || Near(l[0], x) != want {
			t.Errorf("of %d At is %d, %d, %v, and Near %d, want %d", col, k, x, ok, Near(l[0], x), want)
		}
	}
}

// P19.1 to P19.3: what is handed in stays as it was, its spare room included, and none of it is in what is told.
func TestMemoryOfWhatComesIn(t *testing.T) {
	b, l := []byte("ab c\xc3\xa9\td\xff spare room"), rs(2, 5, 1, 5, 0, 3, 3, 1, 9, 24, 1, 7, 5, 8, 8, 9)
	keptB, keptL := bytes.Clone(b), slices.Clone(l)
	line, styles := b[:9:len(b)], l[:6:len(l)]
	rows := Line(line, styles, 1, 40)
	for i := range rows {
		rows[i].Cells, rows[i].Xs = append(rows[i].Cells, ats(70, 71)...)[:len(rows[i].Cells)], append(rows[i].Xs, 80, 81)[:len(rows[i].Xs)]
	}
	all := append(rows, api.Laid{Up: 1000, Down: 1000}, api.Laid{Up: 2000})
	some := all[:len(rows)]
	spare := func(l []api.Laid) []api.Laid {
		l = slices.Clone(l)
		for i, r := range l {
			l[i].Cells, l[i].Xs = slices.Clone(r.Cells[:cap(r.Cells)]), slices.Clone(r.Xs[:cap(r.Xs)])
		}
		return l
	}
	kept := spare(all)
	for range 2 {
		Line(line, styles, 1, 40)
		Sum(some)
		for n := -2; n < 100; n++ {
			Row(some, n)
			At(some, n)
			for _, r := range some {
				Near(r, n)
				Height(r)
			}
		}
		if !bytes.Equal(b, keptB) || !slices.Equal(l, keptL) || !slices.EqualFunc(spare(all), kept, same) {
			t.Fatalf("%x, %v, %v are now %x, %v, %v", keptB, keptL, kept, b, l, spare(all))
		}
	}
	got := Line(line, styles, 1, 40)
	want := clone(got)
	for i := range b {
		b[i] = '?'
	}
	for i := range l {
		l[i] = api.Run{Len: 9, Style: 9}
	}
	if len(got) < 2 || !slices.EqualFunc(got, want, same) {
		t.Errorf("what was told is now %v", got)
	}
}

// P19.1: what is told is new each time: no list of it is in any other one, its spare room included.
func TestMemoryOfWhatIsTold(t *testing.T) {
	for _, b := range []string{"", "a", "ab cd", "abc de\tf\xc3\xa9 gh ij"} {
		for _, width := range []int{1, 24, 54, 1000} {
			l := rs(2, 5, 3, 6, 9, 7)
			want := told([]byte(b), l, 0, width)
			first, second := Line([]byte(b), l, 0, width), Line([]byte(b), l, 0, width)
			kept := clone(first)
			for k := range first {
				c, xs := first[k].Cells, first[k].Xs
				for i := range c[:cap(c)] {
					c[:cap(c)][i] = api.Cell{At: -1, N: -1, Rune: -1, Style: -1}
				}
				for i := range xs[:cap(xs)] {
					xs[:cap(xs)][i] = -1
				}
				if !slices.EqualFunc(first[k+1:], kept[k+1:], same) {
					t.Fatalf("of %q in %d the rows behind %d are now %v", b, width, k, first[k+1:])
				}
			}
			for k := range first[:cap(first)] {
				first[:cap(first)][k] = api.Laid{From: -1, To: -1, Up: -1, Down: -1}
			}
			if !slices.EqualFunc(second, want, same) || !slices.EqualFunc(Line([]byte(b), l, 0, width), want, same) {
				t.Errorf("Line(%q, .., %d) is now %v, %v", b, width, second, Line([]byte(b), l, 0, width))
			}
		}
	}
}

// P19.1: no row's list has another one's behind it, so that it may be lengthened without a trace.
func TestMemoryOfLongerRows(t *testing.T) {
	l := Line([]byte("ab cd ef gh"), nil, 0, 18)
	want := clone(l)
	for i := range l {
		_ = append(l[i].Cells, ats(99, 99, 99)...)
		_ = append(l[i].Xs, 99, 99, 99)
	}
	if len(l) != 4 || !slices.EqualFunc(l, want, same) {
		t.Errorf("%v, want %v", l, want)
	}
}
