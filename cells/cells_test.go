package cells

import (
	"bytes"
	"math"
	"slices"
	"strings"
	"testing"
	"unicode/utf8"

	"scrivener/api"
)

const (
	most = 1 << 24
	high = 1 << 30
)

// far are numbers far below and far above all that is a place, and such that sums of them wrap round.
var far = []int{
	math.MinInt, math.MinInt + 1, math.MinInt + 5, math.MinInt / 2, -1 << 32, 1 - 1<<32, -1 << 31, -high, -most,
	1 << 31, 1 << 32, 1<<32 + 1, math.MaxInt / 2, math.MaxInt/2 + 1, math.MaxInt - 47, math.MaxInt - 5, math.MaxInt - 1, math.MaxInt,
}

// around are the numbers from -3 to n, and those far off.
func around(n int) []int {
	l := slices.Clone(far)
	for i := -3; i <= n; i++ {
		l = append(l, i)
	}
	return l
}

// rs is runs of numbers, two of each: how long, and of which style.
func rs(n ...int) []api.Run {
	var l []api.Run
	for i := 0; i < len(n); i += 2 {
		l = append(l, api.Run{Len: n[i], Style: n[i+1]})
	}
	return l
}

// cs is cells of numbers, four of each: At, N, Rune, Style.
func cs(n ...int) []api.Cell {
	var l []api.Cell
	for i := 0; i < len(n); i += 4 {
		l = append(l, api.Cell{At: n[i], N: n[i+1], Rune: rune(n[i+2]), Style: n[i+3]})
	}
	return l
}

// ps is cells of numbers, two of each: At, N.
func ps(n ...int) []api.Cell {
	var l []api.Cell
	for i := 0; i < len(n); i += 2 {
		l = append(l, api.Cell{At: n[i], N: n[i+1]})
	}
	return l
}

// styled are cells of runes, all of one style.
func styled(style int, runes ...rune) []api.Cell {
	var l []api.Cell
	for _, r := range runes {
		l = append(l, api.Cell{Rune: r, Style: style})
	}
	return l
}

// styleAt is runs.At in that chapter's words: each byte of the runs that are good by themselves is counted.
func styleAt(l []api.Run, i int) int {
	all, style := 0, 0
	for _, r := range l {
		if r.Len < 1 || r.Len > most || r.Style < 0 || r.Style > 23 {
			continue
		}
		if i >= all && i < all+r.Len {
			style = r.Style
		}
		all += r.Len
	}
	if all > most {
		return 0
	}
	return style
}

// told is Of in the chapter's words: runes by Go's own reader of UTF-8, styles each by itself.
func told(b []byte, l []api.Run, from int) []api.Cell {
	var out []api.Cell
	for at := 0; at < len(b); {
		r, n := utf8.DecodeRune(b[at:])
		style := 0
		if from >= 0 && from <= most {
			style = styleAt(l, from+at)
		}
		out = append(out, api.Cell{At: at, N: n, Rune: r, Style: style})
		at += n
	}
	return out
}

// pieces are what short lines are made of: runes of one to four bytes, bytes that are none, and runes that are cut.
var pieces = []string{"a", " ", "\t", "\n", "\x00", "\xc3\xa9", "\xe2\x82\xac", "\xef\xbf\xbd", "\xf0\x9d\x84\x9e", "\xff", "\xa9", "\xc3", "\xe2\x82", "\xf0\x9d\x84", "\xed\xa0\x80", "\xc0\x80"}

// eachLine calls do with each line of up to n pieces.
func eachLine(n int, do func(b []byte)) {
	var grow func(b []byte, n int)
	grow = func(b []byte, n int) {
		do(b)
		if n > 0 {
			for _, p := range pieces {
				grow(append(slices.Clone(b), p...), n-1)
			}
		}
	}
	grow(nil, n)
}

// clothes are runs of all kinds: none, long and short ones, such as change within runes, such as are not good, such as are too many.
func clothes() [][]api.Run {
	return [][]api.Run{
		nil, {}, rs(1, 5), rs(2, 5), rs(2, 5, 3, 6), rs(3, 6, 2, 0, 2, 23), rs(100, 7), rs(1, 1, 1, 2, 1, 3, 1, 4, 1, 5, 1, 6, 1, 7, 1, 8, 1, 9, 1, 10, 1, 11, 1, 12, 1, 13),
		rs(0, 5), rs(3, 24), rs(3, -1), rs(-1, 5), rs(most+1, 5), rs(math.MaxInt, 5, 2, 6), rs(math.MinInt, 5, 2, 6), rs(2, math.MaxInt, 2, math.MinInt, 2, 4),
		rs(1, 5, 1, 5, 1, 6), rs(1, 5, 0, 7, 1, 24, 2, 6, -9, 6, 1, 5), rs(2, 24, 2, 9, most+1, 3, 2, 8),
		rs(most, 7), rs(most-2, 7, 2, 8), rs(most-3, 7, 1, 8, 1, 9), rs(2, 3, most-2, 4), rs(most, 7, 1, 8), rs(1, 8, most, 7), rs(most, 7, most, 8, most, 9),
	}
}

// checkOf holds Of against the chapter's words.
func checkOf(t *testing.T, b []byte, l []api.Run, from int) {
	t.Helper()
	if got, want := Of(b, l, from), told(b, l, from); !slices.Equal(got, want) {
		t.Fatalf("Of(%x, %v, %d) is %v, want %v", b, l, from, got, want)
	}
}

// P17.1, P17.2: what the limits are, upon which the edges below stand.
func TestLimits(t *testing.T) {
	if api.MaxText != most || api.MaxStyle != 23 || api.Tab != 48 || api.Column != 6 || api.Faces != 3 {
		t.Error("limits")
	}
}

// P17.1: Of of bytes of all kinds, as it stands.
func TestOfByHand(t *testing.T) {
	for _, c := range []struct {
		b    string
		want []api.Cell
	}{
		{"", nil},
		{"a", cs(0, 1, 'a', 0)},
		{"a\tb ", cs(0, 1, 'a', 0, 1, 1, 9, 0, 2, 1, 'b', 0, 3, 1, 0x20, 0)},
		{"\x00\n\x7f", cs(0, 1, 0, 0, 1, 1, 10, 0, 2, 1, 0x7f, 0)},
		{"\xc3\xa9", cs(0, 2, 0xe9, 0)}, {"\xe2\x82\xac", cs(0, 3, 0x20ac, 0)}, {"\xf0\x9d\x84\x9e", cs(0, 4, 0x1d11e, 0)}, {"\xf4\x8f\xbf\xbf", cs(0, 4, 0x10ffff, 0)},
		{"a\xc3\xa9\xe2\x82\xac\xf0\x9d\x84\x9ez", cs(0, 1, 'a', 0, 1, 2, 0xe9, 0, 3, 3, 0x20ac, 0, 6, 4, 0x1d11e, 0, 10, 1, 'z', 0)},
		{"\xef\xbf\xbd", cs(0, 3, 0xfffd, 0)},
		{"\xff", cs(0, 1, 0xfffd, 0)}, {"\xa9", cs(0, 1, 0xfffd, 0)}, {"a\xffb", cs(0, 1, 'a', 0, 1, 1, 0xfffd, 0, 2, 1, 'b', 0)},
		{"\xc0\x80", cs(0, 1, 0xfffd, 0, 1, 1, 0xfffd, 0)}, {"\xed\xa0\x80", cs(0, 1, 0xfffd, 0, 1, 1, 0xfffd, 0, 2, 1, 0xfffd, 0)},
		{"a\xc3", cs(0, 1, 'a', 0, 1, 1, 0xfffd, 0)}, {"\xe2\x82", cs(0, 1, 0xfffd, 0, 1, 1, 0xfffd, 0)},
		{"z\xf0\x9d\x84", cs(0, 1, 'z', 0, 1, 1, 0xfffd, 0, 2, 1, 0xfffd, 0, 3, 1, 0xfffd, 0)},
		{"\xc3a", cs(0, 1, 0xfffd, 0, 1, 1, 'a', 0)}, {"\xe2\x82\xc3\xa9", cs(0, 1, 0xfffd, 0, 1, 1, 0xfffd, 0, 2, 2, 0xe9, 0)},
	} {
		if got := Of([]byte(c.b), nil, 0); !slices.Equal(got, c.want) {
			t.Errorf("Of(%x) is %v, want %v", c.b, got, c.want)
		}
	}
}

// P17.1: which style each cell has, as it stands.
func TestStylesByHand(t *testing.T) {
	runes := "\xc3\xa9\xe2\x82\xac\xf0\x9d\x84\x9eab"
	for _, c := range []struct {
		b    string
		l    []api.Run
		from int
		want []int
	}{
		{"", rs(3, 5), 0, nil}, {"", nil, -1, nil}, {"", rs(3, 5), most, nil}, {"", rs(3, 5), math.MaxInt, nil},
		{"abcd", nil, 0, []int{0, 0, 0, 0}}, {"abcd", rs(4, 5), 0, []int{5, 5, 5, 5}}, {"abcd", rs(9, 23), 0, []int{23, 23, 23, 23}},
		{"abcd", rs(2, 5, 1, 6, 1, 7), 0, []int{5, 5, 6, 7}}, {"abcd", rs(1, 5, 1, 0, 2, 7), 0, []int{5, 0, 7, 7}},
		{"abcd", rs(2, 5), 0, []int{5, 5, 0, 0}}, {"abcd", rs(1, 5, 1, 6), 1, []int{6, 0, 0, 0}},
		{"abcd", rs(2, 5, 3, 6), 1, []int{5, 6, 6, 6}}, {"abcd", rs(2, 5, 3, 6), 2, []int{6, 6, 6, 0}}, {"abcd", rs(2, 5, 3, 6), 4, []int{6, 0, 0, 0}},
		{"abcd", rs(2, 5, 3, 6), 5, []int{0, 0, 0, 0}}, {"abcd", rs(2, 5, 3, 6), 6, []int{0, 0, 0, 0}}, {"abcd", rs(2, 5, 3, 6), 1000, []int{0, 0, 0, 0}},
		{"abcd", rs(2, 5, 3, 6), -1, []int{0, 0, 0, 0}}, {"abcd", rs(2, 5, 3, 6), -3, []int{0, 0, 0, 0}}, {"abcd", rs(2, 5, 3, 6), -4, []int{0, 0, 0, 0}}, {"abcd", rs(2, 5), math.MinInt, []int{0, 0, 0, 0}}, {"abcd", rs(2, 5), math.MaxInt, []int{0, 0, 0, 0}},
		{runes, rs(1, 1, 1, 2, 1, 3, 1, 4, 1, 5, 1, 6, 1, 7, 1, 8, 1, 9, 1, 10, 1, 11), 0, []int{1, 3, 6, 10, 11}},
		{runes, rs(1, 1, 1, 2, 1, 3, 1, 4, 1, 5, 1, 6, 1, 7, 1, 8, 1, 9, 1, 10, 1, 11), 1, []int{2, 4, 7, 11, 0}},
		{runes, rs(1, 1, 9, 2, 1, 3), 0, []int{1, 2, 2, 2, 3}}, {runes, rs(3, 1, 1, 2, 6, 3), 0, []int{1, 1, 3, 3, 0}}, {runes, rs(5, 4, 4, 5), 0, []int{4, 4, 5, 0, 0}}, {runes, rs(6, 4, 4, 5), 0, []int{4, 4, 4, 5, 0}}, {runes, rs(2, 4), 0, []int{4, 0, 0, 0, 0}},
		{"abcd", rs(1, 5, 1, 5, 0, 9, 1, 24, 1, 6, -3, 2, 1, 7), 0, []int{5, 5, 6, 7}}, {"abcd", rs(0, 5, 1, 24, -1, 3), 0, []int{0, 0, 0, 0}}, {"abcd", rs(1, 24, 1, -1, 2, 8), 0, []int{8, 8, 0, 0}},
		{"abcd", rs(most, 7, 1, 8), 0, []int{0, 0, 0, 0}}, {"abcd", rs(1, 8, most, 7), 0, []int{0, 0, 0, 0}}, {"abcd", rs(most+1, 7, 1, 8), 0, []int{8, 0, 0, 0}}, {"abcd", rs(math.MaxInt, 7, math.MaxInt, 7, 2, 8), 0, []int{8, 8, 0, 0}},
		{"abcd", rs(most, 7), most - 4, []int{7, 7, 7, 7}}, {"abcd", rs(most, 7), most - 2, []int{7, 7, 0, 0}}, {"abcd", rs(most-1, 7, 1, 8), most - 2, []int{7, 8, 0, 0}},
		{"abcd", rs(most, 7), most - 1, []int{7, 0, 0, 0}}, {"abcd", rs(most, 7), most, []int{0, 0, 0, 0}}, {"abcd", rs(most, 7), most + 1, []int{0, 0, 0, 0}}, {"abcd", rs(most, 7), -1, []int{0, 0, 0, 0}}, {"abcd", rs(most, 7), 1 << 32, []int{0, 0, 0, 0}},
	} {
		var got []int
		for _, d := range Of([]byte(c.b), c.l, c.from) {
			got = append(got, d.Style)
		}
		if !slices.Equal(got, c.want) {
			t.Errorf("the styles of Of(%x, %v, %d) are %v, want %v", c.b, c.l, c.from, got, c.want)
		}
	}
}

// P17.1: all short lines, with runs of all kinds, from all places.
func TestOfAllShortLines(t *testing.T) {
	froms := append(around(14), most-6, most-5, most-4, most-3, most-2, most-1, most, most+1, most+2)
	eachLine(2, func(b []byte) {
		for _, l := range clothes() {
			for _, from := range froms {
				checkOf(t, b, l, from)
			}
		}
	})
	eachLine(4, func(b []byte) {
		l := rs(1, 1, 1, 2, 1, 3, 2, 4, 1, 5, 3, 6, 1, 7)
		for from := -2; from < 10; from++ {
			checkOf(t, b, l, from)
		}
	})
}

// P17.1: a line that alone is longer than a text may be, of as many runs as there may be: all of it is gone through once.
func TestOfTheLongestLine(t *testing.T) {
	const each = most / api.MaxRuns
	var l []api.Run
	for i := range api.MaxRuns {
		l = append(l, api.Run{Len: each, Style: (i + 1) % 24})
	}
	got := Of(bytes.Repeat([]byte("ab\xc3\xa9"), most/4+2), l, 0)
	if len(got) != most/4*3+6 {
		t.Fatalf("%d cells", len(got))
	}
	for i, c := range got {
		want := [3]api.Cell{{At: i / 3 * 4, N: 1, Rune: 'a'}, {At: i/3*4 + 1, N: 1, Rune: 'b'}, {At: i/3*4 + 2, N: 2, Rune: 0xe9}}[i%3]
		if want.At < most {
			want.Style = (want.At/each + 1) % 24
		}
		if c != want {
			t.Fatalf("cell %d is %v, want %v", i, c, want)
		}
	}
}

// P17.2: Blank and Show of all runes, of those that are none, and of numbers below 0.
func TestBlankAndShow(t *testing.T) {
	check := func(r rune) {
		c := api.Cell{At: 3, N: 1, Rune: r, Style: 5}
		if want := r == 32 || r == 9; Blank(c) != want {
			t.Errorf("Blank of %x is %v", r, !want)
		}
		want := r
		if r == 9 {
			want = 32
		}
		if s := Show(c); s != want {
			t.Errorf("Show of %x is %x, want %x", r, s, want)
		}
	}
	for r := rune(-0x1000); r < 0x120000; r++ {
		check(r)
	}
	for _, r := range []rune{math.MinInt32, math.MinInt32 + 1, -0x7fffffe0, -0x7ffffff7, -0x10000, 0x1000020, 0x1000009, 0x40000009, 0x40000020, math.MaxInt32 - 1, math.MaxInt32} {
		check(r)
	}
}

// P17.2: Blank and Show are of the rune alone.
func TestBlankAndShowOfAnyCell(t *testing.T) {
	for _, n := range around(25) {
		for _, r := range []rune{9, 32, 'a', 0, -1} {
			c := api.Cell{At: n, N: n, Rune: r, Style: n}
			if Blank(c) != (r == 9 || r == 32) {
				t.Errorf("Blank of %v is %v", c, Blank(c))
			}
			if s := Show(c); s != r && (r != 9 || s != 32) {
				t.Errorf("Show of %v is %x", c, s)
			}
		}
	}
}

// P17.2: how wide a tab is, as it stands.
func TestWidthOfTabByHand(t *testing.T) {
	for _, c := range [][2]int{
		{0, 48}, {1, 47}, {6, 42}, {46, 2}, {47, 1}, {48, 48}, {49, 47}, {95, 1}, {96, 48}, {97, 47}, {48 * 1000, 48}, {48*1000 - 1, 1}, {48*1000 + 1, 47},
		{-1, 0}, {-2, 0}, {-47, 0}, {-48, 0}, {-49, 0}, {-96, 0}, {math.MinInt, 0}, {math.MinInt + 1, 0}, {-high, 0}, {-1 << 32, 0},
		{high - 17, 1}, {high - 16, 48}, {high - 15, 47}, {high - 1, 33}, {high, 32}, {high + 1, 0}, {high + 2, 0}, {high + 31, 0}, {high + 32, 0}, {high + 33, 0}, {2 * high, 0},
		{1 << 31, 0}, {1 << 32, 0}, {1<<32 + 1, 0}, {math.MaxInt, 0}, {math.MaxInt - 1, 0}, {math.MaxInt - 48, 0},
	} {
		if w := Width(api.Cell{At: 7, N: 1, Rune: 9}, c[0]); w != c[1] {
			t.Errorf("Width of a tab at %d is %d, want %d", c[0], w, c[1])
		}
	}
}

// P17.2: a tab reaches to the least tab stop behind it, whatever its style.
func TestWidthOfTabs(t *testing.T) {
	places := around(2000)
	for d := -200; d <= 200; d++ {
		places = append(places, high+d)
	}
	for _, style := range around(30) {
		for _, x := range places {
			want := 0
			if x >= 0 && x <= high {
				for want = 1; (x+want)%48 != 0; {
					want++
				}
			}
			if w := Width(api.Cell{Rune: 9, Style: style}, x); w != want {
				t.Errorf("Width of a tab of style %d at %d is %d, want %d", style, x, w, want)
			}
		}
	}
}

// P17.2: how wide other runes are: as their style's face has them, wherever they stand.
func TestWidthOfOthers(t *testing.T) {
	for _, style := range around(60) {
		want := 6
		if style >= 0 && style <= 23 {
			want = []int{6, 7, 12}[style%3]
		}
		for _, r := range []rune{'a', ' ', 'i', 'W', 0, 1, 8, 10, 11, 0x7f, 0xa0, 0xe9, 0x2500, 0x4e00, 0xfffd, 0x1d11e, 0x10ffff, 0x110000, 0xd800, -1, -9, math.MinInt32, math.MaxInt32} {
			for _, x := range append(around(2), 47, 48, 49, high-1, high, high+1) {
				if w := Width(api.Cell{At: x, N: 1, Rune: r, Style: style}, x); w != want {
					t.Fatalf("Width of %x of style %d at %d is %d, want %d", r, style, x, w, want)
				}
			}
		}
	}
}

// P17.2: all runes but the tab are as wide.
func TestWidthOfAllRunes(t *testing.T) {
	for r := rune(-100); r < 0x110100; r++ {
		for face, want := range []int{6, 7, 12} {
			if r == 9 {
				want = 43
			}
			if w := Width(api.Cell{Rune: r, Style: 3 + face}, 5); w != want {
				t.Fatalf("Width of %x in the face %d is %d, want %d", r, face, w, want)
			}
		}
	}
}

// P17.3: Xs, as it stands.
func TestXsByHand(t *testing.T) {
	for _, c := range []struct {
		l    []api.Cell
		want []int
	}{
		{nil, []int{0}}, {[]api.Cell{}, []int{0}},
		{styled(0, 'a'), []int{0, 6}}, {styled(1, 'a'), []int{0, 7}}, {styled(2, 'a'), []int{0, 12}}, {styled(23, ' '), []int{0, 12}}, {styled(24, 'a'), []int{0, 6}}, {styled(-1, 'a'), []int{0, 6}}, {styled(1, -1), []int{0, 7}},
		{styled(0, 9), []int{0, 48}}, {styled(2, 9), []int{0, 48}}, {styled(0, 9, 9), []int{0, 48, 96}}, {styled(1, 9, 9, 9), []int{0, 48, 96, 144}},
		{styled(0, 'a', 9, 'b'), []int{0, 6, 48, 54}}, {styled(1, 'a', 9, 'b'), []int{0, 7, 48, 55}}, {styled(2, 'a', 9, 'b'), []int{0, 12, 48, 60}},
		{styled(0, 'a', 'b', 'c', 'd', 'e', 'f', 'g', 9, 'h'), []int{0, 6, 12, 18, 24, 30, 36, 42, 48, 54}},
		{styled(0, 'a', 'b', 'c', 'd', 'e', 'f', 'g', 'h', 9, 'i'), []int{0, 6, 12, 18, 24, 30, 36, 42, 48, 96, 102}},
		{styled(1, 'a', 'b', 'c', 'd', 'e', 'f', 'g', 9, 9), []int{0, 7, 14, 21, 28, 35, 42, 49, 96, 144}},
		{slices.Concat(styled(0, 'a'), styled(1, 'b'), styled(2, 'c'), styled(5, 9), styled(4, 'd'), styled(3, 9)), []int{0, 6, 13, 25, 48, 55, 96}},
		{styled(0, ' ', 0x2500, 0x4e00, 0), []int{0, 6, 12, 18, 24}},
	} {
		if got := Xs(c.l); !slices.Equal(got, c.want) {
			t.Errorf("Xs(%v) is %v, want %v", c.l, got, c.want)
		}
	}
}

// P17.3: the chapter's example, from the bytes on.
func TestExample(t *testing.T) {
	l := Of([]byte("a\tb"), nil, 0)
	if got := Xs(l); !slices.Equal(got, []int{0, 6, 48, 54}) {
		t.Error(got)
	}
	if got := Bytes(l, []byte("a\tb")); string(got) != "a\tb" {
		t.Errorf("%q", got)
	}
}

// P17.3: all short lists: what is known of the cells ahead of each is summed up anew, tabs to the next multiple of 48.
func TestXsOfAllShortLists(t *testing.T) {
	some := slices.Concat(styled(0, 9), styled(2, 9), styled(0, 'a'), styled(4, 'b'), styled(8, ' '), styled(24, 'c'), styled(5, 0x4e00))
	wide := []int{0, 0, 6, 7, 12, 6, 12}
	var grow func(l []api.Cell, xs []int)
	grow = func(l []api.Cell, xs []int) {
		if got := Xs(l); !slices.Equal(got, xs) {
			t.Fatalf("Xs(%v) is %v, want %v", l, got, xs)
		}
		if len(l) == 6 {
			return
		}
		for i, c := range some {
			x := xs[len(xs)-1] + wide[i]
			if wide[i] == 0 {
				x = (x/48 + 1) * 48
			}
			grow(append(slices.Clone(l), c), append(slices.Clone(xs), x))
		}
	}
	grow(nil, []int{0})
}

// P17.3: where cells lie in their line, and how many bytes they have, is nothing to Xs.
func TestXsOfAnyPlaces(t *testing.T) {
	for _, n := range far {
		l := []api.Cell{{At: n, N: n, Rune: 'a'}, {At: -n, N: n, Rune: 9}, {At: n, N: 0, Rune: 'b', Style: 1}}
		if got := Xs(l); !slices.Equal(got, []int{0, 6, 48, 55}) {
			t.Errorf("Xs(%v) is %v", l, got)
		}
	}
}

// P17.3: many cells, each as wide as those ahead of it let it be.
func TestXsOfMany(t *testing.T) {
	const lines = 100000
	var l []api.Cell
	for range lines {
		l = append(l, slices.Concat(styled(2, 'a', 'b', 'c', 'd', 9), styled(1, 'e', 9))...)
	}
	xs := Xs(l)
	if len(xs) != len(l)+1 {
		t.Fatalf("%d of %d cells", len(xs), len(l))
	}
	for i, x := range xs {
		if want := i/7*144 + []int{0, 12, 24, 36, 48, 96, 103}[i%7]; x != want {
			t.Fatalf("the cell %d begins at %d, want %d", i, x, want)
		}
	}
}

// P17.3: behind 2^30 tabs have no width any more, and other cells still have theirs.
func TestXsOfFarTabs(t *testing.T) {
	const tabs = high/48 + 1
	behind := slices.Concat(styled(0, 9, 'a', 9), styled(2, 'b', 9))
	l := slices.Repeat(styled(0, 9), tabs+len(behind))
	copy(l[tabs:], behind)
	xs := Xs(l)
	for i, x := range xs[:tabs+1] {
		if x != i*48 {
			t.Fatalf("the tab %d begins at %d", i, x)
		}
	}
	end := tabs * 48
	if want := []int{end, end, end + 6, end + 6, end + 18, end + 18}; end <= high || !slices.Equal(xs[tabs:], want) {
		t.Errorf("behind the tabs: %v, want %v", xs[tabs:], want)
	}
}

// P17.3: Bytes, as it stands: cells that the bytes have not are left out, each by itself.
func TestBytesByHand(t *testing.T) {
	for _, c := range []struct {
		l       []api.Cell
		b, want string
	}{
		{nil, "", ""}, {nil, "abcdef", ""}, {[]api.Cell{}, "abcdef", ""}, {ps(0, 0), "", ""}, {ps(0, 1), "", ""},
		{ps(0, 1), "abcdef", "a"}, {ps(5, 1), "abcdef", "f"}, {ps(0, 6), "abcdef", "abcdef"}, {ps(2, 3), "abcdef", "cde"}, {ps(0, 3, 3, 3), "abcdef", "abcdef"},
		{ps(0, 0), "abcdef", ""}, {ps(6, 0), "abcdef", ""}, {ps(3, 0, 3, 1), "abcdef", "d"},
		{ps(3, 2, 0, 1), "abcdef", "dea"}, {ps(5, 1, 4, 1, 3, 1), "abcdef", "fed"}, {ps(1, 2, 1, 2), "abcdef", "bcbc"}, {ps(0, 4, 2, 4), "abcdef", "abcdcdef"}, {ps(0, 6, 0, 6, 0, 6), "abcdef", "abcdefabcdefabcdef"},
		{ps(6, 1), "abcdef", ""}, {ps(7, 0), "abcdef", ""}, {ps(5, 2), "abcdef", ""}, {ps(0, 7), "abcdef", ""}, {ps(-1, 1), "abcdef", ""}, {ps(-1, 2), "abcdef", ""}, {ps(-3, 6), "abcdef", ""}, {ps(-1, 0), "abcdef", ""}, {ps(1, -1), "abcdef", ""}, {ps(6, -1), "abcdef", ""}, {ps(7, -1), "abcdef", ""}, {ps(-1, -1), "abcdef", ""},
		{ps(0, 1, 6, 1, 1, 1, -1, 2, 2, 1, 3, -1, 3, 9, 3, 1), "abcdef", "abcd"}, {ps(-1, 1, 2, 2), "abcdef", "cd"}, {ps(2, 2, 9, 9), "abcdef", "cd"}, {ps(4, 3, 4, 2), "abcdef", "ef"},
		{ps(math.MaxInt, 1, 0, 1), "abcdef", "a"}, {ps(1, math.MaxInt, 0, 1), "abcdef", "a"}, {ps(math.MaxInt, math.MaxInt, 0, 1), "abcdef", "a"}, {ps(math.MaxInt, 2, 1, 1), "abcdef", "b"}, {ps(math.MaxInt-1, 3, 1, 1), "abcdef", "b"},
		{ps(math.MinInt, math.MinInt, 1, 1), "abcdef", "b"}, {ps(math.MinInt, math.MaxInt, 1, 1), "abcdef", "b"}, {ps(math.MaxInt, math.MinInt, 1, 1), "abcdef", "b"}, {ps(3, math.MinInt, 1, 1), "abcdef", "b"}, {ps(math.MinInt, 3, 1, 1), "abcdef", "b"}, {ps(1<<32, 1, 1, 1), "abcdef", "b"}, {ps(1, 1<<32, 1, 1), "abcdef", "b"}, {ps(1<<63-1, 1<<63-1, 2, 1), "abcdef", "c"},
		{cs(0, 1, 'z', 5, 2, 1, -1, 99, 4, 2, 0x20ac, -7), "abcdef", "acef"}, {cs(1, 2, 0xe9, 0), "\xc3\xa9\xff", "\xa9\xff"},
	} {
		if got := Bytes(c.l, []byte(c.b)); string(got) != c.want {
			t.Errorf("Bytes(%v, %q) is %q, want %q", c.l, c.b, got, c.want)
		}
	}
}

// has is whether bytes have a cell's, told by sums that can't wrap round.
func has(b []byte, c api.Cell) bool {
	return c.At >= 0 && c.N >= 0 && uint64(c.At)+uint64(c.N) <= uint64(len(b))
}

// P17.3: all cells within short bytes and beside them, one alone, and two of them.
func TestBytesOfAllSmallCells(t *testing.T) {
	for n := range 5 {
		b := []byte("\x00b\xc3\xa9")[:n]
		var all []api.Cell
		for _, at := range around(n + 3) {
			for _, k := range around(n + 3) {
				all = append(all, api.Cell{At: at, N: k, Rune: 'x', Style: 3})
			}
		}
		part := func(c api.Cell) []byte {
			if has(b, c) {
				return b[c.At : c.At+c.N]
			}
			return nil
		}
		for _, c := range all {
			for _, d := range all {
				if got, want := Bytes([]api.Cell{c, d}, b), slices.Concat(part(c), part(d)); !bytes.Equal(got, want) {
					t.Fatalf("Bytes of %v and %v of %x is %x, want %x", c, d, b, got, want)
				}
			}
			if got := Bytes([]api.Cell{c}, b); !bytes.Equal(got, part(c)) {
				t.Fatalf("Bytes of %v of %x is %x", c, b, got)
			}
		}
	}
}

// P17.3: many cells: from the end to the beginning, and the same one again and again.
func TestBytesOfMany(t *testing.T) {
	b := []byte(strings.Repeat("ab\xc3\xa9\xe2\x82\xac", 20000))
	l := Of(b, nil, 0)
	slices.Reverse(l)
	if got := Bytes(l, b); string(got) != strings.Repeat("\xe2\x82\xac\xc3\xa9ba", 20000) {
		t.Error("from the end to the beginning")
	}
	if got := Bytes(slices.Repeat(l[:1], 100000), b); string(got) != strings.Repeat("\xe2\x82\xac", 100000) {
		t.Error("the same one again and again")
	}
}

// checkBack holds Bytes of Of against the bytes, and that each byte is in one cell.
func checkBack(t *testing.T, b []byte, l []api.Run, from int) {
	t.Helper()
	c := Of(b, l, from)
	if got := Bytes(c, b); !bytes.Equal(got, b) {
		t.Fatalf("Bytes of Of(%x, %v, %d) is %x", b, l, from, got)
	}
	end := 0
	for _, d := range c {
		if d.At != end || d.N < 1 {
			t.Fatalf("Of(%x, %v, %d): the cell %v, behind %d", b, l, from, d, end)
		}
		end += d.N
	}
	if end != len(b) {
		t.Fatalf("Of(%x, %v, %d) ends at %d", b, l, from, end)
	}
}

// P17.4: Bytes of Of are the bytes: of short lines of all pieces, and of any three bytes of many kinds.
func TestBack(t *testing.T) {
	eachLine(4, func(b []byte) { checkBack(t, b, rs(2, 5, 3, 6), 1) })
	for i := range 1 << 16 {
		for _, c := range []byte{0, 'a', 0x80, 0xa9, 0xbf, 0xc3, 0xff} {
			b := []byte{byte(i >> 8), byte(i), c}
			checkBack(t, b, nil, 0)
			checkBack(t, b[:2], nil, 0)
		}
	}
}

// P17.4: whatever the styles are, and wherever the line begins.
func TestBackOfAnyStyles(t *testing.T) {
	b := []byte("a\t\xc3\xa9\xff\xe2\x82\xac \xf0\x9d\x84\x9e\xc3")
	for _, l := range clothes() {
		for _, from := range append(around(14), most-1, most, most+1) {
			checkBack(t, b, l, from)
		}
	}
}

// P17.4: long lines of bytes of all kinds.
func TestBackOfLongLines(t *testing.T) {
	b := make([]byte, 1<<20)
	seed := uint32(1)
	for i := range b {
		seed = seed*1664525 + 1013904223
		b[i] = byte(seed >> 24)
		if i > len(b)/2 {
			// Here most bytes are such as runes of several ones are made of.
			b[i] |= 0x80
		}
	}
	checkBack(t, b, rs(1000, 5, 1000, 6), 17)
	for n := range 300 {
		checkBack(t, b[:n], nil, 0)
		checkBack(t, b[len(b)-n:], nil, 0)
	}
}

// P17.1, P17.3: what is handed in stays as it was, its spare room included, and none of it is in what is told.
func TestMemoryOfWhatComesIn(t *testing.T) {
	b := []byte("a\t\xc3\xa9\xff zspare room")
	l := rs(2, 5, 1, 5, 0, 3, 3, 6, 9, 24, 1, 7, 5, 8, 8, 9)
	keptB, keptL := bytes.Clone(b), slices.Clone(l)
	line, styles := b[:7:len(b)], l[:6:len(l)]
	c := append(Of(line, styles, 1), cs(1, 1, 1, 1, 2, 2, 2, 2)...)
	keptC := slices.Clone(c)
	some := c[: len(c)-2 : len(c)]
	for range 2 {
		Of(line, styles, 1)
		Xs(some)
		Bytes(some, line)
		if !bytes.Equal(b, keptB) || !slices.Equal(l, keptL) || !slices.Equal(c, keptC) {
			t.Fatalf("%x, %v, %v are now %x, %v, %v", keptB, keptL, keptC, b, l, c)
		}
	}
	got, xs, back := Of(line, styles, 1), Xs(some), Bytes(some, line)
	one := Bytes(ps(0, 7), line)
	for i := range b {
		b[i] = '?'
	}
	for i := range l {
		l[i] = api.Run{Len: 9, Style: 9}
	}
	for i := range c {
		c[i] = api.Cell{At: 9, N: 9, Rune: 9, Style: 9}
	}
	if !slices.Equal(got, keptC[:len(got)]) || !slices.Equal(xs, []int{0, 12, 48, 54, 60, 67, 73}) || string(back) != "a\t\xc3\xa9\xff z" || string(one) != "a\t\xc3\xa9\xff z" {
		t.Errorf("what was told is now %v, %v, %q, %q", got, xs, back, one)
	}
}

// P17.1, P17.3: what is told is new each time, its spare room included, and may be changed.
func TestMemoryOfWhatIsTold(t *testing.T) {
	b := []byte("a\t\xc3\xa9\xff z")
	l := rs(2, 5, 3, 6, 9, 7)
	c := Of(b, l, 1)
	keptB, keptL, keptC := bytes.Clone(b), slices.Clone(l), slices.Clone(c)
	first, second := Of(b, l, 1), Of(b, l, 1)
	xs, ys := Xs(c), Xs(c)
	out, more := Bytes(c, b), Bytes(c, b)
	whole, again := Bytes(ps(0, len(b)), b), Bytes(ps(0, len(b)), b)
	for _, f := range [][]api.Cell{first, c} {
		for i := range f[:cap(f)] {
			f[:cap(f)][i] = api.Cell{At: -1, N: -1, Rune: -1, Style: -1}
		}
	}
	for i := range xs[:cap(xs)] {
		xs[:cap(xs)][i] = -1
	}
	for _, o := range [][]byte{out, whole} {
		for i := range o[:cap(o)] {
			o[:cap(o)][i] = '?'
		}
	}
	if !bytes.Equal(b, keptB) || !slices.Equal(l, keptL) {
		t.Errorf("%x and %v are now %x and %v", keptB, keptL, b, l)
	}
	if !slices.Equal(second, keptC) || !slices.Equal(ys, Xs(keptC)) || !bytes.Equal(more, keptB) || !bytes.Equal(again, keptB) {
		t.Errorf("other answers are now %v, %v, %x, %x", second, ys, more, again)
	}
}

// P17.1, P17.3: what is told of nothing may be lengthened without a trace.
func TestMemoryOfNothing(t *testing.T) {
	if got := append(Of(nil, nil, 0), cs(1, 1, 1, 1)...); len(got) != 1 || len(Of(nil, nil, 0)) != 0 || len(Of([]byte{}, rs(1, 5), 0)) != 0 {
		t.Error("Of")
	}
	if got := append(Xs(nil), 7); len(got) != 2 || !slices.Equal(Xs(nil), []int{0}) {
		t.Error("Xs")
	}
	Xs(nil)[0] = 5
	if !slices.Equal(Xs(nil), []int{0}) {
		t.Error("Xs")
	}
	if got := append(Bytes(nil, nil), 7); len(got) != 1 || len(Bytes(nil, nil)) != 0 {
		t.Error("Bytes")
	}
}
