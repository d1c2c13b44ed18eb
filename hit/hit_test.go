package hit

import (
	"math"
	"slices"
	"testing"

	"scrivener/api"
	"scrivener/scene"
)

// The chapter's example.
func TestExample(t *testing.T) {
	s := made(t, "ab", 100)
	if at, ok := At(s, 7, 100); at != 1 || !ok {
		t.Error(at, ok)
	}
}

// P25.1 to P25.4: texts of all kinds, in widths of all kinds, with styles and folds of all kinds.
func TestTexts(t *testing.T) {
	for k, b := range some() {
		for i, width := range []int{1, 6, 7, 13, 18, 24, 48, 60, 4096} {
			l := folded(len(b))
			for j := range 3 {
				s := clad(t, b, width, styled(len(b), k+i+j), l[(k+i+3*j)%len(l)])
				holds(t, s)
			}
		}
	}
}

// short are all texts of up to n pieces.
func short(n int, pieces ...string) []string {
	all := []string{""}
	for from := 0; n > 0; n-- {
		to := len(all)
		for _, b := range all[from:to] {
			for _, p := range pieces {
				all = append(all, b+p)
			}
		}
		from = to
	}
	return all
}

// P25.1 to P25.4: all short texts of few pieces, in few widths, with folds.
func TestShortTexts(t *testing.T) {
	for k, b := range short(4, "a", "\n", " ", "\u00e9", "+") {
		l := folded(len(b))
		for i, width := range []int{6, 13} {
			holds(t, clad(t, b, width, styled(len(b), k+i), l[(k+i)%len(l)]))
		}
	}
}

// line is what is told of a row by hand: its line, which of its rows, where it begins from above and how high it is, where its line begins, where it begins and ends in that, and whether it is the last one.
type line struct {
	line, row, y, h, start, from, to int
	last                             bool
}

// lineOf is what is told of a row.
func lineOf(r api.Seen) line {
	return line{r.Line, r.Row, r.Y, r.Laid.Up + r.Laid.Down, r.Start, r.Laid.From, r.Laid.To, r.Laid.Last}
}

// lines holds Row at all heights, and Rows of all pairs of them, against rows by hand.
func lines(t *testing.T, s *scene.Scene, all ...line) {
	t.Helper()
	end := all[len(all)-1].y + all[len(all)-1].h
	for y := -3; y < end+3; y++ {
		i := 0
		for i < len(all)-1 && y >= all[i].y+all[i].h {
			i++
		}
		if got, ok := Row(s, y); lineOf(got) != all[i] || !ok {
			t.Errorf("Row(%d): %v, %v, want %v", y, lineOf(got), ok, all[i])
		}
	}
	for from := -3; from < end+3; from++ {
		for to := -3; to < end+3; to++ {
			var want []line
			for _, r := range all {
				if r.y+r.h > max(from, 0) && r.y < max(to, 0) {
					want = append(want, r)
				}
			}
			var got []line
			for _, r := range Rows(s, from, to) {
				got = append(got, lineOf(r))
			}
			if !slices.Equal(got, want) {
				t.Errorf("Rows(%d, %d): %v, want %v", from, to, got, want)
			}
		}
	}
}

// P25.1: of a text without bytes there is one row.
func TestRowsOfNothing(t *testing.T) {
	s := made(t, "", 24)
	lines(t, s, line{0, 0, 0, 9, 0, 0, 0, true})
	for _, y := range far {
		if got, ok := Row(s, y); lineOf(got) != (line{0, 0, 0, 9, 0, 0, 0, true}) || !ok {
			t.Errorf("Row(%d): %v, %v", y, got, ok)
		}
	}
}

// P25.1: lines of several rows, a line without bytes, and one behind the last line feed.
func TestRowsOfLines(t *testing.T) {
	lines(t, made(t, "ab cd efg\n\ngh\n", 24),
		line{0, 0, 0, 9, 0, 0, 3, false},
		line{0, 1, 9, 9, 0, 3, 6, false},
		line{0, 2, 18, 9, 0, 6, 9, true},
		line{1, 0, 27, 9, 10, 0, 0, true},
		line{2, 0, 36, 9, 11, 0, 2, true},
		line{3, 0, 45, 9, 14, 0, 0, true})
}

// P25.1: rows of several heights, and of each face alone.
func TestRowsOfFaces(t *testing.T) {
	lines(t, clad(t, "a b c\nd\n\ne", 18, dressed(2, 0, 2, 2, 2, 1, 2, 2, 1, 1, 1, 2), nil),
		line{0, 0, 0, 9, 0, 0, 2, false},
		line{0, 1, 9, 17, 0, 2, 3, false},
		line{0, 2, 26, 17, 0, 3, 4, false},
		line{0, 3, 43, 9, 0, 4, 5, true},
		line{1, 0, 52, 17, 6, 0, 1, true},
		line{2, 0, 69, 9, 8, 0, 0, true},
		line{3, 0, 78, 17, 9, 0, 1, true})
	for style, h := range []int{9, 9, 17, 9, 9, 17} {
		lines(t, clad(t, "ab\ncd", 100, dressed(5, style), nil), line{0, 0, 0, h, 0, 0, 2, true}, line{1, 0, h, h, 3, 0, 2, true})
	}
}

// P25.1: with one line hidden, with several, with those at the end, with all but the first one.
func TestRowsOfFolds(t *testing.T) {
	b := "ab\ncd\nef\ngh"
	first, last := line{0, 0, 0, 9, 0, 0, 2, true}, line{3, 0, 9, 9, 9, 0, 2, true}
	lines(t, clad(t, b, 60, plain(b), spans(0, 4)), first, line{2, 0, 9, 9, 6, 0, 2, true}, line{3, 0, 18, 9, 9, 0, 2, true})
	lines(t, clad(t, b, 60, plain(b), spans(0, 7)), first, last)
	lines(t, clad(t, b, 60, plain(b), spans(0, 4, 4, 8)), first, last)
	lines(t, clad(t, b, 60, plain(b), spans(4, 11)), first, line{1, 0, 9, 9, 3, 0, 2, true})
	lines(t, clad(t, b, 60, plain(b), spans(0, 11)), first)
	lines(t, clad(t, b, 6, plain(b), spans(0, 4, 7, 10)),
		line{0, 0, 0, 9, 0, 0, 1, false}, line{0, 1, 9, 9, 0, 1, 2, true}, line{2, 0, 18, 9, 6, 0, 1, false}, line{2, 1, 27, 9, 6, 1, 2, true})
	lines(t, clad(t, "\n\n\n", 6, dressed(3, 2), spans(1, 2)), line{0, 0, 0, 9, 0, 0, 0, true}, line{1, 0, 9, 9, 1, 0, 0, true}, line{3, 0, 18, 9, 3, 0, 0, true})
}

// P25.1: rows are told with their cells, their styles and where they begin, as metric lays them out.
func TestRowsAsLaid(t *testing.T) {
	s := clad(t, "x\na\u00e9\tb", 60, dressed(3, 0, 2, 5, 2, 1), nil)
	want := []api.Seen{
		{Line: 0, Row: 0, Y: 0, Start: 0, Laid: api.Laid{Cells: []api.Cell{{At: 0, N: 1, Rune: 'x'}}, Xs: []int{0, 6}, Up: 7, Down: 2, From: 0, To: 1, Last: true}},
		{Line: 1, Row: 0, Y: 9, Start: 2, Laid: api.Laid{Cells: []api.Cell{{At: 0, N: 1, Rune: 'a'}, {At: 1, N: 2, Rune: 0xe9, Style: 5}, {At: 3, N: 1, Rune: '\t', Style: 1}, {At: 4, N: 1, Rune: 'b', Style: 1}}, Xs: []int{0, 6, 18, 48, 55}, Up: 14, Down: 3, From: 0, To: 5, Last: true}},
	}
	if got := Rows(s, 0, 100); !slices.EqualFunc(got, want, same) {
		t.Error(got)
	}
	for i, y := range []int{8, 9} {
		if got, ok := Row(s, y); !same(got, want[i]) || !ok {
			t.Error(got, ok)
		}
	}
}

// P25.1: from and to at, beyond and far beyond both ends.
func TestRowsFarOff(t *testing.T) {
	s := made(t, "ab\ncd", 60)
	count := func(from, to, want int) {
		t.Helper()
		if got := Rows(s, from, to); len(got) != want {
			t.Errorf("Rows(%d, %d): %d rows, want %d", from, to, len(got), want)
		}
	}
	for _, low := range []int{math.MinInt, -1 << 30, -1, 0} {
		for _, high := range []int{18, 19, 1<<30 - 1, 1 << 30, 1<<30 + 1, 1 << 62, math.MaxInt} {
			count(low, high, 2)
			count(high, low, 0)
			count(high, high, 0)
			count(17, high, 1)
			count(8, high, 2)
			count(9, high, 1)
			count(low, 1, 1)
			count(low, 9, 1)
			count(low, 10, 2)
		}
		count(low, low, 0)
		count(low, 0, 0)
		count(0, low, 0)
	}
	count(4, 4, 1)
	count(5, 3, 1)
	count(8, 1, 1)
	count(9, 9, 0)
	count(10, 8, 0)
	count(10, 9, 0)
	count(11, 10, 1)
	count(17, 10, 1)
	count(18, 10, 0)
}

// ats holds At of pixels by hand: x, y and the place, three numbers of each.
func ats(t *testing.T, s *scene.Scene, n ...int) {
	t.Helper()
	for i := 0; i < len(n); i += 3 {
		if got, ok := At(s, n[i], n[i+1]); got != n[i+2] || !ok {
			t.Errorf("At(%d, %d): %d, %v, want %d", n[i], n[i+1], got, ok, n[i+2])
		}
	}
}

// P25.2: where carets stand, between, halfway, ahead, behind, far off; in rows that end where the next one begins.
func TestAt(t *testing.T) {
	s := made(t, "ab cd efg\n\ngh", 24)
	ats(t, s,
		0, 0, 0, 6, 0, 1, 12, 0, 2, 18, 0, 2, 1000, 8, 2, -1, 8, 0, 3, 0, 0, 4, 0, 1, 9, 0, 1, 10, 0, 2,
		0, 9, 3, 6, 9, 4, 12, 9, 5, 18, 9, 5, 100, 17, 5,
		0, 18, 6, 12, 18, 8, 15, 18, 8, 16, 18, 9, 18, 26, 9, 19, 26, 9,
		0, 27, 10, 100, 27, 10, -100, 35, 10,
		0, 36, 11, 6, 44, 12, 12, 45, 13, 9, 1000, 12, 10, math.MaxInt, 13,
		math.MinInt, math.MinInt, 0, math.MaxInt, math.MinInt, 2, math.MinInt, math.MaxInt, 11, math.MaxInt, math.MaxInt, 13)
}

// P25.2: tabs, runes of several bytes, bytes that are none, all faces.
func TestAtOfCells(t *testing.T) {
	s := made(t, "a\tb\n\u00e9\u2500\U0001f600\n\xff\xc3\u00e9", 100)
	ats(t, s,
		6, 0, 1, 27, 0, 1, 28, 0, 2, 48, 0, 2, 54, 0, 3,
		0, 9, 4, 3, 9, 4, 4, 9, 6, 6, 9, 6, 12, 9, 9, 18, 9, 13, 99, 9, 13,
		0, 18, 14, 6, 18, 15, 12, 18, 16, 18, 18, 18, 15, 18, 16, 16, 18, 18)
	s = clad(t, "abc", 100, dressed(1, 1, 1, 2, 1, 0), nil)
	ats(t, s, 3, 0, 0, 4, 0, 1, 7, 0, 1, 13, 16, 1, 14, 16, 2, 19, 17, 2, 22, 0, 2, 23, 0, 3, 25, 0, 3)
}

// P25.2: with lines hidden the rows below lie farther up.
func TestAtOfFolds(t *testing.T) {
	b := "ab\ncd\nef\ngh"
	ats(t, clad(t, b, 60, plain(b), spans(0, 4)), 6, 0, 1, 6, 9, 7, 6, 18, 10, 12, 27, 11)
	ats(t, clad(t, b, 60, plain(b), spans(4, 11)), 6, 0, 1, 6, 9, 4, 6, 18, 4, 12, math.MaxInt, 5)
	ats(t, clad(t, b, 60, plain(b), spans(0, 11)), 6, 8, 1, 6, 9, 1, 100, 100, 2)
}

// P25.3: from places that are shown, to pixels ahead of them, behind them, and where they lie.
func TestDrag(t *testing.T) {
	s := made(t, "ab cd\n\u00e9\u2500", 24)
	for _, c := range []struct{ anchor, x, y, head int }{
		{0, 0, 0, 0}, {0, 6, 0, 1}, {0, 6, 9, 4}, {0, 99, 99, 11}, {3, 0, 0, 0}, {3, 0, 9, 3}, {5, -9, -9, 0}, {5, 99, 9, 5},
		{6, 6, 18, 8}, {8, 0, 18, 6}, {11, 12, 18, 11}, {11, math.MinInt, math.MinInt, 0}, {11, math.MaxInt, math.MaxInt, 11}, {1, math.MaxInt, math.MinInt, 2},
	} {
		if got, ok := Drag(s, c.anchor, c.x, c.y); got != (api.Caret{Anchor: c.anchor, Head: c.head}) || !ok {
			t.Errorf("Drag(%d, %d, %d): %v, %v, want the head %d", c.anchor, c.x, c.y, got, ok, c.head)
		}
	}
	for _, anchor := range append([]int{-2, -1, 7, 9, 10, 12, 13}, far...) {
		if got, ok := Drag(s, anchor, 6, 0); got != (api.Caret{}) || ok {
			t.Errorf("Drag(%d): %v, %v", anchor, got, ok)
		}
	}
}

// P25.3: from places that are hidden nothing is chosen; from those about them all that is shown.
func TestDragOfFolds(t *testing.T) {
	b := "ab\ncd\nef\ngh"
	s := clad(t, b, 60, plain(b), spans(1, 7))
	for at := range 12 {
		drags(t, s, at, 6, 9, 10)
		got, ok := Drag(s, at, 6, 9)
		if shown := at < 3 || at > 8; ok != shown || shown && got.Head != 10 {
			t.Errorf("Drag(%d): %v, %v", at, got, ok)
		}
	}
}

// words holds Word of pixels by hand: x, y, and where the word begins and ends, four numbers of each; both -1 where there is none.
func words(t *testing.T, s *scene.Scene, n ...int) {
	t.Helper()
	for i := 0; i < len(n); i += 4 {
		want, is := span(n[i+2], n[i+3]), n[i+2] >= 0
		if !is {
			want = api.Span{}
		}
		if got, ok := Word(s, n[i], n[i+1]); got != want || ok != is {
			t.Errorf("Word(%d, %d): %v, %v, want %v", n[i], n[i+1], got, ok, want)
		}
	}
}

// P25.3: words of each sort, side by side, at lines' ends, in lines without bytes, beside lines of the same sort.
func TestWord(t *testing.T) {
	s := made(t, "ab_1 \t+=c9", 4096)
	for at, want := range spans(0, 4, 0, 4, 0, 4, 0, 4, 4, 6, 4, 6, 6, 8, 6, 8, 8, 10, 8, 10, 8, 10) {
		x := []int{0, 6, 12, 18, 24, 30, 48, 54, 60, 66, 72}[at]
		words(t, s, x, 0, want.From, want.To, x, 100, want.From, want.To)
	}
	words(t, s, -9, -9, 0, 4, 99, 99, 8, 10, math.MinInt, math.MaxInt, 0, 4, math.MaxInt, math.MinInt, 8, 10)
	s = made(t, "ab\ncd\n\n+\n+\n \n ", 60)
	words(t, s, 0, 0, 0, 2, 12, 0, 0, 2, 0, 9, 3, 5, 12, 9, 3, 5, 0, 18, -1, -1, 99, 18, -1, -1,
		0, 27, 7, 8, 6, 27, 7, 8, 0, 36, 9, 10, 6, 36, 9, 10, 0, 45, 11, 12, 6, 45, 11, 12, 0, 54, 13, 14, 6, 99, 13, 14)
	words(t, made(t, "", 60), 0, 0, -1, -1, 9, 9, -1, -1, -9, -9, -1, -1)
	words(t, made(t, "ab\n", 60), 0, 8, 0, 2, 0, 9, -1, -1, 0, 99, -1, -1)
}

// P25.3: at a line's end the byte ahead counts, of each sort, with one of its sort and with several.
func TestWordAtEnd(t *testing.T) {
	for _, c := range []struct {
		b        string
		from, to int
	}{
		{"a", 0, 1}, {"+ab", 1, 3}, {" ", 0, 1}, {"a \t", 1, 3}, {"+", 0, 1}, {"a+-", 1, 3}, {"+\u00e9", 1, 3}, {"+\xff", 1, 2}, {"a\u2500b", 0, 5}, {"ab\t", 2, 3},
	} {
		words(t, made(t, c.b, 4096), 4096, 0, c.from, c.to)
		words(t, made(t, c.b+"\nab", 4096), 4096, 0, c.from, c.to)
	}
}

// P25.3: a word goes from one row to the next ones, from whichever row it is asked.
func TestWordOfRows(t *testing.T) {
	s := made(t, "abcdef, ghi", 12)
	words(t, s, 0, 0, 0, 6, 6, 9, 0, 6, 0, 18, 0, 6, 0, 27, 6, 7, 6, 27, 7, 8, 0, 36, 8, 11, 6, 36, 8, 11, 0, 45, 8, 11, 99, 45, 8, 11)
	s = made(t, "+++++  x", 12)
	words(t, s, 0, 0, 0, 5, 6, 9, 0, 5, 0, 18, 0, 5)
}

// P25.3: of which sort each byte is: held between two bytes of each sort.
func TestWordOfBytes(t *testing.T) {
	for c := range 256 {
		if c == '\n' {
			continue
		}
		for i, beside := range []byte{'a', ' ', '+'} {
			s := made(t, string([]byte{beside, byte(c), beside}), 4096)
			want := span(1, 2)
			if sortOf(byte(c)) == i {
				want = span(0, 3)
			}
			if got, ok := Word(s, 6, 0); got != want || !ok {
				t.Errorf("%x between %q: %v, %v, want %v", c, beside, got, ok, want)
			}
		}
	}
}

// P25.3: the first byte of each sort and the last one, and those beside them, by hand.
func TestWordOfSorts(t *testing.T) {
	for _, c := range []struct {
		b    byte
		sort int
	}{
		{'0', 0}, {'9', 0}, {'/', 2}, {':', 2}, {'A', 0}, {'Z', 0}, {'@', 2}, {'[', 2}, {'a', 0}, {'z', 0}, {'`', 2}, {'{', 2}, {'_', 0}, {'^', 2},
		{0x7f, 2}, {0x80, 0}, {0x81, 0}, {0xff, 0}, {' ', 1}, {'!', 2}, {0x1f, 2}, {'\t', 1}, {8, 2}, {11, 2}, {0, 2}, {'\r', 2}, {0xa0, 0},
	} {
		for i, beside := range []string{"m", "\t", "."} {
			want := span(1, 2)
			if c.sort == i {
				want = span(0, 2)
			}
			s := made(t, beside+string([]byte{c.b}), 4096)
			if got, ok := Word(s, 4096, 0); got != want || !ok {
				t.Errorf("%x behind %q: %v, %v, want %v", c.b, beside, got, ok, want)
			}
		}
	}
}

// nothing holds what is told where there is no text.
func nothing(t *testing.T, s *scene.Scene, x, y int) {
	t.Helper()
	if at, ok := At(s, x, y); at != 0 || ok {
		t.Errorf("At(%d, %d): %d, %v", x, y, at, ok)
	}
	if r, ok := Row(s, y); !same(r, api.Seen{}) || ok {
		t.Errorf("Row(%d): %v, %v", y, r, ok)
	}
	if l := Rows(s, x, y); len(l) != 0 {
		t.Errorf("Rows(%d, %d): %v", x, y, l)
	}
	if c, ok := Drag(s, x, x, y); c != (api.Caret{}) || ok {
		t.Errorf("Drag(%d, %d, %d): %v, %v", x, x, y, c, ok)
	}
	if w, ok := Word(s, x, y); w != (api.Span{}) || ok {
		t.Errorf("Word(%d, %d): %v, %v", x, y, w, ok)
	}
}

// P25.1 to P25.3: of a nil Scene nothing is told.
func TestNil(t *testing.T) {
	for _, x := range around(3) {
		for _, y := range around(3) {
			nothing(t, nil, x, y)
		}
	}
}

// A Scene that New did not make: what is told is open, but each call ends, and none panics.
func TestNotMade(t *testing.T) {
	s := &scene.Scene{}
	for _, x := range around(3) {
		for _, y := range around(3) {
			At(s, x, y)
			Row(s, y)
			Rows(s, x, y)
			Drag(s, x, x, y)
			Word(s, x, y)
		}
	}
}

// What is answered is new memory, and shares none with another answer, nor one row with another.
func TestMemory(t *testing.T) {
	s := made(t, "ab cd\ncd\u00e9", 24)
	a, b := Rows(s, 0, 100), Rows(s, 0, 100)
	want := Rows(s, 0, 100)
	for i, r := range a {
		for j := range r.Laid.Cells {
			r.Laid.Cells[j] = api.Cell{At: -1}
		}
		for j := range r.Laid.Xs {
			r.Laid.Xs[j] = -1
		}
		_ = append(r.Laid.Cells, api.Cell{At: -1}, api.Cell{At: -1})
		_ = append(r.Laid.Xs, -1, -1)
		if rest := a[i+1:]; !slices.EqualFunc(rest, want[i+1:], same) {
			t.Error(rest)
		}
	}
	_ = append(a[:1], api.Seen{Line: 9}, api.Seen{Line: 9})
	if !slices.EqualFunc(b, want, same) || !slices.EqualFunc(Rows(s, 0, 100), want, same) {
		t.Error(b)
	}
	one, _ := Row(s, 9)
	one.Laid.Cells[0], one.Laid.Xs[0] = api.Cell{At: -1}, -1
	if two, _ := Row(s, 9); !same(two, want[1]) {
		t.Error(two)
	}
}
