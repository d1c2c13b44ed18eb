package place

import (
	"fmt"
	"math"
	"slices"
	"testing"

	"scrivener/api"
	"scrivener/scene"
)

// The chapter's example.
func TestExample(t *testing.T) {
	s := made(t, "ab\nc", 100)
	if at, ok := Down(s, 0, 6); at != 4 || !ok {
		t.Error(at, ok)
	}
}

// P24.1, P24.3: which places are shown: not those within runes; those of bytes that are none; line feeds, and the places behind them; not those in hidden lines.
func TestShown(t *testing.T) {
	for _, c := range []struct {
		b     string
		folds []api.Span
		want  []int
	}{
		{"", nil, []int{0}},
		{"a", nil, []int{0, 1}},
		{"\n", nil, []int{0, 1}},
		{"ab\n", nil, []int{0, 1, 2, 3}},
		{"\u00e9", nil, []int{0, 2}},
		{"\u2500", nil, []int{0, 3}},
		{"\U0001f600", nil, []int{0, 4}},
		{"a\u00e9\n\u2500\U0001f600z", nil, []int{0, 1, 3, 4, 7, 11, 12}},
		{"\xc3\n\xa9", nil, []int{0, 1, 2, 3}},
		{"\xff\xfe\u00e9\x80", nil, []int{0, 1, 2, 4, 5}},
		{"\xe2\x94\x80\xe2\x94\xe2", nil, []int{0, 3, 4, 5, 6}},
		{"\xf0\x9f\x98\n\x80", nil, []int{0, 1, 2, 3, 4, 5}},
		{"ab\ncd\nef\ngh", nil, []int{0, 1, 2, 3, 4, 5, 6, 7, 8, 9, 10, 11}},
		{"ab\ncd\nef\ngh", spans(0, 1), []int{0, 1, 2, 3, 4, 5, 6, 7, 8, 9, 10, 11}},
		{"ab\ncd\nef\ngh", spans(0, 3), []int{0, 1, 2, 6, 7, 8, 9, 10, 11}},
		{"ab\ncd\nef\ngh", spans(1, 7), []int{0, 1, 2, 9, 10, 11}},
		{"ab\ncd\nef\ngh", spans(4, 10), []int{0, 1, 2, 3, 4, 5}},
		{"ab\ncd\nef\ngh", spans(8, 11), []int{0, 1, 2, 3, 4, 5, 6, 7, 8}},
		{"ab\ncd\nef\ngh", spans(0, 4, 7, 9), []int{0, 1, 2, 6, 7, 8}},
		{"ab\ncd\nef\ngh", spans(0, 11), []int{0, 1, 2}},
		{"ab\n", spans(2, 3), []int{0, 1, 2}},
		{"\u00e9\n\u2500\nx", spans(1, 4), []int{0, 2, 7, 8}},
		{"\n\n\n", spans(1, 2), []int{0, 1, 3}},
	} {
		s := clad(t, c.b, 12, plain(c.b), c.folds)
		if got := All(s); !slices.Equal(got, c.want) {
			t.Errorf("%q, %v: All: %v, want %v", c.b, c.folds, got, c.want)
		}
		for _, at := range around(len(c.b)) {
			want := slices.Contains(c.want, at)
			if Shown(s, at) != want {
				t.Errorf("%q, %v: Shown(%d): %v", c.b, c.folds, at, !want)
			}
			if _, ok := Of(s, at); ok != want {
				t.Errorf("%q, %v: Of(%d): %v", c.b, c.folds, at, ok)
			}
			if !want {
				absent(t, s, at)
			}
		}
	}
}

// spots holds Of of the places from from on against spots of numbers, five of each.
func spots(t *testing.T, s *scene.Scene, from int, n ...int) {
	t.Helper()
	for i := 0; i < len(n); i += 5 {
		at := from + i/5
		want := api.Spot{Line: n[i], Row: n[i+1], X: n[i+2], Y: n[i+3], H: n[i+4]}
		if got, ok := Of(s, at); got != want || !ok {
			t.Errorf("Of(%d): %v, %v, want %v", at, got, ok, want)
		}
	}
}

// P24.1: where a line has several rows: the place at which one ends and the next one begins is in the next one; only the last row has its end.
func TestOfRows(t *testing.T) {
	s := made(t, "ab cd efg\n\ngh", 24)
	spots(t, s, 0,
		0, 0, 0, 0, 9,
		0, 0, 6, 0, 9,
		0, 0, 12, 0, 9,
		0, 1, 0, 9, 9,
		0, 1, 6, 9, 9,
		0, 1, 12, 9, 9,
		0, 2, 0, 18, 9,
		0, 2, 6, 18, 9,
		0, 2, 12, 18, 9,
		0, 2, 18, 18, 9,
		1, 0, 0, 27, 9,
		2, 0, 0, 36, 9,
		2, 0, 6, 36, 9,
		2, 0, 12, 36, 9)
}

// P24.1: rows of several heights: those of large cells are 17 high, all others, such as those without cells, 9; lines that are hidden count as nothing.
func TestOfHeights(t *testing.T) {
	b := "a b c\nd\n\ne"
	l := dressed(2, 0, 2, 2, 2, 1, 2, 2, 1, 1, 1, 2)
	s := clad(t, b, 18, l, nil)
	spots(t, s, 0,
		0, 0, 0, 0, 9,
		0, 0, 6, 0, 9,
		0, 1, 0, 9, 17,
		0, 2, 0, 26, 17,
		0, 3, 0, 43, 9,
		0, 3, 7, 43, 9,
		1, 0, 0, 52, 17,
		1, 0, 12, 52, 17,
		2, 0, 0, 69, 9,
		3, 0, 0, 78, 17,
		3, 0, 12, 78, 17)
	told(t, s.Fold(span(5, 6)), api.OK)
	spots(t, s, 8, 2, 0, 0, 52, 9, 3, 0, 0, 61, 17, 3, 0, 12, 61, 17)
	told(t, s.Unfold(5), api.OK)
	told(t, s.Fold(span(0, 8)), api.OK)
	spots(t, s, 0, 0, 0, 0, 0, 9)
	spots(t, s, 5, 0, 3, 7, 43, 9)
	spots(t, s, 9, 3, 0, 0, 52, 17, 3, 0, 12, 52, 17)
	absent(t, s, 6)
	absent(t, s, 8)
}

// P24.1: a row is as high as its greatest face, wherever in it the place lies; each face's own height.
func TestOfFaces(t *testing.T) {
	for style, h := range []int{9, 9, 17, 9, 9, 17} {
		s := clad(t, "abc", 100, dressed(2, style, 1, 6), nil)
		for at := range 4 {
			if got, ok := Of(s, at); got.H != h || got.Y != 0 || !ok {
				t.Errorf("the style %d: Of(%d): %v", style, at, got)
			}
		}
	}
}

// P24.1: tabs are reckoned from the row's beginning; runes of several bytes and bytes that are none are a cell each.
func TestOfCells(t *testing.T) {
	s := made(t, "a\tb\tc\n\u00e9\xff\u2500", 60)
	spots(t, s, 0, 0, 0, 0, 0, 9, 0, 0, 6, 0, 9, 0, 1, 0, 9, 9, 0, 1, 6, 9, 9, 0, 1, 48, 9, 9, 0, 1, 54, 9, 9)
	for _, c := range []struct{ at, x int }{{6, 0}, {8, 6}, {9, 12}, {12, 18}} {
		if got, ok := Of(s, c.at); got != (api.Spot{Line: 1, X: c.x, Y: 18, H: 9}) || !ok {
			t.Errorf("Of(%d): %v", c.at, got)
		}
	}
}

// step is a step of a place with an x, and where it leads; -1 where it leads nowhere.
type step struct{ at, x, up, down int }

// steps holds Up and Down by hand.
func steps(t *testing.T, s *scene.Scene, l ...step) {
	t.Helper()
	tells := func(name string, got int, ok bool, want int) {
		t.Helper()
		if want < 0 && (got != 0 || ok) || want >= 0 && (got != want || !ok) {
			t.Errorf("%s: %d, %v, want %d", name, got, ok, want)
		}
	}
	for _, c := range l {
		at, ok := Up(s, c.at, c.x)
		tells(fmt.Sprintf("Up(%d, %d)", c.at, c.x), at, ok, c.up)
		at, ok = Down(s, c.at, c.x)
		tells(fmt.Sprintf("Down(%d, %d)", c.at, c.x), at, ok, c.down)
	}
}

// P24.2: from the first row and the last one, from row to row of a line, to the last row of the line ahead, to and from a line without bytes.
func TestSteps(t *testing.T) {
	s := made(t, "ab cd efg\n\ngh", 24)
	steps(t, s,
		step{0, 0, -1, 3}, step{0, 2, -1, 3}, step{0, 3, -1, 3}, step{0, 4, -1, 4}, step{2, 8, -1, 4}, step{2, 9, -1, 4}, step{2, 10, -1, 5}, step{2, 1000, -1, 5}, step{1, -9, -1, 3},
		step{3, 0, 0, 6}, step{4, 9, 1, 7}, step{5, 15, 2, 8}, step{5, 16, 2, 9}, step{5, 1000, 2, 9}, step{3, math.MaxInt, 2, 9}, step{3, math.MinInt, 0, 6},
		step{6, 0, 3, 10}, step{9, 18, 5, 10}, step{9, -1, 3, 10}, step{7, 6, 4, 10},
		step{10, 0, 6, 11}, step{10, 3, 6, 11}, step{10, 4, 7, 12}, step{10, 1000, 9, 13}, step{10, 14, 8, 13},
		step{11, 0, 10, -1}, step{12, 6, 10, -1}, step{13, math.MaxInt, 10, -1}, step{13, math.MinInt, 10, -1})
}

// P24.2: over lines that are hidden, one and several; where only hidden lines are behind, or none is left but the first; places that are hidden lead nowhere.
func TestStepsOverFolds(t *testing.T) {
	b := "ab\ncd\nef\ngh"
	s := clad(t, b, 6, plain(b), spans(0, 4))
	steps(t, s, step{0, 0, -1, 1}, step{1, 6, 0, 6}, step{2, 6, 0, 6}, step{6, 3, 1, 7}, step{6, 4, 2, 8}, step{7, 0, 6, 9}, step{8, 6, 6, 9}, step{3, 0, -1, -1}, step{5, 0, -1, -1})
	s = clad(t, b, 60, plain(b), spans(0, 7))
	steps(t, s, step{1, 7, -1, 10}, step{9, 7, 1, -1}, step{11, 99, 2, -1}, step{4, 7, -1, -1}, step{8, 7, -1, -1})
	s = clad(t, b, 60, plain(b), spans(0, 1, 3, 11))
	steps(t, s, step{1, 7, -1, 4}, step{3, 12, 2, -1}, step{5, 0, 0, -1}, step{6, 7, -1, -1}, step{11, 7, -1, -1})
	s = clad(t, b, 60, plain(b), spans(0, 11))
	steps(t, s, step{0, 7, -1, -1}, step{2, 7, -1, -1}, step{3, 7, -1, -1}, step{11, 7, -1, -1})
	s = clad(t, b, 60, plain(b), spans(0, 3, 6, 9))
	steps(t, s, step{0, 9, -1, 7}, step{7, 10, 2, -1}, step{4, 0, -1, -1}, step{10, 0, -1, -1})
}

// P24.2: what step leads to is a place of the text at which a rune begins, in rows of tabs, of runes of several bytes, and of bytes that are none.
func TestStepsOfCells(t *testing.T) {
	s := made(t, "\u00e9\u2500\U0001f600\na\tb\n\xff\xc3\u00e9", 100)
	steps(t, s,
		step{0, 6, -1, 11}, step{2, 27, -1, 11}, step{5, 28, -1, 12}, step{9, 60, -1, 13},
		step{10, 6, 2, 15}, step{11, 9, 2, 15}, step{12, 10, 5, 16}, step{13, 15, 5, 16}, step{13, 16, 9, 18}, step{10, 100, 9, 18},
		step{14, 27, 11, -1}, step{16, 28, 12, -1}, step{18, 51, 12, -1}, step{18, 52, 13, -1}, step{15, 0, 10, -1},
		step{1, 0, -1, -1}, step{3, 0, -1, -1}, step{4, 0, -1, -1}, step{8, 0, -1, -1}, step{17, 0, -1, -1})
}

// ends holds Home and End of all places of one row, rising.
func ends(t *testing.T, s *scene.Scene, places ...int) {
	t.Helper()
	for _, at := range places {
		if home, end := Home(s, at), End(s, at); home != places[0] || end != places[len(places)-1] {
			t.Errorf("%d: %d to %d, want %v", at, home, end, places)
		}
	}
}

// P24.3: Home and End in the first row, in one between, in the last one, in a row of one cell, in a line without bytes, in the last line.
func TestEnds(t *testing.T) {
	s := made(t, "ab cd efg\n\ngh\n", 24)
	ends(t, s, 0, 1, 2)
	ends(t, s, 3, 4, 5)
	ends(t, s, 6, 7, 8, 9)
	ends(t, s, 10)
	ends(t, s, 11, 12, 13)
	ends(t, s, 14)
	s.Resize(6)
	ends(t, s, 0)
	ends(t, s, 1)
	ends(t, s, 2)
	ends(t, s, 8, 9)
	ends(t, s, 11)
	ends(t, s, 12, 13)
	s = made(t, "", 24)
	ends(t, s, 0)
}

// P24.3: rows whose last cell is of several bytes, a tab, or a byte that is none.
func TestEndsOfCells(t *testing.T) {
	s := made(t, "a\u00e9b\u2500c\U0001f600d", 12)
	ends(t, s, 0, 1)
	ends(t, s, 3, 4)
	ends(t, s, 7, 8)
	ends(t, s, 12, 13)
	s = made(t, "a\tb\tc\n\t\t\nab\xff\xc3\n\xa9", 48)
	ends(t, s, 0, 1)
	ends(t, s, 2, 3)
	ends(t, s, 4, 5)
	ends(t, s, 6)
	ends(t, s, 7, 8)
	s.Resize(12)
	ends(t, s, 9, 10)
	ends(t, s, 11, 12, 13)
	ends(t, s, 14, 15)
	for _, at := range []int{-1, 16} {
		absent(t, s, at)
	}
}

// P24.3: Home and End of places that are not shown are these, also within runes and in hidden lines.
func TestEndsOfOthers(t *testing.T) {
	b := "\u00e9\u2500\U0001f600\nab\ncd"
	s := clad(t, b, 60, plain(b), spans(3, 11))
	for _, at := range append(slices.Clone(far), -2, -1, 1, 3, 4, 6, 7, 8, 10, 11, 12, 16, 17) {
		absent(t, s, at)
	}
	ends(t, s, 0, 2, 5, 9)
	ends(t, s, 13, 14, 15)
}

// P24.1 to P24.3: of a nil Scene no place is shown.
func TestNil(t *testing.T) {
	for _, at := range around(3) {
		absent(t, nil, at)
	}
	if len(All(nil)) != 0 {
		t.Error(All(nil))
	}
}

// A Scene that New did not make: what is told is open, but each call ends, and none panics.
func TestNotMade(t *testing.T) {
	s := &scene.Scene{}
	for _, at := range around(3) {
		Shown(s, at)
		Of(s, at)
		Up(s, at, at)
		Down(s, at, at)
		Home(s, at)
		End(s, at)
	}
	All(s)
}

// P24.1 to P24.4: texts of all kinds, in widths of all kinds, with styles and folds of all kinds.
func TestTexts(t *testing.T) {
	for k, b := range some() {
		for i, width := range []int{1, 6, 7, 12, 13, 18, 24, 48, 60, 4096} {
			for j, f := range folded(len(b)) {
				s := clad(t, b, width, styled(len(b), k+i+j), f)
				holds(t, s)
				returns(t, s, math.MinInt, -1, 0, 3, 6, 7, 20, 47, 48, 60, 100, math.MaxInt)
			}
		}
	}
}

// short are all texts of up to n pieces.
func short(n int, pieces ...string) []string {
	all := []string{""}
	for from := 0; n > 0; n-- {
		to := len(all)
		for _, b := range all[from:to] {
			for _, p := range pieces {
				all = append(all, b+p)
			}
		}
		from = to
	}
	return all
}

// P24.1 to P24.4: all short texts of few pieces, in few widths, with folds.
func TestShortTexts(t *testing.T) {
	for k, b := range short(5, "a", "\n", " ", "\u00e9") {
		l := folded(len(b))
		for i, width := range []int{6, 13, 24} {
			s := clad(t, b, width, styled(len(b), k+i), l[(k+i)%len(l)])
			holds(t, s)
			returns(t, s, -1, 0, 3, 6, 12, 15, 1000)
		}
	}
}

// P24.1 to P24.4: one text with each pair of folds.
func TestFolds(t *testing.T) {
	b := "a b\nc\n\nd e\n"
	for from := range len(b) {
		for mid := from + 1; mid <= len(b); mid++ {
			for to := mid; to <= len(b); to++ {
				f := spans(from, mid)
				if to > mid {
					f = spans(from, mid, mid, to)
				}
				for width := 6; width < 24; width += 9 {
					s := clad(t, b, width, styled(len(b), to), f)
					holds(t, s)
					returns(t, s, 0, 6, 9, 100)
				}
			}
		}
	}
}

// P24.2: of a row in which two places are as near, the less one; x at each number from ahead of a row to behind it.
func TestTies(t *testing.T) {
	for _, c := range []struct {
		b    string
		l    []api.Run
		want []int
	}{
		{"abc", dressed(3, 0), []int{0, 3, 9, 15}},
		{"abc", dressed(1, 1, 1, 2, 1, 0), []int{0, 3, 13, 22}},
		{"a\tb", dressed(3, 0), []int{0, 3, 27, 51}},
	} {
		s := clad(t, c.b+"\n", 100, append(c.l, api.Run{Len: 1, Style: 3}), nil)
		for x := -10; x < 70; x++ {
			// The last bound below x is the one from which on its place is the nearest.
			want := 0
			for at, bound := range c.want {
				if at > 0 && x > bound {
					want = at
				}
			}
			if got, ok := Up(s, 4, x); got != want || !ok {
				t.Errorf("%q: Up(4, %d): %d, want %d", c.b, x, got, want)
			}
		}
	}
}

// What is answered is new memory, and shares none with another answer.
func TestMemory(t *testing.T) {
	s := made(t, "ab\ncd\u00e9", 60)
	a, b := All(s), All(s)
	want := slices.Clone(a)
	for i := range a {
		a[i] = -1
	}
	_ = append(a[:1], -1, -1, -1)
	if !slices.Equal(b, want) || !slices.Equal(All(s), want) {
		t.Error(b, All(s))
	}
}
