package scene

import (
	"bytes"
	"slices"
	"strings"
	"testing"

	"scrivener/api"
)

// P23.1, P23.2: the limits and codes upon which the edges below stand.
func TestLimits(t *testing.T) {
	if api.MaxText != longest || api.MaxSide != widest || api.MaxStyle != greatest || api.MaxHigh != 1<<24 || api.MaxFolds != 1<<16 {
		t.Error("limits")
	}
	if api.OK != 0 || api.ErrRange != 1 || api.ErrLimit != 2 || api.ErrNone != 3 || api.ErrFold != 4 || api.ErrKind != 5 {
		t.Error("codes")
	}
}

// The chapter's example.
func TestExample(t *testing.T) {
	s, c := New([]byte("ab"), 9, 6)
	if c != api.OK || len(s.Rows(0)) != 2 || s.Heights().Total().High != 18 {
		t.Error(c, s.Rows(0), s.Heights().Total())
	}
}

// some are texts of all kinds: without bytes, of one line, of several, with tabs, runes of several bytes, and bytes that are none.
func some() []string {
	return []string{
		"", "a", "\n", "ab", "a\n", "\na", "\n\n", "ab cd ef", "ab\ncd\nef", "a\n\nb\n", "a\tb\n\tc\n\t", "\u00e9\u2500\U0001f600",
		"\xc3\n\xa9", "a\xff\xfeb\n\xe2\x94", "\xf0\x9f\n\x98\x80", "x\u2500y \u00e9\n\xc3", "one two three\nfour\n\nfive six\n", strings.Repeat("long ", 30) + "\nab",
	}
}

// P23.1: New of texts of all kinds in widths of all kinds; all styles are 0, there are no folds.
func TestNew(t *testing.T) {
	for _, b := range some() {
		for _, width := range []int{1, 5, 6, 7, 12, 24, 48, 60, widest} {
			s, m := made(t, b, longest, width)
			holds(t, s, m)
			anew(t, s)
			for _, r := range s.Runs() {
				if r.Style != 0 || r.Len != len(b) {
					t.Errorf("%q: %v", b, s.Runs())
				}
			}
			if len(s.Folds()) != 0 || s.Laid() != strings.Count(b, "\n")+1 {
				t.Errorf("%q: %v, %d", b, s.Folds(), s.Laid())
			}
		}
	}
}

// P23.1: a width below 1, at 1, at the greatest, above it, and far off.
func TestWidths(t *testing.T) {
	for _, c := range []struct{ width, want int }{{-1, 1}, {0, 1}, {1, 1}, {2, 2}, {widest - 1, widest - 1}, {widest, widest}, {widest + 1, widest}} {
		s, m := made(t, "ab cd\nef", longest, c.width)
		if s.Width() != c.want {
			t.Errorf("New in %d: %d", c.width, s.Width())
		}
		holds(t, s, m)
	}
	for _, width := range far {
		s, m := made(t, "ab cd\nef", longest, width)
		holds(t, s, m)
		if width < 0 && s.Width() != 1 || width > 0 && s.Width() != widest {
			t.Errorf("New in %d: %d", width, s.Width())
		}
	}
}

// P23.1: as many bytes as most, one more, and a most that may not be; the width changes nothing of that.
func TestNewCodes(t *testing.T) {
	for _, c := range []struct {
		n, most int
		want    api.Code
	}{
		{0, 0, api.OK}, {1, 0, api.ErrLimit}, {1, 1, api.OK}, {2, 1, api.ErrLimit}, {9, 10, api.OK}, {10, 10, api.OK}, {11, 10, api.ErrLimit},
		{0, -1, api.ErrRange}, {5, -1, api.ErrRange}, {5, longest, api.OK}, {0, longest, api.OK}, {0, longest + 1, api.ErrRange}, {5, longest + 1, api.ErrRange},
	} {
		for _, width := range append(slices.Clone(far), 0, 1, 6) {
			s, code := New(bytes.Repeat([]byte("\n"), c.n), c.most, width)
			if code != c.want || (s != nil) != (code == api.OK) {
				t.Errorf("New of %d, most %d: %v, %d", c.n, c.most, s, code)
			}
		}
	}
	for _, most := range far {
		if s, c := New(nil, most, 6); s != nil || c != api.ErrRange {
			t.Errorf("most %d: %v, %d", most, s, c)
		}
	}
}

// P23.1, P23.2: the longest text, and one byte more.
func TestLongestText(t *testing.T) {
	b := bytes.Repeat([]byte(strings.Repeat("x", 4095)+"\n"), longest/4096)
	if s, c := New(append(slices.Clone(b), 'x'), longest, 60); s != nil || c != api.ErrLimit {
		t.Error(s, c)
	}
	s, c := New(b, longest, 6*1000)
	told(t, c, api.OK)
	n := longest/4096 + 1
	if s.Text().Len() != longest || s.Heights().Total() != (api.Tall{Rows: 7*(n-1) + 1, High: 9 * (7*(n-1) + 1)}) || s.Laid() != n {
		t.Error(s.Text().Len(), s.Heights().Total(), s.Laid())
	}
	_, c = s.Edit(longest, 0, []byte("x"))
	told(t, c, api.ErrLimit)
	gone, c := s.Edit(longest-4, 3, []byte("y\nz"))
	told(t, c, api.OK)
	if string(gone) != "xxx" || s.Text().Len() != longest || s.Laid() != n+2 || !slices.Equal(s.Runs(), dressed(longest, 0)) {
		t.Error(gone, s.Laid())
	}
	told(t, s.Style(longest-1, longest, 2), api.OK)
	told(t, s.Fold(span(longest-2, longest)), api.OK)
	if !s.Heights().Hidden(n) || s.Heights().Hidden(n-1) || s.Laid() != n+4 {
		t.Error(s.Laid())
	}
}

// P23.1: a line whose rows are higher together than a height may be: its rows are told all the same, and other lines are as high as ever.
func TestLineThatIsTooHigh(t *testing.T) {
	n := 1 << 21
	s, c := New([]byte("a\n"+strings.Repeat("b", n)+"\nc"), longest, 1)
	told(t, c, api.OK)
	told(t, s.Fold(span(n+2, n+3)), api.OK)
	for i, want := range []api.Tall{{Rows: 1, High: 9}, {Rows: n, High: 1 << 24}, {Rows: 1, High: 9}} {
		if got, ok := s.Heights().Full(i); got != want || !ok {
			t.Errorf("the line %d: %v", i, got)
		}
	}
	if len(s.Rows(1)) != n || !s.Heights().Hidden(2) || s.Heights().Top(2) != 9+1<<24 {
		t.Error(len(s.Rows(1)), s.Heights().Top(2))
	}
}

// P23.1: Rows of the lines that there are, and of those that there are none of.
func TestRowsOfLines(t *testing.T) {
	for _, b := range some() {
		s, m := made(t, b, longest, 18)
		for _, line := range around(len(m.lines())) {
			var want []api.Laid
			if line >= 0 && line < len(m.lines()) {
				want = m.rows(line)
			}
			if got := s.Rows(line); !same(got, want) {
				t.Errorf("%q: Rows(%d): %v, want %v", b, line, got, want)
			}
		}
	}
}

// rowsAre holds the rows of a line against where each begins and ends in the line, and where its last cell ends.
func rowsAre(t *testing.T, s *Scene, line int, want ...[3]int) {
	t.Helper()
	var got [][3]int
	for _, r := range s.Rows(line) {
		got = append(got, [3]int{r.From, r.To, r.Xs[len(r.Xs)-1]})
	}
	if !slices.Equal(got, want) {
		t.Errorf("the line %d: %v, want %v", line, got, want)
	}
}

// P23.1: rows by hand: of no bytes, one, several, one of each cell; tabs reckoned from the row's beginning, not from the text's; bytes that are none.
func TestRowsByHand(t *testing.T) {
	s, _ := made(t, "abc\n\nx\tab cd\n\xff\xc3a\u00e9", longest, 60)
	rowsAre(t, s, 0, [3]int{0, 3, 18})
	rowsAre(t, s, 1, [3]int{0, 0, 0})
	rowsAre(t, s, 2, [3]int{0, 2, 48}, [3]int{2, 7, 30})
	rowsAre(t, s, 3, [3]int{0, 5, 24})
	s.Resize(18)
	rowsAre(t, s, 0, [3]int{0, 3, 18})
	rowsAre(t, s, 2, [3]int{0, 1, 6}, [3]int{1, 2, 48}, [3]int{2, 5, 18}, [3]int{5, 7, 12})
	s.Resize(6)
	rowsAre(t, s, 0, [3]int{0, 1, 6}, [3]int{1, 2, 6}, [3]int{2, 3, 6})
	rowsAre(t, s, 1, [3]int{0, 0, 0})
	rowsAre(t, s, 3, [3]int{0, 1, 6}, [3]int{1, 2, 6}, [3]int{2, 3, 6}, [3]int{3, 5, 6})
	if rows := s.Rows(2); !rows[len(rows)-1].Last || rows[0].Last {
		t.Error(rows)
	}
}

// P23.1: styles that change within a line and at its ends: which cells have them, how wide and how high the rows are.
func TestStylesOfRows(t *testing.T) {
	s, m := clad(t, "abcd\nefgh\nij", 30, dressed(2, 1, 3, 2, 1, 0, 4, 5, 2, 3), nil)
	holds(t, s, m)
	rowsAre(t, s, 0, [3]int{0, 3, 26}, [3]int{3, 4, 12})
	rowsAre(t, s, 1, [3]int{0, 3, 30}, [3]int{3, 4, 12})
	rowsAre(t, s, 2, [3]int{0, 2, 12})
	for i, want := range []api.Tall{{Rows: 2, High: 34}, {Rows: 2, High: 34}, {Rows: 1, High: 9}} {
		if got, _ := s.Heights().Full(i); got != want {
			t.Errorf("the line %d: %v", i, got)
		}
	}
	var styles []int
	for line := range 3 {
		for _, r := range s.Rows(line) {
			for _, c := range r.Cells {
				styles = append(styles, c.Style)
			}
		}
	}
	if !slices.Equal(styles, []int{1, 1, 2, 2, 0, 5, 5, 5, 3, 3}) {
		t.Error(styles)
	}
}

// P23.1, P23.4: all short texts of few kinds of bytes, with styles of all kinds, in several widths.
func TestStylesOfShortTexts(t *testing.T) {
	for _, b := range []string{"a b", "\na\n", "a\nb", "\xc3\xa9\n", "\t\n\t", "ab\nc"} {
		for k := range 81 {
			styles := []int{k % 3, k / 3 % 3 * 4, k / 9 % 3 * 2, k / 27}[:len(b)]
			m := modelOf(b, longest, 13)
			m.styles = styles
			for _, width := range []int{1, 13, 60} {
				x, y := clad(t, b, width, m.runs(), nil)
				holds(t, x, y)
			}
		}
	}
}

// P23.1: Heights of lines that are hidden: some, all but the first, none by a fold within a line, the last line.
func TestHiddenLines(t *testing.T) {
	b := "ab\ncd\nef\ngh"
	for _, c := range []struct {
		folds  []api.Span
		hidden []bool
		high   int
	}{
		{nil, []bool{false, false, false, false}, 36},
		{spans(0, 3), []bool{false, true, false, false}, 27},
		{spans(2, 3), []bool{false, true, false, false}, 27},
		{spans(3, 4), []bool{false, false, false, false}, 36},
		{spans(3, 5), []bool{false, false, false, false}, 36},
		{spans(3, 6), []bool{false, false, true, false}, 27},
		{spans(0, 11), []bool{false, true, true, true}, 9},
		{spans(2, 9), []bool{false, true, true, true}, 9},
		{spans(8, 9), []bool{false, false, false, true}, 27},
		{spans(10, 11), []bool{false, false, false, false}, 36},
		{spans(0, 3, 5, 9), []bool{false, true, true, true}, 9},
		{spans(0, 2, 5, 8), []bool{false, false, true, false}, 27},
		{spans(0, 4, 4, 6), []bool{false, true, true, false}, 18},
		{spans(0, 3, 3, 4, 4, 5), []bool{false, true, false, false}, 27},
	} {
		s, m := clad(t, b, 60, plain(b), c.folds)
		holds(t, s, m)
		for i, want := range c.hidden {
			if s.Heights().Hidden(i) != want {
				t.Errorf("%v: the line %d: hidden %v", c.folds, i, !want)
			}
			if full, _ := s.Heights().Full(i); full != (api.Tall{Rows: 1, High: 9}) {
				t.Errorf("%v: the line %d: %v", c.folds, i, full)
			}
		}
		if s.Heights().Total().High != c.high {
			t.Errorf("%v: %v", c.folds, s.Heights().Total())
		}
	}
}

// plain is runs of a text whose styles are all 0.
func plain(b string) []api.Run {
	if b == "" {
		return nil
	}
	return dressed(len(b), 0)
}

// P23.1 to P23.3: what each call tells of a nil Scene.
func TestNil(t *testing.T) {
	var s *Scene
	if s.Text() != nil || len(s.Runs()) != 0 || len(s.Folds()) != 0 || s.Width() != 0 || s.Heights() != nil || s.Laid() != 0 {
		t.Error("a nil Scene")
	}
	for _, n := range append(around(2), 0) {
		if len(s.Rows(n)) != 0 {
			t.Error(n)
		}
		gone, c := s.Edit(n, 0, nil)
		told(t, c, api.ErrRange)
		if len(gone) != 0 {
			t.Error(gone)
		}
		_, c = s.Edit(0, n, []byte("a"))
		told(t, c, api.ErrRange)
		told(t, s.Style(0, 0, n), api.ErrRange)
		told(t, s.Style(n, n, 0), api.ErrRange)
		told(t, s.Fold(span(n, n+1)), api.ErrRange)
		told(t, s.Unfold(n), api.ErrRange)
		s.Resize(n)
	}
	told(t, s.Dress(nil, nil), api.ErrRange)
	told(t, s.Dress(dressed(1, 0), spans(0, 1)), api.ErrRange)
	if s.Laid() != 0 || s.Width() != 0 {
		t.Error("a nil Scene")
	}
}

// A Scene that New did not make: what it answers is open, but each call ends, and none panics.
func TestNotMade(t *testing.T) {
	s := &Scene{}
	for _, n := range around(2) {
		s.Rows(n)
		s.Edit(n, 0, nil)
		s.Edit(0, n, []byte("a"))
		s.Style(0, 0, n)
		s.Style(n, n, 0)
		s.Fold(span(n, 1))
		s.Unfold(n)
		s.Dress(nil, nil)
		s.Resize(n)
	}
	s.Text().All()
	s.Heights().Total()
}
