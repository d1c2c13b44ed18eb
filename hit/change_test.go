package hit

import (
	"bytes"
	"math"
	"slices"
	"strings"
	"testing"

	"scrivener/api"
	"scrivener/place"
	"scrivener/scene"
)

// P25.1 to P25.4: what is told is right behind each change, one by one.
func TestBehindChanges(t *testing.T) {
	s := made(t, "ab cd\nef\ngh", 60)
	ats(t, s, 18, 0, 3, 6, 9, 7)
	words(t, s, 18, 0, 3, 5)
	holds(t, s)
	s.Resize(24)
	ats(t, s, 18, 0, 2, 6, 9, 4, 6, 18, 7)
	words(t, s, 18, 0, 2, 3, 6, 9, 3, 5)
	holds(t, s)
	told(t, s.Style(0, 1, 2), api.OK)
	ats(t, s, 12, 16, 1, 6, 17, 4, 6, 26, 7)
	holds(t, s)
	told(t, s.Fold(span(1, 7)), api.OK)
	ats(t, s, 12, 16, 1, 6, 17, 4, 6, 26, 10)
	drags(t, s, 6, 0, 0, 0)
	holds(t, s)
	_, c := s.Edit(2, 0, []byte("\u00e9\n"))
	told(t, c, api.OK)
	ats(t, s, 12, 16, 1, 18, 0, 2, 100, 0, 4, 0, 17, 12)
	words(t, s, 0, 0, 0, 4, 100, 0, 0, 4, 0, 17, 12, 14)
	holds(t, s)
	told(t, s.Unfold(2), api.OK)
	ats(t, s, 0, 17, 5, 3, 17, 5, 4, 17, 6, 0, 26, 9, 0, 35, 12)
	words(t, s, 0, 17, 5, 6, 12, 17, 6, 8)
	holds(t, s)
	told(t, s.Dress(dressed(14, 2), spans(8, 11)), api.OK)
	ats(t, s, 0, 0, 0, 6, 17, 2, 7, 17, 4, 24, 17, 4, 0, 34, 5, 0, 51, 6, 0, 68, 12)
	holds(t, s)
	_, c = s.Edit(0, 14, nil)
	told(t, c, api.OK)
	ats(t, s, 9, 9, 0)
	words(t, s, 0, 0, -1, -1)
	holds(t, s)
}

// P25.2, P25.3: an edit that makes a rune of bytes that were none, and none of one, moves what lies at pixels.
func TestBehindEditsOfRunes(t *testing.T) {
	s := made(t, "\xc3\n\xa9+", 60)
	ats(t, s, 6, 0, 1, 6, 9, 3)
	words(t, s, 6, 9, 3, 4, 0, 0, 0, 1)
	_, c := s.Edit(1, 1, nil)
	told(t, c, api.OK)
	ats(t, s, 6, 0, 2, 2, 9, 0, 12, 9, 3)
	words(t, s, 0, 9, 0, 2, 6, 0, 2, 3)
	drags(t, s, 1, 0, 0, 0)
	_, c = s.Edit(1, 0, []byte("x"))
	told(t, c, api.OK)
	ats(t, s, 6, 0, 1, 12, 0, 2, 18, 0, 3)
	words(t, s, 12, 0, 0, 3, 18, 0, 3, 4)
	drags(t, s, 1, 0, 0, 0)
	holds(t, s)
}

// state is all that a scene tells of itself.
type state struct {
	b     []byte
	l     []api.Run
	f     []api.Span
	n     [3]int
	tall  []api.Tall
	total api.Tall
}

// stateOf is what a scene tells of itself by now.
func stateOf(s *scene.Scene) state {
	o := state{b: s.Text().All(), l: s.Runs(), f: s.Folds(), n: [3]int{s.Width(), s.Laid(), s.Heights().Len()}, total: s.Heights().Total()}
	for i := range s.Heights().Len() {
		full, _ := s.Heights().Full(i)
		o.tall = append(o.tall, full)
	}
	return o
}

// P25.1 to P25.3: asking changes nothing, and tells the same twice.
func TestAskingChangesNothing(t *testing.T) {
	b := "ab cd\n\u00e9\t\xff\ngh\n\nij"
	s := clad(t, b, 18, styled(len(b), 2), spans(2, 8))
	was := stateOf(s)
	for range 2 {
		holds(t, s)
		is := stateOf(s)
		if !bytes.Equal(was.b, is.b) || !slices.Equal(was.l, is.l) || !slices.Equal(was.f, is.f) || was.n != is.n || was.total != is.total || !slices.Equal(was.tall, is.tall) {
			t.Fatal(was, is)
		}
	}
}

// way changes a scene at random; what errs changes nothing.
func way(s *scene.Scene, x *chance) {
	n := s.Text().Len()
	from := x.below(n + 1)
	to := from + x.below(n-from+1)
	switch x.below(8) {
	case 0, 1:
		pieces := []string{"a", "bc ", "\n", "\t", "\u00e9", "\xff", "\u2500\n", "\U0001f600", "x+y z", "\n\n", "\xa9", "--", "_9"}
		s.Edit(from, 0, []byte(pieces[x.below(len(pieces))]))
	case 2:
		s.Edit(from, min(to-from, 1+x.below(5)), nil)
	case 3:
		s.Style(from, to, x.below(24))
	case 4:
		s.Fold(span(from, min(to, from+6)))
	case 5:
		s.Unfold(from)
	case 6:
		s.Resize(1 + x.below(80))
	case 7:
		f := folded(n)
		s.Dress(styled(n, x.below(5)), f[x.below(len(f))])
	}
}

// P25.1 to P25.4: long ways of changes.
func TestLongWays(t *testing.T) {
	for seed := range 8 {
		x := chance(seed)
		s := made(t, "ab cd ef\n\ngh \u00e9\tij\nkl", 30)
		for range 30 {
			way(s, &x)
			holds(t, s)
		}
	}
}

// P25.4: all pixels of some texts: what lies there is shown, in the row of that height, and no other place of the row is nearer.
func TestAllPixels(t *testing.T) {
	for k, b := range some() {
		for _, f := range folded(len(b))[:min(2, 1+len(b))] {
			s := clad(t, b, 20, styled(len(b), k), f)
			rows, n := seen(s), 0
			for y := -2; y < s.Heights().Total().High+3; y++ {
				r := lies(rows, y)
				for x := -3; x < 60; x++ {
					got, ok := At(s, x, y)
					if got != r.nearest(x) || !ok || !place.Shown(s, got) {
						t.Fatalf("%q: At(%d, %d): %d, %v, want %d", b, x, y, got, ok, r.nearest(x))
					}
					n++
				}
			}
		}
	}
}

// P25.4: at where a caret stands its place lies, for all places of a longer text, in each width, with styles and folds.
func TestThereAndBack(t *testing.T) {
	b := "one two, three\tfour\n\n\u00e9\u2500 \xff\U0001f600(five)\nsix seven eight\n\tnine\nten"
	for width := 1; width < 130; width++ {
		l := folded(len(b))
		s := clad(t, b, width, styled(len(b), width), l[width%len(l)])
		for _, at := range place.All(s) {
			o, _ := place.Of(s, at)
			if got, ok := At(s, o.X, o.Y); got != at || !ok {
				t.Errorf("width %d: At(%d, %d): %d, %v, where %d stands", width, o.X, o.Y, got, ok, at)
			}
		}
	}
}

// P25.1 to P25.3: the longest text, of many lines, all but two of which are hidden in the end.
func TestLongestText(t *testing.T) {
	const n = longest / 64
	b := strings.Repeat(strings.Repeat("abcd ", 12)+"\u00e9\xe2\n", n)
	s := made(t, b, 372)
	ats(t, s, 372, 9*(n-1), longest-1, 366, 9*n-1, longest-2, 0, 9*n, longest, 0, 9*n/2, longest/2, math.MaxInt, math.MaxInt, longest, 0, math.MinInt, 0)
	words(t, s, 372, 9*(n-1), longest-4, longest-1, 0, 9*n, -1, -1, 24, 18, 132, 133, 30, 18, 133, 137)
	for _, c := range []struct{ from, to, want int }{{9 * n, 1 << 30, 1}, {9*n - 1, math.MaxInt, 2}, {9*n + 9, 1 << 30, 0}, {90, 180, 10}, {89, 181, 12}} {
		if got := Rows(s, c.from, c.to); len(got) != c.want {
			t.Errorf("Rows(%d, %d): %d rows, want %d", c.from, c.to, len(got), c.want)
		}
	}
	told(t, s.Fold(span(0, longest-1)), api.OK)
	lines(t, s, line{0, 0, 0, 9, 0, 0, 63, true}, line{n, 0, 9, 9, longest, 0, 0, true})
}

// P25.1 to P25.3: a long line of many rows, and one word of many rows.
func TestLongLine(t *testing.T) {
	const n = 1 << 14
	s := made(t, "ab\n"+strings.Repeat("abcd ", n)+"\n"+strings.Repeat("x", 5*n), 30)
	ats(t, s, 24, 9*n, 2+5*n, 30, 9*n, 3+5*n, 6, 9*n+9, 5+5*n, 0, 9*n/2, 3+5*(n/2-1), 100, math.MaxInt, 4+10*n)
	words(t, s, 0, 9*n, 5*n-2, 5*n+2, 0, 9*n+9, 4+5*n, 4+10*n, 0, math.MaxInt, 4+5*n, 4+10*n, 30, 9*n, 5*n+2, 5*n+3)
	for _, c := range []struct{ from, to, want int }{{0, math.MaxInt, 2*n + 1}, {9, 9*n + 9, n}, {9*n + 8, 9*n + 10, 2}, {18 * n, 1 << 30, 1}, {18*n + 9, 1 << 30, 0}} {
		if got := Rows(s, c.from, c.to); len(got) != c.want {
			t.Errorf("Rows(%d, %d): %d rows, want %d", c.from, c.to, len(got), c.want)
		}
	}
}

// P25.1, P25.2: a line that is higher than a height may be: all its rows are told, also those that lie beyond that height.
func TestHighestLine(t *testing.T) {
	const n = api.MaxHigh/9 + 100
	s := made(t, strings.Repeat("x", n), 1)
	ats(t, s, 0, 9*(n-2), n-2, 0, 9*n-10, n-2, 0, 9*(n-1), n-1, 6, math.MaxInt, n)
	if got := Rows(s, 9*(n-3), math.MaxInt); len(got) != 3 || got[2].Y != 9*(n-1) || got[2].Row != n-1 {
		t.Error(len(got))
	}
	words(t, s, 0, 9*(n-1), 0, n)
}
