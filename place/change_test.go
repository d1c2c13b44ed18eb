package place

import (
	"bytes"
	"math"
	"slices"
	"strings"
	"testing"

	"scrivener/api"
	"scrivener/scene"
)

// P24.1 to P24.3: what is told is right behind each change, one by one.
func TestBehindChanges(t *testing.T) {
	s := made(t, "ab cd\nef\ngh", 60)
	spots(t, s, 3, 0, 0, 18, 0, 9)
	holds(t, s)
	s.Resize(24)
	spots(t, s, 3, 0, 1, 0, 9, 9)
	spots(t, s, 6, 1, 0, 0, 18, 9)
	holds(t, s)
	told(t, s.Style(0, 1, 2), api.OK)
	spots(t, s, 1, 0, 0, 12, 0, 17)
	spots(t, s, 6, 1, 0, 0, 26, 9)
	holds(t, s)
	told(t, s.Fold(span(1, 7)), api.OK)
	absent(t, s, 6)
	spots(t, s, 9, 2, 0, 0, 26, 9)
	steps(t, s, step{5, 12, 1, 11}, step{5, 15, 1, 11}, step{5, 16, 2, 11}, step{9, 12, 5, -1})
	holds(t, s)
	_, c := s.Edit(2, 0, []byte("\u00e9\n"))
	told(t, c, api.OK)
	absent(t, s, 3)
	absent(t, s, 5)
	absent(t, s, 9)
	spots(t, s, 12, 3, 0, 0, 17, 9)
	steps(t, s, step{4, 12, -1, 14}, step{13, 21, 2, -1}, step{13, 22, 4, -1})
	holds(t, s)
	told(t, s.Unfold(2), api.OK)
	spots(t, s, 9, 2, 0, 0, 26, 9)
	spots(t, s, 12, 3, 0, 0, 35, 9)
	holds(t, s)
	told(t, s.Dress(dressed(14, 2), spans(8, 11)), api.OK)
	spots(t, s, 0, 0, 0, 0, 0, 17)
	spots(t, s, 4, 0, 1, 12, 17, 17, 1, 0, 0, 34, 17)
	spots(t, s, 12, 3, 0, 0, 68, 17)
	absent(t, s, 10)
	holds(t, s)
	_, c = s.Edit(0, 14, nil)
	told(t, c, api.OK)
	spots(t, s, 0, 0, 0, 0, 0, 9)
	absent(t, s, 1)
	holds(t, s)
}

// P24.1: an edit that makes a rune of bytes that were none, and none of one, moves the places.
func TestBehindEditsOfRunes(t *testing.T) {
	s := made(t, "\xc3\n\xa9", 60)
	if got := All(s); !slices.Equal(got, []int{0, 1, 2, 3}) {
		t.Error(got)
	}
	_, c := s.Edit(1, 1, nil)
	told(t, c, api.OK)
	if got := All(s); !slices.Equal(got, []int{0, 2}) || Shown(s, 1) {
		t.Error(got)
	}
	_, c = s.Edit(1, 0, []byte("x"))
	told(t, c, api.OK)
	if got := All(s); !slices.Equal(got, []int{0, 1, 2, 3}) || !Shown(s, 1) {
		t.Error(got)
	}
	holds(t, s)
}

// state is all that a scene tells of itself.
type state struct {
	b     []byte
	l     []api.Run
	f     []api.Span
	n     [3]int
	tall  []api.Tall
	total api.Tall
}

// stateOf is what a scene tells of itself by now.
func stateOf(s *scene.Scene) state {
	o := state{b: s.Text().All(), l: s.Runs(), f: s.Folds(), n: [3]int{s.Width(), s.Laid(), s.Heights().Len()}, total: s.Heights().Total()}
	for i := range s.Heights().Len() {
		full, _ := s.Heights().Full(i)
		o.tall = append(o.tall, full)
	}
	return o
}

// P24.1 to P24.3: asking changes nothing, and tells the same twice.
func TestAskingChangesNothing(t *testing.T) {
	b := "ab cd\n\u00e9\t\xff\ngh\n\nij"
	s := clad(t, b, 18, styled(len(b), 2), spans(2, 8))
	was := stateOf(s)
	for range 2 {
		holds(t, s)
		is := stateOf(s)
		if !bytes.Equal(was.b, is.b) || !slices.Equal(was.l, is.l) || !slices.Equal(was.f, is.f) || was.n != is.n || was.total != is.total || !slices.Equal(was.tall, is.tall) {
			t.Fatal(was, is)
		}
	}
}

// way changes a scene at random; what errs changes nothing.
func way(s *scene.Scene, x *chance) {
	n := s.Text().Len()
	from := x.below(n + 1)
	to := from + x.below(n-from+1)
	switch x.below(8) {
	case 0, 1:
		pieces := []string{"a", "bc ", "\n", "\t", "\u00e9", "\xff", "\u2500\n", "\U0001f600", "x y z", "\n\n", "\xa9"}
		s.Edit(from, 0, []byte(pieces[x.below(len(pieces))]))
	case 2:
		s.Edit(from, min(to-from, 1+x.below(5)), nil)
	case 3:
		s.Style(from, to, x.below(24))
	case 4:
		s.Fold(span(from, min(to, from+6)))
	case 5:
		s.Unfold(from)
	case 6:
		s.Resize(1 + x.below(80))
	case 7:
		f := folded(n)
		s.Dress(styled(n, x.below(5)), f[x.below(len(f))])
	}
}

// P24.1 to P24.4: long ways of changes.
func TestLongWays(t *testing.T) {
	for seed := range 12 {
		x := chance(seed)
		s := made(t, "ab cd ef\n\ngh \u00e9\tij\nkl", 30)
		for range 60 {
			way(s, &x)
			holds(t, s)
			returns(t, s, -5, 0, x.below(100), 1000)
		}
	}
}

// P24.2: a way up from the last place of a text, and down again, meets each row once, and no other.
func TestWayThrough(t *testing.T) {
	b := strings.Repeat("one two three\n\nfour \u00e9\u2500\tfive\n", 20)
	s := clad(t, b, 40, styled(len(b), 3), spans(20, 50, 90, 91, 100, 160))
	rows := seen(s)
	for _, x := range []int{math.MinInt, 0, 9, 17, 40, math.MaxInt} {
		at, ok := len(b), true
		for i := len(rows) - 1; i >= 0; i-- {
			if i < len(rows)-1 && at != rows[i].nearest(x) || !ok {
				t.Fatalf("the row %d: %d, %v", i, at, ok)
			}
			if i > 0 {
				at, ok = Up(s, at, x)
			}
		}
		for i := range rows {
			if at != rows[i].nearest(x) || !ok {
				t.Fatalf("the row %d: %d, %v", i, at, ok)
			}
			if i < len(rows)-1 {
				at, ok = Down(s, at, x)
			}
		}
	}
}

// P24.1 to P24.3: the longest text, of many lines, all but two of which are hidden in the end.
func TestLongestText(t *testing.T) {
	const n = longest / 64
	b := strings.Repeat(strings.Repeat("abcd ", 12)+"\u00e9\xe2\n", n)
	s := made(t, b, 372)
	if got := All(s); len(got) != 63*n+1 || got[63*n] != longest || got[63] != 64 || got[61] != 62 {
		t.Fatal(len(got))
	}
	spots(t, s, longest-1, n-1, 0, 372, 9*(n-1), 9, n, 0, 0, 9*n, 9)
	steps(t, s, step{longest - 1, 6, longest - 127, longest}, step{longest, 372, longest - 1, -1}, step{0, 7, -1, 65})
	absent(t, s, longest+1)
	told(t, s.Fold(span(0, longest-1)), api.OK)
	spots(t, s, longest, n, 0, 0, 9, 9)
	steps(t, s, step{longest, 7, 1, -1}, step{0, 7, -1, longest}, step{64, 0, -1, -1}, step{longest - 1, 0, -1, -1})
	if got := All(s); len(got) != 64 || got[62] != 63 || got[63] != longest {
		t.Error(got)
	}
}

// P24.1, P24.2: a long line of many rows.
func TestLongLine(t *testing.T) {
	const n = 1 << 16
	s := made(t, "ab\n"+strings.Repeat("abcd ", n)+"\ncd", 30)
	end := 3 + 5*n
	spots(t, s, end-1, 1, n-1, 24, 9*n, 9, 1, n-1, 30, 9*n, 9, 2, 0, 0, 9*n+9, 9)
	steps(t, s, step{end, 100, end - 6, end + 3}, step{end + 1, 12, end - 3, -1}, step{2, 12, -1, 5}, step{3, 0, 0, 8})
	ends(t, s, end-5, end-4, end-3, end-2, end-1, end)
	ends(t, s, end-10, end-9, end-8, end-7, end-6)
}
