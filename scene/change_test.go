package scene

import (
	"bytes"
	"fmt"
	"slices"
	"strings"
	"testing"

	"scrivener/api"
)

// short are all texts of up to n pieces.
func short(n int, pieces ...string) []string {
	all := []string{""}
	for from := 0; n > 0; n-- {
		to := len(all)
		for _, b := range all[from:to] {
			for _, p := range pieces {
				all = append(all, b+p)
			}
		}
		from = to
	}
	return all
}

// mixed are styles of n bytes, of the k-th kind.
func mixed(n, k int) []int {
	styles := make([]int, n)
	for i := range styles {
		styles[i] = [][]int{{0}, {1, 2}, {5, 5, 3, 23}, {2, 2, 2, 0, 0}}[k%4][i%[]int{1, 2, 4, 5}[k%4]]
	}
	return styles
}

// folded are some folds of a text of n bytes: none, of all, of the halves, of every second pair of bytes.
func folded(n int) [][]api.Span {
	all := [][]api.Span{nil}
	if n > 0 {
		all = append(all, spans(0, n))
	}
	if n > 1 {
		all = append(all, spans(0, n/2, n/2, n))
	}
	var l []api.Span
	for i := 0; i+2 <= n; i += 3 {
		l = append(l, span(i, i+2))
	}
	return append(all, l)
}

// P23.2 to P23.4: all edits of all short texts, with styles and folds, which may have one byte more; those that there are none of change nothing.
func TestEditsOfShortTexts(t *testing.T) {
	for k, b := range short(4, "a", "\n", "\u00e9") {
		for at := -1; at <= len(b)+1; at++ {
			for out := -1; out <= len(b)-at+1; out++ {
				for i, in := range []string{"", "b", "\n", "x\ny", "\xa9", "\n\n\n"} {
					l := folded(len(b))
					m := modelOf(b, longest, 12)
					m.styles = mixed(len(b), k+i)
					s, _ := made(t, b, len(b)+1, 12)
					m.most = len(b) + 1
					f := l[(k+at+out+i+2)%len(l)]
					told(t, s.Dress(m.runs(), f), api.OK)
					m.folds, m.laid = f, s.Laid()
					edits(t, s, m, at, out, in)
					holds(t, s, m)
				}
			}
		}
	}
}

// P23.2 to P23.4: edits of few texts, each with all pairs of folds.
func TestEditsOfFoldedTexts(t *testing.T) {
	b := "a\nb\nc\n\nd"
	for from := range len(b) + 1 {
		for to := from; to <= len(b); to++ {
			for _, f := range [][]api.Span{spans(from, to), spans(0, from, from, to), spans(from, to, to, len(b)), spans(0, from, to, len(b))} {
				f = slices.DeleteFunc(f, func(x api.Span) bool { return x.From == x.To })
				for at := 0; at <= len(b); at += 2 {
					for _, out := range []int{0, 1, 3, len(b) - at} {
						for _, in := range []string{"", "\n", "x\n\ny"} {
							s, m := clad(t, b, 60, plain(b), f)
							edits(t, s, m, at, out, in)
							holds(t, s, m)
						}
					}
				}
			}
		}
	}
}

// P23.2, P23.3: edits by hand, how many lines each lays out, and what is hidden behind them.
func TestEditsByHand(t *testing.T) {
	for _, c := range []struct {
		at, out int
		in      string
		gone    string
		want    string
		laid    int
		runs    []api.Run
		folds   []api.Span
		hidden  []int
	}{
		{0, 0, "", "", "ab\ncd\nef\ngh", 1, dressed(3, 1, 3, 2, 5, 3), spans(3, 6), []int{2}},
		{11, 0, "", "", "ab\ncd\nef\ngh", 1, dressed(3, 1, 3, 2, 5, 3), spans(3, 6), []int{2}},
		{0, 0, "x", "", "xab\ncd\nef\ngh", 1, dressed(4, 1, 3, 2, 5, 3), spans(4, 7), []int{2}},
		{0, 0, "\n", "", "\nab\ncd\nef\ngh", 2, dressed(4, 1, 3, 2, 5, 3), spans(4, 7), []int{3}},
		{1, 0, "x", "", "axb\ncd\nef\ngh", 1, dressed(4, 1, 3, 2, 5, 3), spans(4, 7), []int{2}},
		{2, 0, "x", "", "abx\ncd\nef\ngh", 1, dressed(4, 1, 3, 2, 5, 3), spans(4, 7), []int{2}},
		{2, 1, "", "\n", "abcd\nef\ngh", 1, dressed(2, 1, 3, 2, 5, 3), spans(2, 5), []int{1}},
		{3, 0, "x\ny", "", "ab\nx\nycd\nef\ngh", 2, dressed(6, 1, 3, 2, 5, 3), spans(6, 9), []int{3}},
		{4, 0, "\n", "", "ab\nc\nd\nef\ngh", 2, dressed(3, 1, 4, 2, 5, 3), spans(3, 7), []int{2, 3}},
		{5, 1, "", "\n", "ab\ncdef\ngh", 1, dressed(3, 1, 2, 2, 5, 3), spans(3, 5), nil},
		{5, 1, "\n", "\n", "ab\ncd\nef\ngh", 2, dressed(3, 1, 3, 2, 5, 3), spans(3, 5), nil},
		{6, 0, "\n", "", "ab\ncd\n\nef\ngh", 2, dressed(3, 1, 4, 2, 5, 3), spans(3, 6), []int{2}},
		{3, 3, "", "cd\n", "ab\nef\ngh", 1, dressed(3, 1, 5, 3), nil, nil},
		{3, 3, "x\n", "cd\n", "ab\nx\nef\ngh", 2, dressed(5, 1, 5, 3), spans(3, 3), nil},
		{2, 6, "", "\ncd\nef", "ab\ngh", 1, dressed(2, 1, 3, 3), nil, nil},
		{0, 11, "", "ab\ncd\nef\ngh", "", 1, nil, nil, nil},
		{0, 11, "x\ny", "ab\ncd\nef\ngh", "x\ny", 2, dressed(3, 0), nil, nil},
		{0, 3, "z", "ab\n", "zcd\nef\ngh", 1, dressed(4, 2, 5, 3), spans(1, 4), []int{1}},
		{8, 3, "", "\ngh", "ab\ncd\nef", 1, dressed(3, 1, 3, 2, 2, 3), spans(3, 6), []int{2}},
		{11, 0, "\n\n\n", "", "ab\ncd\nef\ngh\n\n\n", 4, dressed(3, 1, 3, 2, 8, 3), spans(3, 6), []int{2}},
	} {
		s, m := clad(t, "ab\ncd\nef\ngh", 60, dressed(3, 1, 3, 2, 5, 3), spans(3, 6))
		laid := s.Laid()
		gone, code := s.Edit(c.at, c.out, []byte(c.in))
		told(t, code, api.OK)
		m.edit(c.at, c.out, []byte(c.in))
		holds(t, s, m)
		name := fmt.Sprintf("Edit(%d, %d, %q)", c.at, c.out, c.in)
		if string(gone) != c.gone || string(s.Text().All()) != c.want || s.Laid() != laid+c.laid {
			t.Errorf("%s: %q, %q, %d lines", name, gone, s.Text().All(), s.Laid()-laid)
		}
		folds := slices.DeleteFunc(c.folds, func(f api.Span) bool { return f.From == f.To })
		if !slices.Equal(s.Runs(), c.runs) || !slices.Equal(s.Folds(), folds) {
			t.Errorf("%s: %v, %v", name, s.Runs(), s.Folds())
		}
		for i := range s.Text().Lines() {
			if s.Heights().Hidden(i) != slices.Contains(c.hidden, i) {
				t.Errorf("%s: the line %d: hidden %v", name, i, s.Heights().Hidden(i))
			}
		}
	}
}

// P23.2: edits that begin or end within a rune.
func TestEditsWithinRunes(t *testing.T) {
	b := "a\u00e9\u2500\n\U0001f600z"
	for at := range len(b) + 1 {
		for out := range len(b) - at + 1 {
			for _, in := range []string{"", "x", "\n", "\xa9", "\u00e9"} {
				s, m := clad(t, b, 12, dressed(4, 2, len(b)-4, 1), spans(1, len(b)))
				edits(t, s, m, at, out, in)
				holds(t, s, m)
			}
		}
	}
}

// P23.2: edits at places, and of so many bytes, that there are none of; which code comes first; nothing is changed.
func TestEditCodes(t *testing.T) {
	for _, b := range []string{"", "a", "ab\ncd"} {
		n := len(b)
		s, m := made(t, b, n+2, 60)
		for _, at := range around(n) {
			for _, out := range around(n) {
				if at >= 0 && at <= n && out >= 0 && out <= n-at {
					edits(t, s, m, at, out, strings.Repeat("x", out+3))
					continue
				}
				for _, in := range []string{"", "x", "xyzxyzxyz"} {
					gone, c := s.Edit(at, out, []byte(in))
					told(t, c, api.ErrRange)
					if len(gone) != 0 {
						t.Fatal(gone)
					}
				}
			}
		}
		holds(t, s, m)
	}
}

// P23.2: as many bytes as most, and one more, alone and where others go at the same time.
func TestMost(t *testing.T) {
	for most := range 8 {
		for n := range most + 1 {
			b := strings.Repeat("a\n", 4)[:n]
			for at := range n + 1 {
				for out := range n - at + 1 {
					room := most - n + out
					for _, more := range []int{0, 1, 2, 9} {
						s, m := made(t, b, most, 60)
						in := strings.Repeat("\n", room+more)
						edits(t, s, m, at, out, in)
						holds(t, s, m)
						want := n
						if more == 0 {
							want = most
						}
						if s.Text().Len() != want {
							t.Errorf("most %d: %q, Edit(%d, %d) of %d", most, b, at, out, room+more)
						}
					}
				}
			}
		}
	}
	s, _ := made(t, "abc", 3, 60)
	_, c := s.Edit(0, 0, []byte("d"))
	told(t, c, api.ErrLimit)
	_, c = s.Edit(4, 0, []byte("d"))
	told(t, c, api.ErrRange)
	_, c = s.Edit(0, 1, []byte("de"))
	told(t, c, api.ErrLimit)
	gone, c := s.Edit(0, 1, []byte("d"))
	told(t, c, api.OK)
	if string(gone) != "a" || string(s.Text().All()) != "dbc" {
		t.Error(gone, s.Text().All())
	}
}

// P23.2: a hidden line is shown again when its fold goes by an edit; lines become hidden when an edit makes them so.
func TestWhatAnEditHides(t *testing.T) {
	s, m := clad(t, "ab\ncd\nef\ngh", 60, dressed(11, 0), spans(1, 4, 7, 9))
	hides := func(want ...bool) {
		t.Helper()
		holds(t, s, m)
		for i, w := range want {
			if s.Heights().Hidden(i) != w {
				t.Errorf("the line %d: hidden %v", i, !w)
			}
		}
	}
	hides(false, true, false, true)
	edits(t, s, m, 2, 0, "\nx\ny")
	hides(false, true, true, true, false, true)
	edits(t, s, m, 8, 0, "\n")
	hides(false, true, true, true, false, false, true)
	edits(t, s, m, 1, 7, "")
	hides(false, false, false, true)
	edits(t, s, m, 5, 1, "\n\n\n")
	hides(false, false, false, true, true, true, true)
	edits(t, s, m, 4, 6, "")
	hides(false, false, false)
	if len(s.Folds()) != 0 {
		t.Error(s.Folds())
	}
}

// P23.2, P23.3: Style of all parts of short texts, to styles of all kinds, and of parts that there are none of.
func TestStyle(t *testing.T) {
	for _, b := range []string{"", "a", "\n", "ab\ncd\nef", "a\n\nb", "\u00e9\u2500\n\xff"} {
		for from := -1; from <= len(b)+1; from++ {
			for to := -1; to <= len(b)+1; to++ {
				for _, style := range []int{-1, 0, 1, 2, 5, greatest, greatest + 1} {
					m := modelOf(b, longest, 18)
					m.styles = mixed(len(b), 1)
					s, m := clad(t, b, 18, m.runs(), folded(len(b))[1%len(folded(len(b)))])
					laid := s.Laid()
					want := m.style(from, to, style)
					told(t, s.Style(from, to, style), want)
					if want != api.OK && s.Laid() != laid {
						t.Error(s.Laid())
					}
					holds(t, s, m)
				}
			}
		}
	}
}

// P23.2: the codes of Style with numbers far off, and which of them comes first.
func TestStyleCodes(t *testing.T) {
	s, m := clad(t, "ab\ncd", 60, dressed(3, 1, 2, 2), spans(1, 4))
	for _, n := range far {
		told(t, s.Style(n, n, 0), api.ErrRange)
		told(t, s.Style(0, n, 0), api.ErrRange)
		told(t, s.Style(n, 5, 0), api.ErrRange)
		told(t, s.Style(n, 5, 99), api.ErrRange)
		told(t, s.Style(0, 5, n), api.ErrKind)
		told(t, s.Style(5, 5, n), api.ErrKind)
		told(t, s.Style(3, 2, n), api.ErrRange)
	}
	holds(t, s, m)
}

// P23.3: Style by hand: no bytes, one, a whole line, several, all, to the style that is there; how many lines each lays out.
func TestStyleByHand(t *testing.T) {
	for _, c := range []struct{ from, to, style, laid int }{
		{0, 0, 3, 1}, {3, 3, 3, 1}, {2, 2, 3, 1}, {8, 8, 3, 1}, {0, 1, 3, 1}, {0, 2, 3, 1}, {0, 3, 3, 2}, {2, 3, 3, 2}, {3, 5, 3, 1}, {3, 6, 3, 2}, {1, 7, 3, 3}, {0, 8, 3, 3}, {0, 8, 0, 3}, {6, 8, 0, 1},
	} {
		s, m := made(t, "ab\ncd\nef", longest, 60)
		told(t, s.Style(c.from, c.to, c.style), api.OK)
		m.style(c.from, c.to, c.style)
		if s.Laid() != 3+c.laid {
			t.Errorf("Style(%d, %d, %d): %d lines", c.from, c.to, c.style, s.Laid()-3)
		}
		holds(t, s, m)
	}
	s, _ := made(t, "ab\ncd\nef", longest, 60)
	told(t, s.Style(3, 4, 2), api.OK)
	if full, _ := s.Heights().Full(1); full.High != 17 || s.Heights().Total().High != 35 {
		t.Error(full)
	}
}

// P23.2, P23.3: Fold and Unfold of all parts and places of a text that has folds, and far off; they lay nothing out.
func TestFoldAndUnfold(t *testing.T) {
	b := "a\nb\ncd\n\ne"
	for _, f := range [][]api.Span{nil, spans(0, 1), spans(1, 4), spans(2, 4, 4, 6), spans(0, len(b)), spans(1, 3, 5, 8), spans(len(b)-1, len(b))} {
		for from := -1; from <= len(b)+1; from++ {
			for to := -1; to <= len(b)+1; to++ {
				s, m := clad(t, b, 12, dressed(4, 1, 5, 2), f)
				told(t, s.Fold(span(from, to)), m.fold(span(from, to)))
				holds(t, s, m)
			}
			s, m := clad(t, b, 12, dressed(4, 1, 5, 2), f)
			told(t, s.Unfold(from), m.unfold(from))
			holds(t, s, m)
		}
		s, m := clad(t, b, 12, dressed(4, 1, 5, 2), f)
		for _, n := range far {
			told(t, s.Fold(span(n, n)), api.ErrRange)
			told(t, s.Fold(span(0, n)), api.ErrRange)
			told(t, s.Fold(span(n, 1)), api.ErrRange)
			told(t, s.Unfold(n), api.ErrNone)
		}
		holds(t, s, m)
	}
}

// P23.2: folds one after the other, and taken away again, in all orders of few.
func TestFoldsInAnyOrder(t *testing.T) {
	b := "a\nb\nc\nd\ne"
	all := spans(0, 2, 2, 4, 5, 7, 7, 9)
	for i := range 24 {
		order := []int{0, 1, 2, 3}
		order[0], order[i%4] = order[i%4], order[0]
		order[1], order[1+i/4%3] = order[1+i/4%3], order[1]
		order[2], order[2+i/12] = order[2+i/12], order[2]
		s, m := made(t, b, longest, 60)
		for _, k := range order {
			told(t, s.Fold(all[k]), api.OK)
			told(t, m.fold(all[k]), api.OK)
			told(t, s.Fold(all[k]), api.ErrFold)
			told(t, s.Fold(span(0, 9)), api.ErrFold)
			holds(t, s, m)
		}
		for _, k := range slices.Backward(order) {
			told(t, s.Unfold(all[k].To), m.unfold(all[k].To))
			holds(t, s, m)
			told(t, s.Unfold(all[k].From), m.unfold(all[k].From))
			holds(t, s, m)
		}
	}
}

// P23.2: as many folds as there may be, and one more.
func TestManyFolds(t *testing.T) {
	n := api.MaxFolds
	var f []api.Span
	for i := range n {
		f = append(f, span(2*i, 2*i+1))
	}
	b := strings.Repeat("\n.", n) + "\n."
	s, _ := made(t, b, longest, 60)
	told(t, s.Dress(plain(b), f), api.OK)
	if s.Heights().Total().Rows != 2 || s.Heights().Hidden(n+1) || !s.Heights().Hidden(n) {
		t.Error(s.Heights().Total())
	}
	told(t, s.Fold(span(2*n, 2*n+1)), api.ErrLimit)
	told(t, s.Fold(span(2*n-2, 2*n+1)), api.ErrFold)
	told(t, s.Dress(plain(b), append(slices.Clone(f), span(2*n, 2*n+1))), api.ErrRange)
	told(t, s.Unfold(6), api.OK)
	told(t, s.Fold(span(2*n, 2*n+1)), api.OK)
	if s.Heights().Total().Rows != 2 || s.Heights().Hidden(4) || !s.Heights().Hidden(n+1) || s.Laid() != n+2 {
		t.Error(s.Heights().Total(), s.Laid())
	}
}

// P23.2: what Dress refuses, and that it changes nothing then.
func TestDressCodes(t *testing.T) {
	b := "ab\ncd"
	s, m := clad(t, b, 60, dressed(3, 1, 2, 2), spans(1, 4))
	good, f := dressed(1, 2, 4, 3), spans(0, 2)
	for _, l := range [][]api.Run{
		nil, dressed(4, 0), dressed(6, 0), dressed(2, 0, 2, 1), dressed(2, 0, 4, 1), dressed(2, 0, 3, 0), dressed(2, 1, 0, 0, 3, 2), dressed(0, 0, 5, 1), dressed(5, 1, 0, 0),
		dressed(5, -1), dressed(5, greatest+1), dressed(2, 1, 3, greatest+1), dressed(2, -1, 5, 1), dressed(5, 1, 3, 99), dressed(-1, 1, 6, 2), dressed(6, 1, -1, 2),
		dressed(5, 1, longest, 2), dressed(5, 1, longest+1, 2), dressed(longest, 1),
	} {
		told(t, s.Dress(l, nil), api.ErrRange)
		told(t, s.Dress(l, f), api.ErrRange)
	}
	for _, n := range far {
		told(t, s.Dress(dressed(5, n), f), api.ErrRange)
		told(t, s.Dress(dressed(n, 1), f), api.ErrRange)
		told(t, s.Dress(dressed(n, 1, 5, 2), f), api.ErrRange)
		told(t, s.Dress(good, spans(n, 3)), api.ErrRange)
		told(t, s.Dress(good, spans(0, n)), api.ErrRange)
	}
	for _, l := range [][]api.Span{spans(0, 6), spans(-1, 2), spans(2, 2), spans(3, 2), spans(0, 3, 2, 4), spans(3, 4, 0, 1), spans(5, 6), spans(5, 5), spans(0, 1, 1, 1)} {
		told(t, s.Dress(good, l), api.ErrRange)
		told(t, s.Dress(s.Runs(), l), api.ErrRange)
	}
	holds(t, s, m)
	told(t, s.Dress(good, f), m.dress(good, f))
	holds(t, s, m)
	x, _ := made(t, "", longest, 60)
	told(t, x.Dress(dressed(1, 0), nil), api.ErrRange)
	told(t, x.Dress(nil, spans(0, 1)), api.ErrRange)
	told(t, x.Dress(nil, nil), api.OK)
	if x.Laid() != 1 {
		t.Error(x.Laid())
	}
}

// P23.2, P23.3: Dress from all styles of a short text to all others, and from folds to others; it lays out from the first byte that is another one to the last one.
func TestDress(t *testing.T) {
	for _, b := range []string{"a", "\n", "\na\n", "a\nb\n", "ab\nc", "\n\n\n\n"} {
		n := len(b)
		l := folded(n)
		for i := range 1 << (2 * n) {
			x, y := modelOf(b, longest, 12), modelOf(b, longest, 12)
			for k := range n {
				x.styles[k], y.styles[k] = i>>(2*k)&1, 2*(i>>(2*k+1)&1)
			}
			s, m := clad(t, b, 12, x.runs(), l[i%len(l)])
			told(t, s.Dress(y.runs(), l[i/7%len(l)]), m.dress(y.runs(), l[i/7%len(l)]))
			holds(t, s, m)
		}
	}
}

// P23.3: Dress by hand: the same, one other byte at the beginning, within, at a line feed and at the end, two lines apart.
func TestDressByHand(t *testing.T) {
	b := "ab\ncd\nef\ngh"
	for _, c := range []struct {
		l    []api.Run
		laid int
	}{
		{dressed(11, 1), 0}, {dressed(1, 0, 10, 1), 1}, {dressed(10, 1, 1, 0), 1}, {dressed(4, 1, 1, 0, 6, 1), 1}, {dressed(2, 1, 1, 0, 8, 1), 1}, {dressed(2, 1, 2, 0, 7, 1), 2},
		{dressed(1, 1, 1, 0, 5, 1, 1, 2, 3, 1), 3}, {dressed(1, 0, 9, 1, 1, 0), 4}, {dressed(11, 0), 4}, {dressed(3, 1, 8, 0), 3}, {dressed(8, 0, 3, 1), 3}, {dressed(9, 1, 2, 4), 1},
	} {
		s, m := clad(t, b, 60, dressed(11, 1), spans(1, 4))
		laid := s.Laid()
		told(t, s.Dress(c.l, spans(3, 7)), m.dress(c.l, spans(3, 7)))
		if s.Laid() != laid+c.laid {
			t.Errorf("%v: %d lines", c.l, s.Laid()-laid)
		}
		holds(t, s, m)
		told(t, s.Dress(c.l, nil), m.dress(c.l, nil))
		holds(t, s, m)
	}
	s, m := clad(t, b, 60, dressed(5, 1, 6, 2), nil)
	for _, l := range [][]api.Run{dressed(6, 1, 5, 2), dressed(5, 1, 6, 2), dressed(4, 1, 7, 2), dressed(1, 2, 3, 1, 7, 2), dressed(1, 2, 3, 1, 3, 2, 4, 0), dressed(1, 2, 3, 1, 4, 2, 3, 0)} {
		told(t, s.Dress(l, nil), m.dress(l, nil))
		holds(t, s, m)
	}
}

// P23.2, P23.3: Resize from each width to each: the same, one that is brought to the same, others; folds and styles stay.
func TestResize(t *testing.T) {
	widths := append(slices.Clone(far), -1, 0, 1, 2, 5, 6, 7, 12, 13, 18, 48, 60, widest-1, widest, widest+1)
	for _, from := range widths {
		s, m := made(t, "ab cd\ne\tf\n\ngh", longest, from)
		for k, to := range widths {
			told(t, s.Dress(m.runs(), spans(k%5, 9)), m.dress(m.runs(), spans(k%5, 9)))
			told(t, s.Style(k%7, 9, k%24), m.style(k%7, 9, k%24))
			laid := s.Laid()
			same := brought(to) == m.width
			s.Resize(to)
			m.resize(to)
			if same != (s.Laid() == laid) || !same && s.Laid() != laid+4 {
				t.Errorf("Resize from %d to %d: %d lines", from, to, s.Laid()-laid)
			}
			holds(t, s, m)
			s.Resize(to)
			holds(t, s, m)
		}
	}
}

// P23.2: what errs changes nothing, whatever there is.
func TestRefused(t *testing.T) {
	for k, b := range some() {
		m := modelOf(b, longest, 18)
		m.styles = mixed(len(b), k)
		s, _ := made(t, b, len(b), 18)
		f := folded(len(b))[k%len(folded(len(b)))]
		told(t, s.Dress(m.runs(), f), api.OK)
		m.folds, m.laid, m.most = f, s.Laid(), len(b)
		edits(t, s, m, -1, 0, "")
		edits(t, s, m, len(b)+1, 0, "")
		edits(t, s, m, 0, len(b)+1, "")
		edits(t, s, m, 0, 0, "x")
		edits(t, s, m, len(b), 0, "\n")
		told(t, s.Style(0, len(b)+1, 0), api.ErrRange)
		told(t, s.Style(0, len(b), 24), api.ErrKind)
		told(t, s.Fold(span(0, len(b)+1)), api.ErrRange)
		told(t, s.Unfold(len(b)), api.ErrNone)
		told(t, s.Dress(dressed(len(b)+1, 1), nil), api.ErrRange)
		told(t, s.Dress(m.runs(), spans(0, len(b)+1)), api.ErrRange)
		holds(t, s, m)
	}
}

// P23.1, P23.2: what was handed in is neither changed nor kept, its spare room included.
func TestWhatIsHandedIn(t *testing.T) {
	b := append(make([]byte, 0, 20), "ab\ncd"...)
	in := append(make([]byte, 0, 20), "x\ny"...)
	l := append(make([]api.Run, 0, 20), dressed(3, 1, 5, 2)...)
	f := append(make([]api.Span, 0, 20), spans(1, 3, 4, 6)...)
	s, c := New(b, 20, 60)
	told(t, c, api.OK)
	m := modelOf("ab\ncd", 20, 60)
	_, c = s.Edit(2, 0, in)
	told(t, c, api.OK)
	m.edit(2, 0, []byte("x\ny"))
	told(t, s.Dress(l, f), api.OK)
	m.dress(dressed(3, 1, 5, 2), spans(1, 3, 4, 6))
	for _, change := range []func(){
		func() { told(t, s.Fold(span(6, 7)), m.fold(span(6, 7))) },
		func() { told(t, s.Style(4, 6, 5), m.style(4, 6, 5)) },
		func() { edits(t, s, m, 3, 1, "\n\nz") },
		func() { told(t, s.Unfold(1), m.unfold(1)) },
		func() { s.Resize(7); m.resize(7) },
	} {
		change()
		holds(t, s, m)
		if string(b) != "ab\ncd" || string(in) != "x\ny" || !slices.Equal(l, dressed(3, 1, 5, 2)) || !slices.Equal(f, spans(1, 3, 4, 6)) {
			t.Fatalf("%q, %q, %v, %v", b, in, l, f)
		}
		if !bytes.Equal(b[5:20], make([]byte, 15)) || !bytes.Equal(in[3:20], make([]byte, 17)) || l[2:3][0] != (api.Run{}) || f[2:3][0] != (api.Span{}) {
			t.Fatal("the room behind")
		}
	}
	told(t, s.Dress(m.runs(), m.folds), api.OK)
	l, f = m.runs(), slices.Clone(m.folds)
	told(t, s.Dress(l, f), api.OK)
	clear(b)
	clear(in)
	clear(l)
	clear(f)
	holds(t, s, m)
}

// P23.1, P23.2: what is told is the caller's own, and stays as it is: of each kind one is written over, another one is held against what it was.
func TestWhatIsTold(t *testing.T) {
	s, m := clad(t, "ab cd\nef\ngh", 18, dressed(3, 1, 8, 2), spans(1, 4, 7, 10))
	l, f, rows := s.Runs(), s.Folds(), s.Rows(0)
	clear(s.Runs())
	clear(s.Folds())
	for _, r := range s.Rows(0) {
		clear(r.Cells)
		clear(r.Xs)
	}
	holds(t, s, m)
	gone, c := s.Edit(1, 3, []byte("xyz"))
	told(t, c, api.OK)
	m.edit(1, 3, []byte("xyz"))
	told(t, s.Style(0, 9, 5), m.style(0, 9, 5))
	told(t, s.Fold(span(0, 1)), m.fold(span(0, 1)))
	told(t, s.Unfold(8), m.unfold(8))
	if string(gone) != "b c" || !slices.Equal(l, dressed(3, 1, 8, 2)) || !slices.Equal(f, spans(1, 4, 7, 10)) {
		t.Error(gone, l, f)
	}
	if !same(rows, modelRows("ab cd\nef\ngh", dressed(3, 1, 8, 2), 18)) {
		t.Error(rows)
	}
	clear(gone)
	holds(t, s, m)
	gone = append(gone, "more"...)
	l = append(s.Runs(), dressed(1, 1)...)
	f = append(s.Folds(), spans(1, 1)...)
	holds(t, s, m)
}

// modelRows is the rows of the first line of a text with styles.
func modelRows(b string, l []api.Run, width int) []api.Laid {
	m := modelOf(b, longest, width)
	m.dress(l, nil)
	return m.rows(0)
}

// P23.4: two scenes know nothing of one another.
func TestApart(t *testing.T) {
	x, a := clad(t, "ab\ncd\nef", 12, dressed(3, 1, 5, 2), spans(1, 4))
	y, b := clad(t, "ab\ncd\nef", 12, dressed(3, 1, 5, 2), spans(1, 4))
	edits(t, x, a, 2, 2, "\n\n\n")
	told(t, x.Style(0, 4, 0), a.style(0, 4, 0))
	x.Resize(30)
	a.resize(30)
	holds(t, y, b)
	holds(t, x, a)
	told(t, y.Unfold(1), b.unfold(1))
	edits(t, y, b, 0, 8, "")
	holds(t, x, a)
	holds(t, y, b)
}

// step does one change, as chance has it, of both; mostly one that may be done.
func step(t *testing.T, x *chance, s *Scene, m *model) {
	t.Helper()
	n := len(m.b)
	from := x.below(n + 1)
	to := from + x.below(n-from+1)*x.below(2)
	switch x.below(12) {
	case 0:
		style := x.below(24)
		told(t, s.Style(from, to, style), m.style(from, to, style))
	case 1, 2, 3:
		f := span(from, min(n, from+x.below(12)))
		told(t, s.Fold(f), m.fold(f))
	case 4:
		told(t, s.Unfold(from), m.unfold(from))
	case 5:
		width := x.below(9) * x.below(30)
		s.Resize(width)
		m.resize(width)
	case 6:
		styles := slices.Clone(m.styles)
		for i := from; i < to; i += 1 + x.below(5) {
			styles[i] = x.below(24)
		}
		o := &model{b: m.b, styles: styles}
		f := slices.DeleteFunc(slices.Clone(m.folds), func(api.Span) bool { return x.below(3) == 0 })
		told(t, s.Dress(o.runs(), f), m.dress(o.runs(), f))
	default:
		in := ""
		for range x.below(7) * x.below(2) {
			in += []string{"a", "b ", "\n", "\t", "\u00e9", "\u2500", "\xff", "\xc3", "word "}[x.below(9)]
		}
		edits(t, s, m, from, min(x.below(9)*x.below(2), n-from), in)
	}
}

// P23.2 to P23.4: long ways of all kinds of changes: all is as the chapter says it, and as a new scene has it.
func TestLongWays(t *testing.T) {
	for k := range 40 {
		x := chance(k)
		s, m := made(t, some()[k%len(some())], 300, 1+x.below(80))
		for i := range 150 {
			step(t, &x, s, m)
			holds(t, s, m)
			if i%10 == 0 {
				anew(t, s)
			}
		}
	}
}

// P23.3, P23.4: a text of many lines, of which many are hidden, and many runs: each change lays out no more than it touches.
func TestManyLines(t *testing.T) {
	n := 50000
	b := strings.Repeat("ab cd\n", n)
	s, m := made(t, b, longest, 18)
	styles := make([]int, len(b))
	for i := range styles {
		styles[i] = i / 4 % 7
	}
	m.styles = styles
	told(t, s.Dress(m.runs(), spans(60, len(b)-60)), api.OK)
	if s.Laid() != 2*n+1 {
		t.Fatal(s.Laid())
	}
	m.folds, m.laid = spans(60, len(b)-60), s.Laid()
	laid := s.Laid()
	for i := range 50 {
		edits(t, s, m, 500+i*5000, 2, "\n")
		edits(t, s, m, 400, 7, "x")
		told(t, s.Style(700+i*5000, 703+i*5000, 9), m.style(700+i*5000, 703+i*5000, 9))
	}
	told(t, s.Unfold(400), m.unfold(400))
	told(t, s.Fold(span(1000, 200000)), m.fold(span(1000, 200000)))
	edits(t, s, m, 900, 150, "")
	if s.Laid() > laid+400 {
		t.Error(s.Laid() - laid)
	}
	few(t, s, m)
	s.Resize(30)
	m.resize(30)
	few(t, s, m)
}

// few holds what a scene of many lines tells against its model, the rows of all lines against those of a new one.
func few(t *testing.T, s *Scene, m *model) {
	t.Helper()
	if !bytes.Equal(s.Text().All(), m.b) || !slices.Equal(s.Runs(), m.runs()) || !slices.Equal(s.Folds(), m.folds) || s.Laid() != m.laid || s.Width() != m.width {
		t.Fatal("text, runs, folds, laid or width")
	}
	anew(t, s)
}
