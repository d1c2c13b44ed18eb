package hit

import (
	"bytes"
	"math"
	"slices"
	"strings"
	"testing"
	"unicode/utf8"

	"scrivener/api"
	"scrivener/metric"
	"scrivener/place"
	"scrivener/scene"
)

const longest = 1 << 24

// far are numbers far below and far above all, so that sums and differences of them wrap round.
var far = []int{
	math.MinInt, math.MinInt + 1, math.MinInt / 2, -1 << 32, 1 - 1<<32, -1 << 31, -1 << 30, -longest, -100,
	longest + 1, 1<<30 - 1, 1 << 30, 1<<30 + 1, 1 << 31, 1 << 32, 1<<32 + 1, math.MaxInt / 2, math.MaxInt/2 + 1, math.MaxInt - 1, math.MaxInt,
}

// around are the numbers from -2 to n + 2, and those far off.
func around(n int) []int {
	l := slices.Clone(far)
	for i := -2; i <= n+2; i++ {
		l = append(l, i)
	}
	return l
}

// chance tells numbers that are the same each time.
type chance uint64

func (c *chance) below(n int) int {
	*c = *c*6364136223846793005 + 1442695040888963407
	return int(uint64(*c) >> 33 % uint64(n))
}

// span is a part of a text; spans are such parts of numbers, two of each.
func span(from, to int) api.Span { return api.Span{From: from, To: to} }
func spans(n ...int) []api.Span {
	var l []api.Span
	for i := 0; i < len(n); i += 2 {
		l = append(l, span(n[i], n[i+1]))
	}
	return l
}

// dressed is runs of numbers, two of each; plain is those of a text whose styles are all 0.
func dressed(n ...int) []api.Run {
	var l []api.Run
	for i := 0; i < len(n); i += 2 {
		l = append(l, api.Run{Len: n[i], Style: n[i+1]})
	}
	return l
}
func plain(b string) []api.Run {
	if b == "" {
		return nil
	}
	return dressed(len(b), 0)
}

// told holds a code against what it should be.
func told(t *testing.T, got, want api.Code) {
	t.Helper()
	if got != want {
		t.Fatalf("the code %d, want %d", got, want)
	}
}

// made is a scene of a text; clad is one with styles and folds.
func made(t *testing.T, b string, width int) *scene.Scene {
	t.Helper()
	s, c := scene.New([]byte(b), longest, width)
	told(t, c, api.OK)
	return s
}
func clad(t *testing.T, b string, width int, l []api.Run, f []api.Span) *scene.Scene {
	t.Helper()
	s := made(t, b, width)
	told(t, s.Dress(l, f), api.OK)
	return s
}

// some are texts of all kinds: without bytes, of one line, of several, with lines without bytes, with tabs, runes of several bytes, bytes that are none, and bytes of all sorts side by side.
func some() []string {
	return []string{
		"", "a", "\n", "ab", "a\n", "\na", "\n\n", "ab cd ef", "ab\ncd\nef", "a\n\nb\n", "a\tb\n\tc\n\t", "\u00e9\u2500\U0001f600",
		"\xc3\n\xa9", "a\xff\xfeb\n\xe2\x94", "\xf0\x9f\n\x98\x80", "x\u2500y \u00e9\n\xc3", "one two three\nfour\n\nfive six\n",
		"\n\n\n\nab\n\n\n", "long long long\nab\nlonger and longer\n\ncd ef", "a+=b_2 \t--\u00e9c)\n  \n==\n_", " a\n\tb\n+c",
	}
}

// folded are some folds of a text of n bytes: none, of all, of its halves, of its end, of every second pair of bytes, of some more.
func folded(n int) [][]api.Span {
	all := [][]api.Span{nil}
	if n > 0 {
		all = append(all, spans(0, n), spans(n-1, n))
	}
	if n > 1 {
		all = append(all, spans(0, n/2, n/2, n), spans(n/2, n))
	}
	for step := 3; step < 6; step++ {
		var l []api.Span
		for i := 0; i+step <= n+1; i += step {
			l = append(l, span(i, i+step-1))
		}
		all = append(all, l)
	}
	return all
}

// styled are styles of n bytes, of the k-th kind.
func styled(n, k int) []api.Run {
	kind := [][]int{{0}, {1, 2}, {5, 5, 3, 23}, {2, 2, 2, 0, 0}, {2}}[k%5]
	var l []api.Run
	for i := range n {
		style := kind[i%len(kind)]
		if len(l) > 0 && l[len(l)-1].Style == style {
			l[len(l)-1].Len++
		} else {
			l = append(l, api.Run{Len: 1, Style: style})
		}
	}
	return l
}

// row is a row of a text, as the chapter says it, with how high it is, its line's bytes, all places of the text at which carets stand in it, and the x of each.
type row struct {
	api.Seen
	h          int
	b          []byte
	places, xs []int
}

// hides is whether a fold hides a line of a text.
func hides(b []byte, f []api.Span, line int) bool {
	of := func(at int) int { return bytes.Count(b[:at], []byte("\n")) }
	return slices.ContainsFunc(f, func(o api.Span) bool { return of(o.From) < line && line <= of(o.To) })
}

// seen are all rows of a scene from above, made of its bytes, styles, folds and width alone.
func seen(s *scene.Scene) []row {
	var all []row
	b, y, start := s.Text().All(), 0, 0
	for line, l := range bytes.Split(b, []byte("\n")) {
		if !hides(b, s.Folds(), line) {
			for k, r := range metric.Line(l, s.Runs(), start, s.Width()) {
				all = append(all, rowOf(api.Seen{Line: line, Row: k, Y: y, Start: start, Laid: r}, l))
				y += r.Up + r.Down
			}
		}
		start += len(l) + 1
	}
	return all
}

// rowOf is a row of a line of the bytes b.
func rowOf(r api.Seen, b []byte) row {
	o := row{Seen: r, h: r.Laid.Up + r.Laid.Down, b: b}
	for i, c := range r.Laid.Cells {
		o.places, o.xs = append(o.places, r.Start+c.At), append(o.xs, r.Laid.Xs[i])
	}
	if r.Laid.Last {
		o.places, o.xs = append(o.places, r.Start+r.Laid.To), append(o.xs, r.Laid.Xs[len(r.Laid.Cells)])
	}
	return o
}

// nearest is the place of a row that is nearest to x, the less of two as near.
func (r row) nearest(x int) int {
	// No row is as wide as a million: farther off nothing else is nearest.
	x = min(max(x, -1<<20), 1<<20)
	best, least := 0, math.MaxInt
	for i, at := range r.places {
		off := max(x-r.xs[i], r.xs[i]-x)
		if off < least {
			best, least = at, off
		}
	}
	return best
}

// tries are numbers at, between, ahead of and behind all x of a row, and far off both ways.
func (r row) tries() []int {
	l := []int{math.MinInt, math.MinInt + 1, -1 << 32, -1, 1 << 32, math.MaxInt - 1, math.MaxInt}
	for i, x := range r.xs {
		l = append(l, x-1, x, x+1)
		if i > 0 {
			half := (r.xs[i-1] + x) / 2
			l = append(l, half-1, half, half+1)
		}
	}
	slices.Sort(l)
	return slices.Compact(l)
}

// lies is the row of all in which y lies.
func lies(all []row, y int) row {
	for _, r := range all {
		if y < r.Y+r.h {
			return r
		}
	}
	return all[len(all)-1]
}

// sortOf is the sort of a byte: 0 of letters, 1 of blanks, 2 of others.
func sortOf(c byte) int {
	switch {
	case c > 0x7f || strings.IndexByte("0123456789ABCDEFGHIJKLMNOPQRSTUVWXYZ_abcdefghijklmnopqrstuvwxyz", c) >= 0:
		return 0
	case strings.IndexByte("\x20\x09", c) >= 0:
		return 1
	}
	return 2
}

// word is the word of a row at a place, found among all parts of the line's bytes; the zero one and false of a line without bytes.
func (r row) word(at int) (api.Span, bool) {
	var best api.Span
	about := min(at-r.Start, len(r.b)-1)
	for from := 0; from <= about; from++ {
		for to := about + 1; to <= len(r.b); to++ {
			part := r.b[from:to]
			alone := !slices.ContainsFunc(part, func(c byte) bool { return sortOf(c) != sortOf(part[0]) })
			if alone && to-from > best.To-best.From {
				best = span(r.Start+from, r.Start+to)
			}
		}
	}
	return best, len(r.b) > 0
}

// same is whether two rows that are seen are alike.
func same(a, b api.Seen) bool {
	x, y := a.Laid, b.Laid
	return a.Line == b.Line && a.Row == b.Row && a.Y == b.Y && a.Start == b.Start &&
		slices.Equal(x.Cells, y.Cells) && slices.Equal(x.Xs, y.Xs) && x.Up == y.Up && x.Down == y.Down && x.From == y.From && x.To == y.To && x.Last == y.Last
}

// holds holds all that is told of a scene's pixels against the chapter's words: of all heights, and of the pixels of a few heights of each row.
func holds(t *testing.T, s *scene.Scene) {
	t.Helper()
	rows := seen(s)
	last := rows[len(rows)-1]
	all := last.Y + last.h
	for _, y := range around(all) {
		if got, ok := Row(s, y); !same(got, lies(rows, y).Seen) || !ok {
			t.Fatalf("%q, %v, width %d: Row(%d): %v, %v, want %v", s.Text().All(), s.Folds(), s.Width(), y, got, ok, lies(rows, y).Seen)
		}
	}
	for _, y := range []int{math.MinInt, -1, all, math.MaxInt} {
		pixels(t, s, lies(rows, y), y)
	}
	for _, r := range rows {
		pixels(t, s, r, r.Y)
		pixels(t, s, r, r.Y+r.h-1)
		stands(t, s, r)
		reaching(t, s, rows, r.Y, r.Y+r.h)
		reaching(t, s, rows, r.Y-1, r.Y+r.h+1)
		reaching(t, s, rows, r.Y+1, r.Y+r.h-1)
		reaching(t, s, rows, r.Y+2, r.Y+2)
		reaching(t, s, rows, r.Y, r.Y)
		reaching(t, s, rows, r.Y+r.h, r.Y)
		reaching(t, s, rows, r.Y+r.h-1, r.Y+1)
	}
	for _, n := range far {
		reaching(t, s, rows, n, all/2)
		reaching(t, s, rows, all/2, n)
		reaching(t, s, rows, n, n)
	}
	reaching(t, s, rows, math.MinInt, math.MaxInt)
	reaching(t, s, rows, math.MaxInt, math.MinInt)
}

// pixels holds what lies at the pixels of the height y against what is in its row.
func pixels(t *testing.T, s *scene.Scene, r row, y int) {
	t.Helper()
	for _, x := range r.tries() {
		want := r.nearest(x)
		got, ok := At(s, x, y)
		if got != want || !ok {
			t.Fatalf("%q, %v, width %d: At(%d, %d): %d, %v, want %d", s.Text().All(), s.Folds(), s.Width(), x, y, got, ok, want)
		}
		if !place.Shown(s, got) {
			t.Fatalf("%q, %v: %d lies at %d, %d, and is not shown", s.Text().All(), s.Folds(), got, x, y)
		}
		about, is := r.word(want)
		if w, ok := Word(s, x, y); w != about || ok != is {
			t.Fatalf("%q, %v, width %d: Word(%d, %d): %v, %v, want %v", s.Text().All(), s.Folds(), s.Width(), x, y, w, ok, about)
		}
		for _, anchor := range []int{-1, 0, 1, want, want + 1, s.Text().Len(), s.Text().Len() + 1} {
			drags(t, s, anchor, x, y, want)
		}
	}
}

// drags holds what is told of dragging from a place to a pixel at which the place at lies.
func drags(t *testing.T, s *scene.Scene, anchor, x, y, at int) {
	t.Helper()
	want := api.Caret{}
	is := begins(s, anchor)
	if is {
		want = api.Caret{Anchor: anchor, Head: at}
	}
	if got, ok := Drag(s, anchor, x, y); got != want || ok != is {
		t.Fatalf("%q, %v: Drag(%d, %d, %d): %v, %v, want %v", s.Text().All(), s.Folds(), anchor, x, y, got, ok, want)
	}
}

// begins is whether a rune begins at a place, as Go reads runes, or the text ends there, in a line that no fold hides.
func begins(s *scene.Scene, at int) bool {
	b := s.Text().All()
	if at < 0 || at > len(b) || hides(b, s.Folds(), bytes.Count(b[:at], []byte("\n"))) {
		return false
	}
	for i := 0; i < len(b); {
		if i == at {
			return true
		}
		_, n := utf8.DecodeRune(b[i:])
		i += n
	}
	return at == len(b)
}

// stands holds that where a caret stands at a place of a row, that place lies, all over the row's height.
func stands(t *testing.T, s *scene.Scene, r row) {
	t.Helper()
	for i, at := range r.places {
		o, ok := place.Of(s, at)
		if !ok || o.X != r.xs[i] || o.Y != r.Y || o.H != r.h {
			t.Fatalf("%q: a caret stands at %v, %v, want %d, %d", s.Text().All(), o, ok, r.xs[i], r.Y)
		}
		for _, y := range []int{o.Y, o.Y + 1, o.Y + o.H/2, o.Y + o.H - 1} {
			if got, ok := At(s, o.X, y); got != at || !ok {
				t.Fatalf("%q, %v, width %d: At(%d, %d): %d, %v, where %d stands", s.Text().All(), s.Folds(), s.Width(), o.X, y, got, ok, at)
			}
		}
	}
}

// reaching holds Rows against the chapter's words.
func reaching(t *testing.T, s *scene.Scene, rows []row, from, to int) {
	t.Helper()
	low, high := min(max(from, 0), 1<<30), min(max(to, 0), 1<<30)
	var want []api.Seen
	for _, r := range rows {
		if r.Y+r.h > low && r.Y < high {
			want = append(want, r.Seen)
		}
	}
	if got := Rows(s, from, to); !slices.EqualFunc(got, want, same) {
		t.Fatalf("%q, %v, width %d: Rows(%d, %d): %v, want %v", s.Text().All(), s.Folds(), s.Width(), from, to, got, want)
	}
}
