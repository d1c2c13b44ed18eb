package place

import (
	"bytes"
	"math"
	"slices"
	"testing"
	"unicode/utf8"

	"scrivener/api"
	"scrivener/metric"
	"scrivener/scene"
)

const longest = 1 << 24

// far are numbers far below and far above all, so that sums and differences of them wrap round.
var far = []int{
	math.MinInt, math.MinInt + 1, math.MinInt / 2, -1 << 32, 1 - 1<<32, -1 << 31, -longest, -100,
	longest + 1, 1 << 31, 1 << 32, 1<<32 + 1, math.MaxInt / 2, math.MaxInt/2 + 1, math.MaxInt - 1, math.MaxInt,
}

// around are the numbers from -2 to n + 2, and those far off.
func around(n int) []int {
	l := slices.Clone(far)
	for i := -2; i <= n+2; i++ {
		l = append(l, i)
	}
	return l
}

// chance tells numbers that are the same each time.
type chance uint64

func (c *chance) below(n int) int {
	*c = *c*6364136223846793005 + 1442695040888963407
	return int(uint64(*c) >> 33 % uint64(n))
}

// span is a part of a text; spans are such parts of numbers, two of each.
func span(from, to int) api.Span { return api.Span{From: from, To: to} }
func spans(n ...int) []api.Span {
	var l []api.Span
	for i := 0; i < len(n); i += 2 {
		l = append(l, span(n[i], n[i+1]))
	}
	return l
}

// dressed is runs of numbers, two of each; plain is those of a text whose styles are all 0.
func dressed(n ...int) []api.Run {
	var l []api.Run
	for i := 0; i < len(n); i += 2 {
		l = append(l, api.Run{Len: n[i], Style: n[i+1]})
	}
	return l
}
func plain(b string) []api.Run {
	if b == "" {
		return nil
	}
	return dressed(len(b), 0)
}

// told holds a code against what it should be.
func told(t *testing.T, got, want api.Code) {
	t.Helper()
	if got != want {
		t.Fatalf("the code %d, want %d", got, want)
	}
}

// made is a scene of a text; clad is one with styles and folds.
func made(t *testing.T, b string, width int) *scene.Scene {
	t.Helper()
	s, c := scene.New([]byte(b), longest, width)
	told(t, c, api.OK)
	return s
}
func clad(t *testing.T, b string, width int, l []api.Run, f []api.Span) *scene.Scene {
	t.Helper()
	s := made(t, b, width)
	told(t, s.Dress(l, f), api.OK)
	return s
}

// some are texts of all kinds: without bytes, of one line, of several, with lines without bytes, with tabs, runes of several bytes, and bytes that are none.
func some() []string {
	return []string{
		"", "a", "\n", "ab", "a\n", "\na", "\n\n", "ab cd ef", "ab\ncd\nef", "a\n\nb\n", "a\tb\n\tc\n\t", "\u00e9\u2500\U0001f600",
		"\xc3\n\xa9", "a\xff\xfeb\n\xe2\x94", "\xf0\x9f\n\x98\x80", "x\u2500y \u00e9\n\xc3", "one two three\nfour\n\nfive six\n",
		"\n\n\n\nab\n\n\n", "long long long\nab\nlonger and longer\n\ncd ef",
	}
}

// folded are some folds of a text of n bytes: none, of all, of its halves, of its end, of every second pair of bytes, of some more.
func folded(n int) [][]api.Span {
	all := [][]api.Span{nil}
	if n > 0 {
		all = append(all, spans(0, n), spans(n-1, n))
	}
	if n > 1 {
		all = append(all, spans(0, n/2, n/2, n), spans(n/2, n))
	}
	for step := 3; step < 6; step++ {
		var l []api.Span
		for i := 0; i+step <= n+1; i += step {
			l = append(l, span(i, i+step-1))
		}
		all = append(all, l)
	}
	return all
}

// styled are styles of n bytes, of the k-th kind.
func styled(n, k int) []api.Run {
	kind := [][]int{{0}, {1, 2}, {5, 5, 3, 23}, {2, 2, 2, 0, 0}, {2}}[k%5]
	var l []api.Run
	for i := range n {
		style := kind[i%len(kind)]
		if len(l) > 0 && l[len(l)-1].Style == style {
			l[len(l)-1].Len++
		} else {
			l = append(l, api.Run{Len: 1, Style: style})
		}
	}
	return l
}

// row is a row that is seen, as the chapter says it: its line and its number in that, where it begins from above, how high it is, all places of the text at which carets stand in it, and the x of each.
type row struct {
	line, k, y, h int
	places, xs    []int
}

// hides is whether a fold hides a line of a text.
func hides(b []byte, f []api.Span, line int) bool {
	of := func(at int) int { return bytes.Count(b[:at], []byte("\n")) }
	return slices.ContainsFunc(f, func(o api.Span) bool { return of(o.From) < line && line <= of(o.To) })
}

// seen are all rows of a scene from above, made of its bytes, styles, folds and width alone.
func seen(s *scene.Scene) []row {
	var all []row
	b, y, start := s.Text().All(), 0, 0
	for line, l := range bytes.Split(b, []byte("\n")) {
		if !hides(b, s.Folds(), line) {
			for k, r := range metric.Line(l, s.Runs(), start, s.Width()) {
				all = append(all, rowOf(r, line, k, y, start))
				y += r.Up + r.Down
			}
		}
		start += len(l) + 1
	}
	return all
}

// rowOf is a row of a line that begins at start.
func rowOf(r api.Laid, line, k, y, start int) row {
	o := row{line: line, k: k, y: y, h: r.Up + r.Down}
	for i, c := range r.Cells {
		o.places, o.xs = append(o.places, start+c.At), append(o.xs, r.Xs[i])
	}
	if r.Last {
		o.places, o.xs = append(o.places, start+r.To), append(o.xs, r.Xs[len(r.Cells)])
	}
	return o
}

// nearest is the place of a row that is nearest to x, the less of two as near.
func (r row) nearest(x int) int {
	// No row is as wide as a million: farther off nothing else is nearest.
	x = min(max(x, -1<<20), 1<<20)
	best, least := 0, math.MaxInt
	for i, at := range r.places {
		off := max(x-r.xs[i], r.xs[i]-x)
		if off < least {
			best, least = at, off
		}
	}
	return best
}

// tries are numbers at, between, ahead of and behind all x of a row, and far off both ways.
func (r row) tries() []int {
	l := []int{math.MinInt, math.MinInt + 1, -1 << 32, -1, 1 << 32, math.MaxInt - 1, math.MaxInt}
	for i, x := range r.xs {
		l = append(l, x-1, x, x+1)
		if i > 0 {
			half := (r.xs[i-1] + x) / 2
			l = append(l, half-1, half, half+1)
		}
	}
	slices.Sort(l)
	return slices.Compact(l)
}

// runes are the places of a text at which runes begin, and where it ends, as Go reads them.
func runes(b []byte) []int {
	l := []int{0}
	for at := 0; at < len(b); {
		_, n := utf8.DecodeRune(b[at:])
		at += n
		l = append(l, at)
	}
	return l
}

// shown are the places that are shown: of the runes those whose line no fold hides.
func shown(s *scene.Scene) []int {
	b, f := s.Text().All(), s.Folds()
	return slices.DeleteFunc(runes(b), func(at int) bool { return hides(b, f, bytes.Count(b[:at], []byte("\n"))) })
}

// holds holds all that is told of a scene's places against the chapter's words.
func holds(t *testing.T, s *scene.Scene) {
	t.Helper()
	rows := seen(s)
	all := shown(s)
	if got := All(s); !slices.Equal(got, all) {
		t.Fatalf("%q, %v: All: %v, want %v", s.Text().All(), s.Folds(), got, all)
	}
	n := 0
	for i, r := range rows {
		n += len(r.places)
		for j, at := range r.places {
			stand(t, s, r, j)
			if !slices.Contains(all, at) {
				t.Fatalf("%q: %d is in a row, and not shown", s.Text().All(), at)
			}
			meets(t, s, at, "Up", Up, rows, i-1)
			meets(t, s, at, "Down", Down, rows, i+1)
		}
	}
	if n != len(all) {
		t.Fatalf("%q: %d places in rows, of %d", s.Text().All(), n, len(all))
	}
	for _, at := range around(s.Text().Len()) {
		if !slices.Contains(all, at) {
			absent(t, s, at)
		}
	}
}

// stand holds what is told of the j-th place of a row alone.
func stand(t *testing.T, s *scene.Scene, r row, j int) {
	t.Helper()
	at := r.places[j]
	if !Shown(s, at) {
		t.Fatalf("%q, %v: %d is not shown", s.Text().All(), s.Folds(), at)
	}
	want := api.Spot{Line: r.line, Row: r.k, X: r.xs[j], Y: r.y, H: r.h}
	if got, ok := Of(s, at); got != want || !ok {
		t.Fatalf("%q, width %d: Of(%d): %v, %v, want %v", s.Text().All(), s.Width(), at, got, ok, want)
	}
	if got := Home(s, at); got != r.places[0] {
		t.Fatalf("%q, width %d: Home(%d): %d, want %d", s.Text().All(), s.Width(), at, got, r.places[0])
	}
	if got, want := End(s, at), r.places[len(r.places)-1]; got != want {
		t.Fatalf("%q, width %d: End(%d): %d, want %d", s.Text().All(), s.Width(), at, got, want)
	}
}

// meets holds a step from a place to the i-th of rows, which there may be none of, with x of all kinds.
func meets(t *testing.T, s *scene.Scene, at int, name string, step func(*scene.Scene, int, int) (int, bool), rows []row, i int) {
	t.Helper()
	if i < 0 || i >= len(rows) {
		for _, x := range []int{math.MinInt, -1, 0, 6, math.MaxInt} {
			if got, ok := step(s, at, x); got != 0 || ok {
				t.Fatalf("%q: %s(%d, %d): %d, %v", s.Text().All(), name, at, x, got, ok)
			}
		}
		return
	}
	for _, x := range rows[i].tries() {
		if got, ok := step(s, at, x); got != rows[i].nearest(x) || !ok {
			t.Fatalf("%q, %v, width %d: %s(%d, %d): %d, %v, want %d", s.Text().All(), s.Folds(), s.Width(), name, at, x, got, ok, rows[i].nearest(x))
		}
	}
}

// absent holds what is told of a place that is not shown.
func absent(t *testing.T, s *scene.Scene, at int) {
	t.Helper()
	if Shown(s, at) {
		t.Fatalf("%d is shown", at)
	}
	if got, ok := Of(s, at); got != (api.Spot{}) || ok {
		t.Fatalf("Of(%d): %v, %v", at, got, ok)
	}
	for _, x := range []int{math.MinInt, -1, 0, 6, 100, math.MaxInt} {
		if got, ok := Up(s, at, x); got != 0 || ok {
			t.Fatalf("Up(%d, %d): %d, %v", at, x, got, ok)
		}
		if got, ok := Down(s, at, x); got != 0 || ok {
			t.Fatalf("Down(%d, %d): %d, %v", at, x, got, ok)
		}
	}
	if Home(s, at) != at || End(s, at) != at {
		t.Fatalf("Home(%d): %d, End: %d", at, Home(s, at), End(s, at))
	}
}

// returns holds P24.4 of all places: one step and the other one with the same x are in the row of the place.
func returns(t *testing.T, s *scene.Scene, xs ...int) {
	t.Helper()
	for _, at := range All(s) {
		for _, x := range xs {
			turns(t, s, at, x, Up, Down)
			turns(t, s, at, x, Down, Up)
		}
	}
}

// turns holds one step and another one of one place and one x against where the place lies.
func turns(t *testing.T, s *scene.Scene, at, x int, to, back func(*scene.Scene, int, int) (int, bool)) {
	t.Helper()
	there, ok := to(s, at, x)
	if !ok {
		return
	}
	here, ok := back(s, there, x)
	a, _ := Of(s, at)
	b, found := Of(s, here)
	if !ok || !found || a.Line != b.Line || a.Row != b.Row || a.Y != b.Y {
		t.Fatalf("%q, width %d: from %d (%v) to %d and back to %d (%v), with %d", s.Text().All(), s.Width(), at, a, there, here, b, x)
	}
}
