package stroke

import (
	"bytes"
	"fmt"
	"math"
	"slices"
	"testing"

	"scrivener/api"
	"scrivener/cells"
	"scrivener/face"
	"scrivener/frame"
	"scrivener/glyph"
	"scrivener/metric"
	"scrivener/shade"
)

// under is what a frame has ahead of all drawing: no colour that is drawn.
const under = 0x123456

// off are numbers far below and far above all, so that sums and differences of them wrap round.
var off = []int{
	math.MinInt, math.MinInt + 1, math.MinInt / 2, -1 << 32, -1 << 31, -1<<30 - 1, -1 << 30, -1<<20 - 1, -100,
	1<<20 + 1, 1<<30 - 4, 1<<30 - 1, 1 << 30, 1<<30 + 1, 1 << 31, 1 << 32, math.MaxInt / 2, math.MaxInt - 4, math.MaxInt - 1, math.MaxInt,
}

// chance tells numbers that are the same each time.
type chance uint64

func (c *chance) below(n int) int {
	*c = *c*6364136223846793005 + 1442695040888963407
	return int(uint64(*c) >> 33 % uint64(n))
}

// cs is carets of numbers, two of each: Anchor, Head.
func cs(n ...int) []api.Caret {
	var l []api.Caret
	for i := 0; i < len(n); i += 2 {
		l = append(l, api.Caret{Anchor: n[i], Head: n[i+1]})
	}
	return l
}

// bs is bands of numbers, two of each.
func bs(n ...int) []api.Band {
	var l []api.Band
	for i := 0; i < len(n); i += 2 {
		l = append(l, api.Band{From: n[i], To: n[i+1]})
	}
	return l
}

// ns is numbers.
func ns(n ...int) []int { return n }

// styled are styles of n bytes, of the k-th kind.
func styled(n, k int) []api.Run {
	kind := [][]int{{0}, {1, 2}, {5, 5, 3, 23}, {2, 2, 2, 0, 0}, {2}, {22, 21, 8, 10}}[k%6]
	var l []api.Run
	for i := range n {
		l = append(l, api.Run{Len: 1, Style: kind[i%len(kind)]})
	}
	return l
}

// seen are all rows of a text whose styles are l, from above, none of them hidden.
func seen(text string, l []api.Run, width int) []api.Seen {
	var all []api.Seen
	y, start := 0, 0
	for line, b := range bytes.Split([]byte(text), []byte("\n")) {
		for k, r := range metric.Line(b, l, start, width) {
			all = append(all, api.Seen{Line: line, Row: k, Y: y, Start: start, Laid: r})
			y += r.Up + r.Down
		}
		start += len(b) + 1
	}
	return all
}

// some are texts of all kinds: without bytes, of one line, of several, with lines without bytes, with tabs and runs of spaces, runes of several bytes, bytes that are none.
func some() []string {
	return []string{
		"", "a", "\n", "ab cd ef", "ab\ncd\n", "a\tb\n\tc\n\t", "x  \t  y  ", "\u00e9\u2500\U0001f600", "\xc3\n\xa9", "a\xff\xfeb\n\xe2\x94",
		"x\u2500y \u00e9\n\xc3", "\n\nab\n", "long long long\nab\nlonger and longer\n\ncd ef", "~{gjpqy|_\u253c\u257f\u00ff",
	}
}

// copied is a row that is laid out, in memory of its own.
func copied(r api.Laid) api.Laid {
	r.Cells, r.Xs = slices.Clone(r.Cells), slices.Clone(r.Xs)
	return r
}

// same is whether two rows are told alike, all of them.
func same(a, b api.Drawn) bool {
	x, y := a.Laid, b.Laid
	return a.Y == b.Y && a.Fold == b.Fold && slices.Equal(a.Chosen, b.Chosen) && slices.Equal(a.Carets, b.Carets) &&
		slices.Equal(x.Cells, y.Cells) && slices.Equal(x.Xs, y.Xs) && x.Up == y.Up && x.Down == y.Down && x.From == y.From && x.To == y.To && x.Last == y.Last
}

// chooses is whether a caret chooses a place.
func chooses(l []api.Caret, at int) bool {
	for _, c := range l {
		if c.Anchor <= at && at < c.Head || c.Head <= at && at < c.Anchor {
			return true
		}
	}
	return false
}

// drawn is Drawn in the chapter's words, of a row whose Xs rise.
func drawn(r api.Seen, l []api.Caret, scroll int, fold bool) api.Drawn {
	d := api.Drawn{Y: r.Y - scroll, Laid: copied(r.Laid), Fold: fold && r.Laid.Last}
	xs, n := r.Laid.Xs, len(r.Laid.Cells)
	part := func(at, from, to int) {
		if !chooses(l, at) {
			return
		}
		if k := len(d.Chosen); k > 0 && d.Chosen[k-1].To == from {
			d.Chosen[k-1].To = to
		} else {
			d.Chosen = append(d.Chosen, api.Band{From: from, To: to})
		}
	}
	stands := func(at, x int) {
		if slices.ContainsFunc(l, func(c api.Caret) bool { return c.Head == at }) {
			d.Carets = append(d.Carets, x)
		}
	}
	for i, c := range r.Laid.Cells {
		part(r.Start+c.At, xs[i], xs[i+1])
		stands(r.Start+c.At, xs[i])
	}
	if r.Laid.Last {
		part(r.Start+r.Laid.To, xs[n], xs[n]+4)
		stands(r.Start+r.Laid.To, xs[n])
	}
	return d
}

// letters are the letters of a row's cells.
func letters(d api.Drawn) []api.Glyph {
	var l []api.Glyph
	for _, c := range d.Laid.Cells {
		l = append(l, face.Glyph(c.Style%3, cells.Show(c)))
	}
	return l
}

// pixel is what a row, whose letters are l, makes of a pixel, which was old: what lies above all else there.
func pixel(d api.Drawn, l []api.Glyph, x, y int, old uint32) uint32 {
	r := d.Laid
	in := y >= d.Y && y < d.Y+r.Up+r.Down
	right, base := x-r.Xs[len(r.Cells)], y-d.Y-r.Up
	if in && slices.Contains(d.Carets, x) {
		return 0xd00000
	}
	if d.Fold && right >= 2 && right < 6 && base >= -4 && base < 0 {
		return 0x808080
	}
	for i := len(r.Cells) - 1; i >= 0; i-- {
		c := r.Cells[i]
		if glyph.Bit(l[i], x-r.Xs[i], base+[]int{7, 7, 14}[c.Style%3]) {
			return []uint32{0x000000, 0x202080, 0x207020, 0x802020, 0x806000, 0x006868, 0x702070, 0x505050}[c.Style/3]
		}
	}
	if in && slices.ContainsFunc(d.Chosen, func(b api.Band) bool { return x >= b.From && x < b.To }) {
		return 0xb0d0ff
	}
	if in {
		return 0xffffff
	}
	return old
}

// blank is a frame of one colour.
func blank(t *testing.T, w, h int, c uint32) *frame.Frame {
	t.Helper()
	f, code := frame.New(w, h)
	if code != api.OK {
		t.Fatal(w, h, code)
	}
	f.Fill(api.Rect{W: w, H: h}, c)
	return f
}

// paints draws a row into a frame of that size, and holds each of its pixels against the chapter's words.
func paints(t *testing.T, d api.Drawn, w, h int) {
	t.Helper()
	f := blank(t, w, h, under)
	Row(f, d)
	l := letters(d)
	for y := range h {
		for x, got := range f.Line(y) {
			if want := pixel(d, l, x, y, under); got != want {
				t.Fatalf("%v in %d by %d: at %d, %d %06x, want %06x", d, w, h, x, y, got, want)
			}
		}
	}
}

// picture is a frame as lines of signs: of Paper . of Chosen : of Cursor | of Folded @ of what was there ahead _ of the inks the letters from A on.
func picture(f *frame.Frame) []string {
	w, h := f.Size()
	signs := map[uint32]byte{api.Paper: '.', api.Chosen: ':', api.Cursor: '|', api.Folded: '@', under: '_'}
	for k := range 8 {
		signs[shade.Ink(3*k)] = byte('A' + k)
	}
	var l []string
	for y := range h {
		var b []byte
		for x := range w {
			sign := signs[f.At(x, y)]
			if sign == 0 {
				sign = '?'
			}
			b = append(b, sign)
		}
		l = append(l, string(b))
	}
	return l
}

// looks holds a row, drawn into a frame of w by h, against a picture.
func looks(t *testing.T, d api.Drawn, w, h int, want ...string) {
	t.Helper()
	f := blank(t, w, h, under)
	Row(f, d)
	if got := picture(f); !slices.Equal(got, want) {
		t.Errorf("%v:", d)
		for _, s := range got {
			t.Error(s)
		}
	}
}

// key is all of a row by which it is drawn, as a text.
func key(d api.Drawn) string {
	s := fmt.Sprintf("%d %v %d %d %v %v %v %v", len(d.Laid.Cells), d.Laid.Xs, d.Laid.Up, d.Laid.Down, d.Laid.Last, d.Chosen, d.Carets, d.Fold)
	for _, c := range d.Laid.Cells {
		s += fmt.Sprintf(" %d-%d", c.Rune, c.Style)
	}
	return s
}
