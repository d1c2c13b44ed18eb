package scene

import (
	"bytes"
	"math"
	"slices"
	"testing"

	"scrivener/api"
	"scrivener/mark"
	"scrivener/metric"
)

const (
	longest  = 1 << 24
	widest   = 4096
	greatest = 23
)

// far are numbers far below and far above all, so that sums of them wrap round.
var far = []int{
	math.MinInt, math.MinInt + 1, math.MinInt / 2, -1 << 32, 1 - 1<<32, -1 << 31, -longest, -2,
	longest + 1, longest + 2, 1 << 31, 1 << 32, 1<<32 + 1, math.MaxInt / 2, math.MaxInt/2 + 1, math.MaxInt - 1, math.MaxInt,
}

// around are the numbers from -1 to n + 1, and those far off.
func around(n int) []int {
	l := slices.Clone(far)
	for i := -1; i <= n+1; i++ {
		l = append(l, i)
	}
	return l
}

// chance tells numbers that are the same each time.
type chance uint64

func (c *chance) below(n int) int {
	*c = *c*6364136223846793005 + 1442695040888963407
	return int(uint64(*c) >> 33 % uint64(n))
}

// span is a part of a text; spans are such parts of numbers, two of each.
func span(from, to int) api.Span { return api.Span{From: from, To: to} }
func spans(n ...int) []api.Span {
	var l []api.Span
	for i := 0; i < len(n); i += 2 {
		l = append(l, span(n[i], n[i+1]))
	}
	return l
}

// dressed is runs of numbers, two of each.
func dressed(n ...int) []api.Run {
	var l []api.Run
	for i := 0; i < len(n); i += 2 {
		l = append(l, api.Run{Len: n[i], Style: n[i+1]})
	}
	return l
}

// model is a scene as the chapter says it: bytes, the style of each, folds, a width, and how many lines were laid out.
type model struct {
	b      []byte
	styles []int
	folds  []api.Span
	most   int
	width  int
	laid   int
}

// modelOf is a model of a new scene.
func modelOf(s string, most, width int) *model {
	m := &model{b: []byte(s), styles: make([]int, len(s)), most: most, width: brought(width)}
	m.laid = len(m.lines())
	return m
}

// brought is a width, brought between 1 and the greatest.
func brought(width int) int {
	return min(max(width, 1), widest)
}

// lines are the bytes of all lines.
func (m *model) lines() [][]byte {
	return bytes.Split(m.b, []byte("\n"))
}

// line is the line of a place: as many line feeds as stand ahead of it.
func (m *model) line(at int) int {
	return bytes.Count(m.b[:at], []byte("\n"))
}

// start is where a line begins.
func (m *model) start(line int) int {
	at := 0
	for _, b := range m.lines()[:line] {
		at += len(b) + 1
	}
	return at
}

// runs are the bytes' styles, those side by side that are the same as one.
func (m *model) runs() []api.Run {
	var l []api.Run
	for i, style := range m.styles {
		if i > 0 && m.styles[i-1] == style {
			l[len(l)-1].Len++
		} else {
			l = append(l, api.Run{Len: 1, Style: style})
		}
	}
	return l
}

// rows are a line's rows, as 19.1 lays them out.
func (m *model) rows(line int) []api.Laid {
	return metric.Line(m.lines()[line], m.runs(), m.start(line), m.width)
}

// hidden is whether a line is one of those that a fold hides.
func (m *model) hidden(line int) bool {
	return slices.ContainsFunc(m.folds, func(f api.Span) bool { return m.line(f.From) < line && line <= m.line(f.To) })
}

// edit does what P23.2 and P23.3 say of an edit, byte by byte.
func (m *model) edit(at, out int, in []byte) ([]byte, api.Code) {
	if at < 0 || at > len(m.b) || out < 0 || out > len(m.b)-at {
		return nil, api.ErrRange
	}
	if len(m.b)-out+len(in) > m.most {
		return nil, api.ErrLimit
	}
	gone := slices.Clone(m.b[at : at+out])
	m.b = slices.Concat(m.b[:at], in, m.b[at+out:])
	left := slices.Concat(m.styles[:at], m.styles[at+out:])
	style := 0
	if len(left) > 0 {
		style = left[max(at-1, 0)]
	}
	m.styles = slices.Concat(left[:at], slices.Repeat([]int{style}, len(in)), left[at:])
	m.folds = mark.All(m.folds, api.Edit{At: at, Out: out, In: len(in)})
	m.laid += m.line(at+len(in)) - m.line(at) + 1
	return gone, api.OK
}

// style does what P23.2 and P23.3 say of a style.
func (m *model) style(from, to, style int) api.Code {
	if from < 0 || from > to || to > len(m.b) {
		return api.ErrRange
	}
	if style < 0 || style > greatest {
		return api.ErrKind
	}
	for i := from; i < to; i++ {
		m.styles[i] = style
	}
	m.laid += m.line(to) - m.line(from) + 1
	return api.OK
}

// good is whether folds are good of the text.
func (m *model) good(l []api.Span) bool {
	end := 0
	for _, f := range l {
		if f.From < end || f.To <= f.From || f.To > len(m.b) {
			return false
		}
		end = f.To
	}
	return true
}

// fold and unfold do what P14.1 says of one fold.
func (m *model) fold(f api.Span) api.Code {
	if !m.good([]api.Span{f}) {
		return api.ErrRange
	}
	if slices.ContainsFunc(m.folds, func(o api.Span) bool { return f.From < o.To && o.From < f.To }) {
		return api.ErrFold
	}
	m.folds = append(slices.Clone(m.folds), f)
	slices.SortFunc(m.folds, func(a, b api.Span) int { return a.From - b.From })
	return api.OK
}
func (m *model) unfold(at int) api.Code {
	for i, f := range m.folds {
		if f.From <= at && at < f.To {
			m.folds = slices.Concat(m.folds[:i], m.folds[i+1:])
			return api.OK
		}
	}
	return api.ErrNone
}

// each is the style of each byte of runs; false, if they are not good, or not of so many bytes.
func each(l []api.Run, n int) ([]int, bool) {
	var styles []int
	for i, r := range l {
		if r.Len < 1 || r.Len > n-len(styles) || r.Style < 0 || r.Style > greatest || i > 0 && l[i-1].Style == r.Style {
			return nil, false
		}
		styles = append(styles, slices.Repeat([]int{r.Style}, r.Len)...)
	}
	return styles, len(styles) == n
}

// dress does what P23.2 and P23.3 say of styles and folds at once.
func (m *model) dress(l []api.Run, f []api.Span) api.Code {
	styles, ok := each(l, len(m.b))
	if !ok || !m.good(f) {
		return api.ErrRange
	}
	first, last := -1, -1
	for i := range styles {
		if styles[i] != m.styles[i] {
			last = i
			if first < 0 {
				first = i
			}
		}
	}
	if first >= 0 {
		m.laid += m.line(last) - m.line(first) + 1
	}
	m.styles, m.folds = styles, slices.Clone(f)
	return api.OK
}

// resize does what P23.2 and P23.3 say of a width.
func (m *model) resize(width int) {
	if brought(width) != m.width {
		m.width = brought(width)
		m.laid += len(m.lines())
	}
}

// made is a scene and its model.
func made(t *testing.T, s string, most, width int) (*Scene, *model) {
	t.Helper()
	x, c := New([]byte(s), most, width)
	if x == nil || c != api.OK {
		t.Fatalf("New of %d bytes: %v, %d", len(s), x, c)
	}
	return x, modelOf(s, most, width)
}

// clad is a scene, and its model, with styles and folds.
func clad(t *testing.T, s string, width int, l []api.Run, f []api.Span) (*Scene, *model) {
	t.Helper()
	x, m := made(t, s, longest, width)
	told(t, x.Dress(l, f), api.OK)
	told(t, m.dress(l, f), api.OK)
	return x, m
}

// told holds a code against what it should be.
func told(t *testing.T, got, want api.Code) {
	t.Helper()
	if got != want {
		t.Fatalf("the code %d, want %d", got, want)
	}
}

// same is whether rows are the same.
func same(a, b []api.Laid) bool {
	return slices.EqualFunc(a, b, func(x, y api.Laid) bool {
		return slices.Equal(x.Cells, y.Cells) && slices.Equal(x.Xs, y.Xs) &&
			x.Up == y.Up && x.Down == y.Down && x.From == y.From && x.To == y.To && x.Last == y.Last
	})
}

// holds holds all that a scene tells against its model.
func holds(t *testing.T, s *Scene, m *model) {
	t.Helper()
	if !bytes.Equal(s.Text().All(), m.b) || s.Text().Len() != len(m.b) {
		t.Fatalf("the text %q, want %q", s.Text().All(), m.b)
	}
	if !slices.Equal(s.Runs(), m.runs()) {
		t.Fatalf("%q: the runs %v, want %v", m.b, s.Runs(), m.runs())
	}
	if !slices.Equal(s.Folds(), m.folds) {
		t.Fatalf("%q: the folds %v, want %v", m.b, s.Folds(), m.folds)
	}
	if s.Width() != m.width {
		t.Fatalf("the width %d, want %d", s.Width(), m.width)
	}
	if s.Laid() != m.laid {
		t.Fatalf("%q: laid %d, want %d", m.b, s.Laid(), m.laid)
	}
	tall(t, s, m)
}

// tall holds the rows and heights of all lines against a model.
func tall(t *testing.T, s *Scene, m *model) {
	t.Helper()
	n := len(m.lines())
	h := s.Heights()
	if h.Len() != n || s.Text().Lines() != n {
		t.Fatalf("%q: heights of %d, %d lines", m.b, h.Len(), s.Text().Lines())
	}
	all, l := api.Tall{}, m.runs()
	start := 0
	for i, b := range m.lines() {
		rows := metric.Line(b, l, start, m.width)
		start += len(b) + 1
		if !same(s.Rows(i), rows) {
			t.Fatalf("%q, %v, width %d, line %d: the rows %v, want %v", m.b, l, m.width, i, s.Rows(i), rows)
		}
		want := api.Tall{Rows: len(rows), High: metric.Sum(rows)}
		if got, ok := h.Full(i); got != want || !ok {
			t.Fatalf("%q, line %d: the height %v, want %v", m.b, i, got, want)
		}
		if got := h.Hidden(i); got != m.hidden(i) {
			t.Fatalf("%q, %v, line %d: hidden %v", m.b, m.folds, i, got)
		}
		if got := h.Top(i); got != all.High {
			t.Fatalf("%q, %v, line %d begins at %d, want %d", m.b, m.folds, i, got, all.High)
		}
		if !m.hidden(i) {
			all.Rows, all.High = all.Rows+want.Rows, all.High+want.High
		}
	}
	if h.Total() != all {
		t.Fatalf("%q, %v: in all %v, want %v", m.b, m.folds, h.Total(), all)
	}
}

// anew holds all that a scene tells, but for how many lines were laid out, against a new one of the same text, runs, folds and width.
func anew(t *testing.T, s *Scene) {
	t.Helper()
	o, c := New(s.Text().All(), longest, s.Width())
	told(t, c, api.OK)
	told(t, o.Dress(s.Runs(), s.Folds()), api.OK)
	if !bytes.Equal(s.Text().All(), o.Text().All()) || !slices.Equal(s.Runs(), o.Runs()) || !slices.Equal(s.Folds(), o.Folds()) || s.Width() != o.Width() {
		t.Fatal("text, runs, folds or width")
	}
	if s.Heights().Len() != o.Heights().Len() || s.Heights().Total() != o.Heights().Total() {
		t.Fatal(s.Heights().Total(), o.Heights().Total())
	}
	for i := range o.Heights().Len() {
		a, _ := s.Heights().Full(i)
		b, _ := o.Heights().Full(i)
		if a != b || s.Heights().Hidden(i) != o.Heights().Hidden(i) || s.Heights().Top(i) != o.Heights().Top(i) || !same(s.Rows(i), o.Rows(i)) {
			t.Fatalf("%q: the line %d: %v, want %v", s.Text().All(), i, a, b)
		}
	}
}

// edits does an edit of both, and holds what they tell against one another.
func edits(t *testing.T, s *Scene, m *model, at, out int, in string) {
	t.Helper()
	want, code := m.edit(at, out, []byte(in))
	got, c := s.Edit(at, out, []byte(in))
	if c != code || !bytes.Equal(got, want) {
		t.Fatalf("%q: Edit(%d, %d, %q): %q, %d, want %q, %d", m.b, at, out, in, got, c, want, code)
	}
}
