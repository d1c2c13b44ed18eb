package stroke

import (
	"math"
	"slices"
	"strings"
	"testing"

	"scrivener/api"
	"scrivener/band"
	"scrivener/carets"
	"scrivener/frame"
)

// tells holds what Drawn tells of a row against what should be chosen, and where carets should stand.
func tells(t *testing.T, r api.Seen, l []api.Caret, chosen []api.Band, stand []int) {
	t.Helper()
	for _, scroll := range []int{0, 5, -7} {
		for _, fold := range []bool{false, true} {
			want := api.Drawn{Y: r.Y - scroll, Laid: r.Laid, Chosen: chosen, Carets: stand, Fold: fold && r.Laid.Last}
			if got := Drawn(r, l, scroll, fold); !same(got, want) {
				t.Errorf("Drawn(%v, %v, %d, %v): %v, want %v", r, l, scroll, fold, got, want)
			}
		}
	}
}

// P26.1: a row that begins its line, the one behind it that is the line's last, and the one of the next line.
func TestDrawnByHand(t *testing.T) {
	rows := seen("ab cd\nef", nil, 24)
	for _, c := range []struct {
		row    int
		l      []api.Caret
		chosen []api.Band
		stand  []int
	}{
		{0, nil, nil, nil},
		{0, cs(0, 0), nil, ns(0)},
		{0, cs(1, 1), nil, ns(6)},
		{0, cs(2, 2), nil, ns(12)},
		{0, cs(3, 3), nil, nil},
		{1, cs(3, 3), nil, ns(0)},
		{1, cs(2, 2), nil, nil},
		{1, cs(4, 4), nil, ns(6)},
		{1, cs(5, 5), nil, ns(12)},
		{1, cs(6, 6), nil, nil},
		{2, cs(5, 5), nil, nil},
		{2, cs(6, 6), nil, ns(0)},
		{2, cs(8, 8), nil, ns(12)},
		{2, cs(9, 9), nil, nil},
		{2, cs(-1, -1), nil, nil},
		{0, cs(0, 1), bs(0, 6), ns(6)},
		{0, cs(1, 0), bs(0, 6), ns(0)},
		{0, cs(0, 3), bs(0, 18), nil},
		{0, cs(3, 0), bs(0, 18), ns(0)},
		{1, cs(0, 3), nil, ns(0)},
		{1, cs(3, 0), nil, nil},
		{0, cs(1, 5), bs(6, 18), nil},
		{1, cs(1, 5), bs(0, 12), ns(12)},
		{1, cs(5, 1), bs(0, 12), nil},
		{1, cs(1, 6), bs(0, 16), nil},
		{1, cs(6, 1), bs(0, 16), nil},
		{1, cs(5, 6), bs(12, 16), nil},
		{1, cs(6, 5), bs(12, 16), ns(12)},
		{1, cs(4, 6), bs(6, 16), nil},
		{2, cs(4, 6), nil, ns(0)},
		{2, cs(0, 8), bs(0, 12), ns(12)},
		{2, cs(0, 9), bs(0, 16), nil},
		{2, cs(8, 9), bs(12, 16), nil},
		{2, cs(9, 8), bs(12, 16), ns(12)},
		{2, cs(9, 20), nil, nil},
		{0, cs(0, 1, 1, 2), bs(0, 12), ns(6, 12)},
		{0, cs(0, 1, 2, 3), bs(0, 6, 12, 18), ns(6)},
		{0, cs(2, 3, 0, 1), bs(0, 6, 12, 18), ns(6)},
		{0, cs(0, 2, 1, 3), bs(0, 18), ns(12)},
		{0, cs(2, 0, 3, 1), bs(0, 18), ns(0, 6)},
		{0, cs(2, 2, 1, 1, 0, 0), nil, ns(0, 6, 12)},
		{0, cs(1, 1, 1, 1), nil, ns(6)},
		{0, cs(0, 1, 3, 1), bs(0, 18), ns(6)},
		{1, cs(3, 4, 5, 6), bs(0, 6, 12, 16), ns(6)},
		{1, cs(3, 5, 5, 5), bs(0, 12), ns(12)},
		{0, cs(-9, 99), bs(0, 18), nil},
		{1, cs(99, -9), bs(0, 16), nil},
		{1, cs(math.MinInt, math.MaxInt), bs(0, 16), nil},
		{1, cs(math.MaxInt, math.MinInt), bs(0, 16), nil},
		{2, cs(math.MinInt, 7, 8, math.MaxInt), bs(0, 6, 12, 16), ns(6)},
	} {
		tells(t, rows[c.row], c.l, c.chosen, c.stand)
	}
}

// P26.1: a row without cells has but its line's end.
func TestDrawnOfNoCells(t *testing.T) {
	for _, start := range []int{0, 1, 7} {
		r := api.Seen{Line: 3, Y: 20, Start: start, Laid: seen("", nil, 9)[0].Laid}
		tells(t, r, nil, nil, nil)
		tells(t, r, cs(start, start), nil, ns(0))
		tells(t, r, cs(start+1, start+1), nil, nil)
		tells(t, r, cs(start-1, start-1), nil, nil)
		tells(t, r, cs(start, start+1), bs(0, 4), nil)
		tells(t, r, cs(start+1, start), bs(0, 4), ns(0))
		tells(t, r, cs(start-1, start), nil, ns(0))
		tells(t, r, cs(start-1, start+1), bs(0, 4), nil)
		tells(t, r, cs(start, start, start, start), nil, ns(0))
	}
}

// P26.1: a row of one cell that is not the last of its line, and one that is.
func TestDrawnOfOneCell(t *testing.T) {
	rows := seen("ab", []api.Run{{Len: 2, Style: 2}}, 1)
	tells(t, rows[0], cs(0, 0), nil, ns(0))
	tells(t, rows[0], cs(1, 1), nil, nil)
	tells(t, rows[0], cs(0, 2), bs(0, 12), nil)
	tells(t, rows[0], cs(1, 2), nil, nil)
	tells(t, rows[0], cs(9, 0), bs(0, 12), ns(0))
	tells(t, rows[1], cs(0, 0), nil, nil)
	tells(t, rows[1], cs(1, 1), nil, ns(0))
	tells(t, rows[1], cs(0, 2), bs(0, 12), ns(12))
	tells(t, rows[1], cs(1, 3), bs(0, 16), nil)
	tells(t, rows[1], cs(2, 3), bs(12, 16), nil)
}

// P26.1: a rune of several bytes is chosen where its first byte is; within it no caret stands.
func TestDrawnWithinRunes(t *testing.T) {
	r := seen("x\u2500\xff\u00e9", nil, 99)[0] // at 0, 1, 4 and 5; it ends at 7
	tells(t, r, cs(1, 2), bs(6, 12), nil)
	tells(t, r, cs(2, 3), nil, nil)
	tells(t, r, cs(2, 4), nil, ns(18-6))
	tells(t, r, cs(3, 5), bs(12, 18), ns(18))
	tells(t, r, cs(4, 2), nil, nil)
	tells(t, r, cs(6, 1), bs(6, 24), ns(6))
	tells(t, r, cs(6, 7), nil, ns(24))
	tells(t, r, cs(6, 8), bs(24, 28), nil)
	tells(t, r, cs(2, 2, 3, 3, 6, 6), nil, nil)
	tells(t, r, cs(5, 5, 4, 4, 7, 7), nil, ns(12, 18, 24))
}

// P26.1: tabs are as wide as they are there, letters as their faces are.
func TestDrawnOfTabs(t *testing.T) {
	r := seen("a\tb\t", []api.Run{{Len: 1, Style: 1}, {Len: 1}, {Len: 1, Style: 5}}, 200)[0]
	tells(t, r, cs(1, 2), bs(7, 48), ns(48))
	tells(t, r, cs(0, 1), bs(0, 7), ns(7))
	tells(t, r, cs(2, 3), bs(48, 60), ns(60))
	tells(t, r, cs(0, 1, 3, 5), bs(0, 7, 60, 100), ns(7))
	tells(t, r, cs(4, 4), nil, ns(96))
}

// P26.1: of rows of texts of all kinds, with each caret that chooses something or nothing, and with two of them.
func TestDrawnOfAll(t *testing.T) {
	c := chance(26)
	for i, text := range some() {
		n := len(text)
		for _, width := range []int{1, 13, 24, 60, 4096} {
			for _, r := range seen(text, styled(n, i), width) {
				for anchor := -1; anchor <= n+1; anchor++ {
					for head := -1; head <= n+1; head++ {
						l := cs(anchor, head)
						if c.below(2) == 0 {
							l = append(l, cs(c.below(n+2), c.below(n+2))...)
						}
						scroll, fold := c.below(99)-49, c.below(2) == 0
						if got, want := Drawn(r, l, scroll, fold), drawn(r, l, scroll, fold); !same(got, want) {
							t.Fatalf("%q: Drawn(%v, %v, %d, %v): %v, want %v", text, r, l, scroll, fold, got, want)
						}
					}
				}
			}
		}
	}
}

// P26.1: of rows with many carets, in no order, that meet one another as they will.
func TestDrawnOfMany(t *testing.T) {
	c := chance(261)
	for i := range 4000 {
		text := some()[c.below(len(some()))]
		n := len(text)
		var l []api.Caret
		for range c.below(7) {
			at := c.below(n + 3)
			l = append(l, cs(at-1, at+c.below(5)-3)...)
		}
		for _, r := range seen(text, styled(n, i), 1+c.below(80)) {
			if got, want := Drawn(r, l, i, true), drawn(r, l, i, true); !same(got, want) {
				t.Fatalf("%q: Drawn(%v, %v): %v, want %v", text, r, l, got, want)
			}
		}
	}
}

// P26.1: what is chosen are just the cells that carets.Chosen tells; all that is told of a row is as it was given.
func TestDrawnOfChosen(t *testing.T) {
	r := seen("abcdef gh", nil, 99)[0]
	for mask := range 1 << 10 {
		var l []api.Caret
		for i := range 10 {
			if mask>>i&1 == 1 {
				l = append(l, cs(i, i+1)...)
			}
		}
		d := Drawn(r, l, 0, false)
		for x := -2; x < 64; x++ {
			at := max(x, 0) / 6
			in := slices.ContainsFunc(d.Chosen, func(b api.Band) bool { return x >= b.From && x < b.To })
			if want := x >= 0 && x < 58 && carets.Chosen(l, at); in != want {
				t.Fatalf("%v: %d chosen: %v, want %v", d, x, in, want)
			}
		}
	}
}

// P26.1: scroll moves a row up, below 0 down, however far.
func TestDrawnScrolled(t *testing.T) {
	r := seen("a\nb", nil, 9)[1]
	for _, c := range [][2]int{{0, 9}, {1, 8}, {9, 0}, {10, -1}, {-1, 10}, {1 << 20, 9 - 1<<20}, {-1 << 20, 9 + 1<<20}, {math.MaxInt, 9 - math.MaxInt}, {-1 << 62, 9 + 1<<62}} {
		if d := Drawn(r, nil, c[0], false); d.Y != c[1] {
			t.Errorf("scroll %d: %d, want %d", c[0], d.Y, c[1])
		}
	}
	r.Y = -5
	if d := Drawn(r, nil, 3, false); d.Y != -8 {
		t.Error(d.Y)
	}
}

// P26.1: a row that stands far off in its text, and carets far off.
func TestDrawnFar(t *testing.T) {
	for _, start := range []int{1 << 24, 1 << 40, -1 << 40, -3} {
		r := seen("ab", nil, 99)[0]
		r.Start = start
		tells(t, r, cs(start, start+1), bs(0, 6), ns(6))
		tells(t, r, cs(start+3, start+2), bs(12, 16), ns(12))
		tells(t, r, cs(start+3, start+4, start-1, start-1), nil, nil)
		for _, n := range off {
			l := cs(n, n)
			if got, want := Drawn(r, l, 0, true), drawn(r, l, 0, true); !same(got, want) {
				t.Errorf("start %d, %v: %v, want %v", start, l, got, want)
			}
		}
	}
}

// A row that is not as rows are laid out: what has no place of its own is left out, and nothing else goes wrong.
func TestDrawnOfOthers(t *testing.T) {
	r := seen("abc", nil, 99)[0]
	for n := range 7 {
		for _, cells := range []int{0, 1, 3} {
			o := r
			o.Laid.Xs = []int{0, 6, 12, 18, 24, 30, 36}[:n]
			o.Laid.Cells = r.Laid.Cells[:cells]
			d := Drawn(o, cs(0, 0, 1, 9, 3, 3), 0, true)
			if len(d.Laid.Xs) != n || len(d.Laid.Cells) != cells {
				t.Error(d)
			}
		}
	}
	for _, n := range off {
		for _, m := range off {
			o := r
			o.Y, o.Start, o.Laid.To = n, m, n
			o.Laid.Xs = ns(m, n, n, m)
			o.Laid.Cells = []api.Cell{{At: n}, {At: m, N: n}, {At: n, Style: n}}
			d := Drawn(o, cs(n, m, m, m, n, n, m, n), m, true)
			Row(blank(t, 2, 2, under), d)
		}
	}
	got := Drawn(api.Seen{}, cs(0, 0, 0, 1), 0, true)
	if !same(got, api.Drawn{}) {
		t.Error(got)
	}
	got = Drawn(api.Seen{Laid: api.Laid{Last: true}}, cs(0, 0, 0, 1), 0, true)
	if !same(got, api.Drawn{Laid: api.Laid{Last: true}, Fold: true}) {
		t.Error(got)
	}
	// Xs that go back: a cell that ends ahead of where it begins has no pixels; xs are told from the left, each once.
	o := r
	o.Laid.Xs = ns(20, 6, 20, 12)
	if d := Drawn(o, cs(0, 0, 1, 1, 2, 3, 0, 9), 0, false); !slices.Equal(d.Chosen, bs(6, 20)) || !slices.Equal(d.Carets, ns(6, 12, 20)) {
		t.Error(d)
	}
	// Places that go back: each cell is asked for its own.
	o = r
	o.Laid.Cells = []api.Cell{{At: 9}, {At: 4}, {At: 7}}
	if d := Drawn(o, cs(9, 10), 0, false); !slices.Equal(d.Chosen, bs(0, 6)) || len(d.Carets) != 0 {
		t.Error(d)
	}
	if d := Drawn(o, cs(7, 9), 0, false); !slices.Equal(d.Chosen, bs(12, 18)) || !slices.Equal(d.Carets, ns(0)) {
		t.Error(d)
	}
	o.Laid.Cells = []api.Cell{{At: -5}, {At: 4}, {At: -9}}
	if d := Drawn(o, cs(-5, -5, -9, -8), 0, false); !slices.Equal(d.Chosen, bs(12, 18)) || !slices.Equal(d.Carets, ns(0)) {
		t.Error(d)
	}
	o.Laid.Cells = []api.Cell{{At: 9}, {At: 4}, {At: 7}}
	if d := Drawn(o, cs(5, 4, 3, 3), 0, false); !slices.Equal(d.Chosen, bs(6, 12)) || !slices.Equal(d.Carets, ns(6, 18)) {
		t.Error(d)
	}
}

// What is given to Drawn stays as it was, its spare room too, and what is answered is new memory.
func TestDrawnMemory(t *testing.T) {
	r := seen("ab cd", styled(5, 2), 99)[0]
	r.Laid.Cells = append(slices.Clone(r.Laid.Cells), api.Cell{At: 77}, api.Cell{At: 78})[:5]
	r.Laid.Xs = append(slices.Clone(r.Laid.Xs), 77, 78)[:6]
	l := append(cs(5, 4, 3, 2, 0, 1), cs(77, 77, 78, 78)...)[:3]
	given, all, xs, many := copied(r.Laid), slices.Clone(r.Laid.Cells[:7]), slices.Clone(r.Laid.Xs[:8]), slices.Clone(l[:5])
	a, b := Drawn(r, l, 0, true), Drawn(r, l, 0, true)
	want := drawn(r, l, 0, true)
	for i := range a.Laid.Cells {
		a.Laid.Cells[i] = api.Cell{At: -1}
	}
	for i := range a.Laid.Xs {
		a.Laid.Xs[i] = -1
	}
	for i := range a.Chosen {
		a.Chosen[i] = api.Band{From: -1}
	}
	for i := range a.Carets {
		a.Carets[i] = -1
	}
	_ = append(a.Laid.Cells, api.Cell{At: -1}, api.Cell{At: -1})
	_ = append(a.Laid.Xs, -1, -1)
	_ = append(a.Chosen, api.Band{From: -1}, api.Band{From: -1})
	_ = append(a.Carets, -1, -1)
	if !same(b, want) || !same(Drawn(r, l, 0, true), want) {
		t.Error(b, want)
	}
	if !slices.Equal(r.Laid.Cells[:7], all) || !slices.Equal(r.Laid.Xs[:8], xs) || !slices.Equal(l[:5], many) || !slices.Equal(given.Cells, all[:5]) {
		t.Error(r, l)
	}
	r.Laid.Cells[0], r.Laid.Xs[0], l[0] = api.Cell{At: 9}, 9, api.Caret{Anchor: 9, Head: 9}
	if !same(b, want) {
		t.Error(b)
	}
}

// P26.1: Height is how high the row is, whatever else it is; 0, where metric tells none.
func TestHeight(t *testing.T) {
	for _, c := range [][3]int{{7, 2, 9}, {14, 3, 17}, {0, 0, 0}, {0, 5, 5}, {64, 64, 128}, {65, 0, 65}, {1 << 20, 1 << 20, 1 << 21}, {1<<20 + 1, 0, 0}, {0, 1<<20 + 1, 0}, {-1, 9, 0}, {9, -1, 0}, {math.MaxInt, 1, 0}, {math.MinInt, 0, 0}} {
		for _, y := range []int{0, -5, math.MaxInt} {
			if got := Height(api.Drawn{Y: y, Laid: api.Laid{Up: c[0], Down: c[1]}, Fold: true}); got != c[2] {
				t.Errorf("Up %d, Down %d: %d, want %d", c[0], c[1], got, c[2])
			}
		}
	}
	for _, r := range seen("ab\n\ncd", []api.Run{{Len: 1, Style: 2}}, 9) {
		if got := Height(Drawn(r, nil, 5, true)); got != r.Laid.Up+r.Laid.Down {
			t.Error(r, got)
		}
	}
}

// P26.3: each thing that counts, and each that does not, changed alone.
func TestSame(t *testing.T) {
	base := func() api.Drawn {
		d := Drawn(seen("x\nab c", styled(7, 1), 99)[1], cs(2, 3, 5, 6), 0, true)
		d.Chosen, d.Carets = bs(0, 7, 12, 18), ns(7, 30)
		return d
	}
	for i, c := range []struct {
		same   bool
		change func(d *api.Drawn)
	}{
		{true, func(d *api.Drawn) {}},
		{true, func(d *api.Drawn) { d.Y++ }},
		{true, func(d *api.Drawn) { d.Y = math.MinInt }},
		{true, func(d *api.Drawn) { d.Laid.From++ }},
		{true, func(d *api.Drawn) { d.Laid.To-- }},
		{true, func(d *api.Drawn) { d.Laid.Cells[0].At = 9 }},
		{true, func(d *api.Drawn) { d.Laid.Cells[3].At = -1 }},
		{true, func(d *api.Drawn) { d.Laid.Cells[0].N = 9 }},
		{true, func(d *api.Drawn) { d.Laid.Cells[3].N = -1 }},
		{false, func(d *api.Drawn) { d.Laid.Cells[0].Rune++ }},
		{false, func(d *api.Drawn) { d.Laid.Cells[3].Rune = 9 }},
		{false, func(d *api.Drawn) { d.Laid.Cells[2].Rune = 9 }},
		{false, func(d *api.Drawn) { d.Laid.Cells[0].Style += 3 }},
		{false, func(d *api.Drawn) { d.Laid.Cells[3].Style-- }},
		{false, func(d *api.Drawn) { d.Laid.Cells = d.Laid.Cells[:3] }},
		{false, func(d *api.Drawn) { d.Laid.Cells = append(d.Laid.Cells, d.Laid.Cells[3]) }},
		{false, func(d *api.Drawn) { d.Laid.Cells = nil }},
		{false, func(d *api.Drawn) { d.Laid.Xs[0]++ }},
		{false, func(d *api.Drawn) { d.Laid.Xs[4]++ }},
		{false, func(d *api.Drawn) { d.Laid.Xs = d.Laid.Xs[:4] }},
		{false, func(d *api.Drawn) { d.Laid.Xs = append(d.Laid.Xs, 99) }},
		{false, func(d *api.Drawn) { d.Laid.Xs = nil }},
		{false, func(d *api.Drawn) { d.Laid.Up++ }},
		{false, func(d *api.Drawn) { d.Laid.Down-- }},
		{false, func(d *api.Drawn) { d.Laid.Up--; d.Laid.Down++ }},
		{false, func(d *api.Drawn) { d.Laid.Last = false }},
		{false, func(d *api.Drawn) { d.Fold = false }},
		{false, func(d *api.Drawn) { d.Chosen[0].From = 1 }},
		{false, func(d *api.Drawn) { d.Chosen[1].To++ }},
		{false, func(d *api.Drawn) { d.Chosen = d.Chosen[:1] }},
		{false, func(d *api.Drawn) { d.Chosen = nil }},
		{false, func(d *api.Drawn) { d.Chosen[0], d.Chosen[1] = d.Chosen[1], d.Chosen[0] }},
		{false, func(d *api.Drawn) { d.Chosen = bs(0, 3, 3, 7, 12, 18) }},
		{false, func(d *api.Drawn) { d.Carets[0]++ }},
		{false, func(d *api.Drawn) { d.Carets[1] = 31 }},
		{false, func(d *api.Drawn) { d.Carets = d.Carets[:1] }},
		{false, func(d *api.Drawn) { d.Carets = nil }},
		{false, func(d *api.Drawn) { d.Carets = append(d.Carets, 30) }},
	} {
		a, b := base(), base()
		c.change(&b)
		if Same(a, b) != c.same || Same(b, a) != c.same || !Same(b, b) {
			t.Errorf("%d: %v and %v: want %v", i, a, b, c.same)
		}
	}
}

// P26.3: nil lists and empty ones are alike.
func TestSameOfNone(t *testing.T) {
	a := api.Drawn{}
	b := api.Drawn{Y: 9, Laid: api.Laid{Cells: []api.Cell{}, Xs: []int{}}, Chosen: []api.Band{}, Carets: []int{}}
	if !Same(a, b) || !Same(b, a) || !Same(a, a) || !Same(b, b) {
		t.Error(a, b)
	}
	b.Carets = ns(0)
	if Same(a, b) || Same(b, a) {
		t.Error(a, b)
	}
}

// What is given to Row, Same and Height stays as it was, spare room too.
func TestMemory(t *testing.T) {
	d := Drawn(seen("ab cd", styled(5, 2), 99)[0], cs(0, 2, 4, 4), 0, true)
	d.Laid.Cells = append(slices.Clone(d.Laid.Cells), api.Cell{At: 77})[:5]
	d.Laid.Xs = append(slices.Clone(d.Laid.Xs), 77)[:6]
	d.Chosen = append(bs(9, 12, 0, 6, 5, 9), bs(77, 78)...)[:3]
	d.Carets = append(ns(9, 3, 3), 77)[:3]
	all, xs, chosen, stand := slices.Clone(d.Laid.Cells[:6]), slices.Clone(d.Laid.Xs[:7]), slices.Clone(d.Chosen[:4]), slices.Clone(d.Carets[:4])
	Row(blank(t, 40, 20, under), d)
	Same(d, d)
	Height(d)
	if !slices.Equal(d.Laid.Cells[:6], all) || !slices.Equal(d.Laid.Xs[:7], xs) || !slices.Equal(d.Chosen[:4], chosen) || !slices.Equal(d.Carets[:4], stand) {
		t.Error(d)
	}
}

// P26.2: of a nil frame, and of a frame that New did not make, nothing goes wrong.
func TestRowOfNoFrame(t *testing.T) {
	d := Drawn(seen("ab cd", nil, 99)[0], cs(0, 2, 4, 4), 0, true)
	Row(nil, d)
	Row(nil, api.Drawn{})
	f := &frame.Frame{}
	Row(f, d)
	if w, h := f.Size(); w != 0 || h != 0 || f.Writes() != 0 {
		t.Error(w, h)
	}
}

// P26.1: a text with as many carets as there may be: each row has to do with few of them.
func TestDrawnOfMostCarets(t *testing.T) {
	var l []api.Caret
	for i := range api.MaxCarets {
		l = append(l, cs(3*i, 3*i+2)...)
	}
	for _, r := range seen(strings.Repeat("x", 3*api.MaxCarets), nil, 4096)[:20] {
		if got, want := Drawn(r, l, 0, false), alternate(r); !same(got, want) {
			t.Fatalf("%v, want %v", got, want)
		}
	}
}

// alternate is how a row of letters 6 wide is drawn, of which the first two of three are chosen, each time with a head behind them.
func alternate(r api.Seen) api.Drawn {
	d := api.Drawn{Y: r.Y, Laid: r.Laid}
	for i, c := range r.Laid.Cells {
		if c.At%3 == 2 {
			d.Carets = append(d.Carets, 6*i)
			continue
		}
		d.Chosen = append(d.Chosen, api.Band{From: 6 * i, To: 6*i + 6})
	}
	d.Chosen = band.Tidy(d.Chosen...)
	return d
}

// P26.2: a frame as great as there may be, full of rows.
func TestRowOfMost(t *testing.T) {
	text := strings.Repeat("The quick brown fox jumps over the lazy dog, ", 2000)
	f := blank(t, 4096, 4096, under)
	for _, r := range seen(strings.Repeat(text[:680]+"\n", 455), nil, 4096) {
		Row(f, Drawn(r, cs(0, 9), 0, false))
	}
	if f.At(4095, 4095) != api.Paper {
		t.Error(f.At(4095, 4095))
	}
}
