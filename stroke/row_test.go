package stroke

import (
	"math"
	"slices"
	"testing"

	"scrivener/api"
	"scrivener/frame"
)

// P26.2, the chapter's example: a row without cells, with a caret at 0: a line of 9 pixels.
func TestRowWithoutCells(t *testing.T) {
	d := Drawn(seen("", nil, 9)[0], cs(0, 0), 0, false)
	looks(t, d, 3, 10, "|..", "|..", "|..", "|..", "|..", "|..", "|..", "|..", "|..", "___")
	d = Drawn(seen("", nil, 9)[0], cs(1, 0), -1, true)
	looks(t, d, 8, 10,
		"________", "|:::....", "|:::....", "|:::....", "|:@@@@..", "|:@@@@..", "|:@@@@..", "|:@@@@..", "|:::....", "|:::....")
}

// P26.2: letters in their inks upon the base line, what is chosen behind them, carets and the sign of a fold above.
func TestRowByHand(t *testing.T) {
	d := Drawn(seen("Ag", []api.Run{{Len: 1, Style: 0}, {Len: 1, Style: 4}}, 24)[0], cs(0, 1, 2, 2), -1, true)
	looks(t, d, 24, 11,
		"________________________",
		"::A:::|......|..........",
		":A:A::|......|..........",
		"A:::A:|BBBB..|..........",
		"A:::A:|B.BBB.|.@@@@.....",
		"AAAAA:|B.BBB.|.@@@@.....",
		"A:::A:|BBBBB.|.@@@@.....",
		"A:::A:|...BB.|.@@@@.....",
		"::::::|BBBB..|..........",
		"::::::|......|..........",
		"________________________")
	d = Drawn(seen("A\tb", []api.Run{{Len: 1, Style: 5}, {Len: 2, Style: 6}}, 100)[0], cs(3, 1), 2, false)
	looks(t, d, 60, 16,
		"..BB..BB....|:::::::::::::::::::::::::::::::::::::::::......",
		"..BB..BB....|:::::::::::::::::::::::::::::::::::::::::......",
		"BB......BB..|:::::::::::::::::::::::::::::::::::::::::......",
		"BB......BB..|:::::::::::::::::::::::::::::::::::::::::......",
		"BB......BB..|:::::::::::::::::::::::::::::::::::::::::......",
		"BB......BB..|:::::::::::::::::::::::::::::::::::C:::::......",
		"BBBBBBBBBB..|:::::::::::::::::::::::::::::::::::C:::::......",
		"BBBBBBBBBB..|:::::::::::::::::::::::::::::::::::C:CC::......",
		"BB......BB..|:::::::::::::::::::::::::::::::::::CC::C:......",
		"BB......BB..|:::::::::::::::::::::::::::::::::::C:::C:......",
		"BB......BB..|:::::::::::::::::::::::::::::::::::CC::C:......",
		"BB......BB..|:::::::::::::::::::::::::::::::::::C:CC::......",
		"............|:::::::::::::::::::::::::::::::::::::::::......",
		"............|:::::::::::::::::::::::::::::::::::::::::......",
		"............|:::::::::::::::::::::::::::::::::::::::::......",
		"____________________________________________________________")
	d = Drawn(seen("\xff \u00e9\u253c", []api.Run{{Len: 1, Style: 21}, {Len: 1, Style: 2}, {Len: 2, Style: 9}, {Len: 3, Style: 12}}, 100)[0], cs(2, 1, 3, 3), 5, true)
	looks(t, d, 40, 13,
		"......|:::::::::::......................",
		"......|:::::::::::......................",
		"HHHHH.|:::::::::::.......EEE............",
		"H...H.|:::::::::::.......EEE............",
		"H...H.|:::::::::::.DDD...EEE............",
		"H...H.|:::::::::::D...D..EEE....@@@@....",
		"H...H.|:::::::::::DDDDD..EEE....@@@@....",
		"H...H.|:::::::::::D......EEE....@@@@....",
		"HHHHH.|:::::::::::.DDD...EEE....@@@@....",
		"......|:::::::::::...D...EEE............",
		"......|:::::::::::......................",
		"......|:::::::::::......................",
		"________________________________________")
}

// P26.2: which lies above which: what is chosen above Paper, letters above that, the sign of a fold above letters, carets above all.
func TestRowAbove(t *testing.T) {
	laid := api.Laid{Cells: []api.Cell{{Rune: 0x2503, Style: 3}}, Xs: ns(5, 5), Up: 7, Down: 2, Last: true}
	looks(t, api.Drawn{Laid: laid, Chosen: bs(1, 9), Carets: ns(8, 2), Fold: true}, 12, 9,
		".:|:::::|...",
		".:|:::::|...",
		".:|:::::|...",
		".:|::BB@|@@.",
		".:|::::@|@@.",
		".:|::::@|@@.",
		".:|::::@|@@.",
		".:|:::::|...",
		".:|:::::|...")
	// Letters of which each reaches beyond its cell: a later one lies above those ahead.
	laid = api.Laid{Cells: []api.Cell{{Rune: 0x2503, Style: 0}, {Rune: 0x250c, Style: 9}, {Rune: 0x2503, Style: 12}}, Xs: ns(0, 1, 3, 4), Up: 7, Down: 2}
	looks(t, api.Drawn{Laid: laid}, 10, 9,
		"...D......",
		"...D......",
		"...D......",
		"AAAEEEEE..",
		"...D......",
		"...D......",
		"...D......",
		"...D......",
		"..........")
	laid.Cells[1], laid.Cells[2] = laid.Cells[2], laid.Cells[1]
	laid.Xs = ns(0, 1, 1, 4)
	looks(t, api.Drawn{Laid: laid}, 8, 9,
		"...D....",
		"...D....",
		"...D....",
		"AEEDEE..",
		"...D....",
		"...D....",
		"...D....",
		"...D....",
		"........")
}

// P26.2: a row that is not as high as its letters, or higher: letters and the sign of a fold go by the base line, Paper, what is chosen and carets by the row.
func TestRowHigh(t *testing.T) {
	d := api.Drawn{Y: 5, Laid: api.Laid{Cells: []api.Cell{{Rune: 0x250c}}, Xs: ns(0, 6), Up: 2, Down: 1}, Chosen: bs(0, 2), Carets: ns(4), Fold: true}
	looks(t, d, 12, 10,
		"__A_________",
		"__A_________",
		"__A_________",
		"__A_____@@@@",
		"__A_____@@@@",
		"::A.|...@@@@",
		"::A.|...@@@@",
		"::A.|.......",
		"____________",
		"____________")
	d.Laid.Up, d.Laid.Down = 0, 0
	looks(t, d, 12, 7,
		"__A_________",
		"__A_____@@@@",
		"__A_____@@@@",
		"__A_____@@@@",
		"__A_____@@@@",
		"__A_________",
		"____________")
}

// P26.2: each face and each style, each letter where its row's base line is, by the chapter's words.
func TestRowStyles(t *testing.T) {
	for style := range 24 {
		for other := range 24 {
			for _, text := range []string{"Ag", "\u00e9~", "\xff\t", " |"} {
				d := Drawn(seen(text, []api.Run{{Len: 1, Style: style}, {Len: 9, Style: other}}, 99)[0], cs(1, 9), 0, true)
				paints(t, d, 70, 19)
			}
		}
	}
}

// P26.2: all runes that have a letter of their own, those beside them, and some that have none.
func TestRowRunes(t *testing.T) {
	runes := []rune{-1, math.MinInt32, math.MaxInt32, 0xfffd, 0x10ffff, 9}
	for _, part := range [][2]rune{{0, 0x101}, {0x24ff, 0x2581}} {
		for r := part[0]; r <= part[1]; r++ {
			runes = append(runes, r)
		}
	}
	for i, r := range runes {
		laid := api.Laid{Cells: []api.Cell{{Rune: r, Style: i % 24}}, Xs: ns(1, 7+i%9), Up: 14, Down: 3, Last: true}
		paints(t, api.Drawn{Laid: laid, Chosen: bs(i%5, i%7), Carets: ns(i % 11)}, 15, 18)
	}
}

// P26.2: rows of texts of all kinds, at many places, in frames of many sizes, narrower than the row and without pixels among them.
func TestRowOfAll(t *testing.T) {
	c := chance(262)
	sizes := [][2]int{{60, 20}, {0, 0}, {0, 9}, {9, 0}, {1, 1}, {7, 30}, {200, 12}}
	for i, text := range some() {
		n := len(text)
		for _, width := range []int{1, 24, 60, 4096} {
			for _, r := range seen(text, styled(n, i), width) {
				for _, y := range []int{0, 1, -1, 5, -5, -9, -16, -17, 11, 12, 19, 20, 500, -500, 1 << 20, -1 << 20} {
					d := Drawn(r, cs(c.below(n+2), c.below(n+2), c.below(n+2), c.below(n+2)), r.Y-y, c.below(2) == 0)
					size := sizes[c.below(len(sizes))]
					paints(t, d, size[0], size[1])
				}
			}
		}
	}
}

// P26.2: a row that lies in part outside the frame, to each side, is what it is in a frame that has all of it.
func TestRowInPart(t *testing.T) {
	d := Drawn(seen("Ag\t\u00e9~", styled(6, 2), 99)[0], cs(0, 1, 2, 6), 0, true)
	all := blank(t, 90, 40, under)
	d.Y = 10
	Row(all, d)
	for _, wide := range []int{0, 1, 3, 6, 20, 61, 62, 89} {
		for high := range 30 {
			for _, up := range []int{0, 1, 9, 10, 12, 17, 26, 27} {
				part := d
				part.Y -= up
				f := blank(t, wide, high, under)
				Row(f, part)
				for y := range min(high, 40-up) {
					if want := all.Line(y + up)[:wide]; !slices.Equal(f.Line(y), want) {
						t.Fatalf("%d by %d, %d up: row %d: %06x, want %06x", wide, high, up, y, f.Line(y), want)
					}
				}
			}
		}
	}
}

// P26.2: parts that are chosen and carets as they may be handed in: in no order, one above the other, outside the row, far off.
func TestRowOfOthers(t *testing.T) {
	d := Drawn(seen("ab", nil, 99)[0], nil, 0, false)
	for _, l := range [][]api.Band{
		nil, bs(3, 3), bs(5, 3), bs(9, 12, 0, 3), bs(0, 9, 2, 5), bs(-5, 2), bs(-9, -5), bs(15, 99), bs(19, 22),
		bs(math.MinInt, math.MaxInt), bs(math.MinInt, 3), bs(7, math.MaxInt), bs(math.MaxInt, math.MinInt), bs(-1<<31, 1<<31), bs(-1<<30, 1<<30+1), bs(1<<30, 1<<31),
	} {
		d.Chosen = l
		paints(t, d, 20, 10)
	}
	d.Chosen = nil
	for _, x := range append([]int{-1, 0, 1, 5, 19, 20, 21}, off...) {
		d.Carets = ns(3, x, x, 3)
		paints(t, d, 20, 10)
	}
}

// stays holds that nothing of a row is drawn, but that it is, but for what is wrong with it.
func stays(t *testing.T, name string, d api.Drawn) {
	t.Helper()
	f := blank(t, 40, 30, under)
	want, n := f.Clone(), f.Writes()
	Row(f, d)
	if !f.Same(want) || f.Writes() != n {
		t.Errorf("%s: %v is drawn: %v", name, d, picture(f))
	}
}

// whole is a row that is drawn, with all that a row may have.
func whole() api.Drawn {
	return Drawn(seen("ab\tc", styled(4, 2), 99)[0], cs(0, 1, 2, 4), -9, true)
}

// P26.2: what is not as metric.Line makes it is not drawn, nor is what lies too far above or below.
func TestRowNothing(t *testing.T) {
	for _, c := range []struct {
		name   string
		change func(d *api.Drawn)
	}{
		{"Y above", func(d *api.Drawn) { d.Y = -1<<20 - 1 }},
		{"Y below", func(d *api.Drawn) { d.Y = 1<<20 + 1 }},
		{"Y far above", func(d *api.Drawn) { d.Y = math.MinInt }},
		{"Y far below", func(d *api.Drawn) { d.Y = math.MaxInt }},
		{"one X too few", func(d *api.Drawn) { d.Laid.Xs = d.Laid.Xs[:4] }},
		{"one X too many", func(d *api.Drawn) { d.Laid.Xs = append(d.Laid.Xs, 50) }},
		{"no Xs", func(d *api.Drawn) { d.Laid.Xs = nil }},
		{"no cells", func(d *api.Drawn) { d.Laid.Cells = nil }},
		{"no cells, no Xs", func(d *api.Drawn) { d.Laid.Cells, d.Laid.Xs = nil, nil }},
		{"the first X", func(d *api.Drawn) { d.Laid.Xs[0] = -1 }},
		{"an X", func(d *api.Drawn) { d.Laid.Xs[2] = -1 }},
		{"the last X", func(d *api.Drawn) { d.Laid.Xs[4] = -1 }},
		{"the first X far off", func(d *api.Drawn) { d.Laid.Xs[0] = 1<<20 + 1 }},
		{"an X far off", func(d *api.Drawn) { d.Laid.Xs[2] = 1<<20 + 1 }},
		{"the last X far off", func(d *api.Drawn) { d.Laid.Xs[4] = 1<<20 + 1 }},
		{"the last X farther off", func(d *api.Drawn) { d.Laid.Xs[4] = math.MaxInt }},
		{"an X as far below", func(d *api.Drawn) { d.Laid.Xs[1] = math.MinInt }},
		{"Up below", func(d *api.Drawn) { d.Laid.Up = -1 }},
		{"Up above", func(d *api.Drawn) { d.Laid.Up = 65 }},
		{"Up far below", func(d *api.Drawn) { d.Laid.Up = math.MinInt }},
		{"Up far above", func(d *api.Drawn) { d.Laid.Up = math.MaxInt }},
		{"Down below", func(d *api.Drawn) { d.Laid.Down = -1 }},
		{"Down above", func(d *api.Drawn) { d.Laid.Down = 65 }},
		{"Down far below", func(d *api.Drawn) { d.Laid.Down = math.MinInt }},
		{"Down far above", func(d *api.Drawn) { d.Laid.Down = math.MaxInt }},
		{"the first style", func(d *api.Drawn) { d.Laid.Cells[0].Style = -1 }},
		{"a style", func(d *api.Drawn) { d.Laid.Cells[2].Style = 24 }},
		{"the last style", func(d *api.Drawn) { d.Laid.Cells[3].Style = 24 }},
		{"a style far off", func(d *api.Drawn) { d.Laid.Cells[1].Style = math.MaxInt }},
		{"the zero row", func(d *api.Drawn) { *d = api.Drawn{} }},
	} {
		d := whole()
		c.change(&d)
		stays(t, c.name, d)
	}
	paints(t, whole(), 70, 40)
}

// P26.2: what may just be is drawn.
func TestRowJust(t *testing.T) {
	for i, change := range []func(d *api.Drawn){
		func(d *api.Drawn) { d.Laid.Up = 0 },
		func(d *api.Drawn) { d.Laid.Up = 64 },
		func(d *api.Drawn) { d.Laid.Down = 0 },
		func(d *api.Drawn) { d.Laid.Down = 64 },
		func(d *api.Drawn) { d.Laid.Up, d.Laid.Down = 64, 64 },
		func(d *api.Drawn) { d.Laid.Xs[0] = 1 << 20 },
		func(d *api.Drawn) { d.Laid.Xs[2] = 1 << 20 },
		func(d *api.Drawn) { d.Laid.Xs[4] = 1 << 20 },
		func(d *api.Drawn) { d.Laid.Xs[3] = 0 },
		func(d *api.Drawn) { d.Laid.Xs = ns(60, 40, 5, 0, 0) },
		func(d *api.Drawn) { d.Laid.Cells[1].Style, d.Laid.Cells[0].Style = 0, 23 },
		func(d *api.Drawn) { d.Laid.Cells[1] = api.Cell{At: -7, N: -1, Rune: -1} },
		func(d *api.Drawn) { d.Laid.From, d.Laid.To, d.Laid.Last = 99, -99, false },
		func(d *api.Drawn) { d.Y = -16 },
	} {
		d := whole()
		change(&d)
		paints(t, d, 80, 150)
		f := blank(t, 80, 150, under)
		n := f.Writes()
		Row(f, d)
		if f.Writes() == n {
			t.Errorf("%d: %v is not drawn", i, d)
		}
	}
	// So far off nothing of a row is in any frame.
	for _, y := range []int{-1 << 20, 1 << 20} {
		d := whole()
		d.Y = y
		stays(t, "Y far off", d)
	}
}

// P26.2: a row is drawn above what was there, all of it, and nothing beside it; drawn once more it is the same.
func TestRowOver(t *testing.T) {
	f := blank(t, 50, 30, under)
	for y := range 30 {
		f.Fill(api.Rect{X: y, Y: y, W: 3, H: 1}, api.Outside)
	}
	before := f.Clone()
	d := whole()
	Row(f, d)
	for y := range 30 {
		if y < 9 || y >= 9+Height(d) {
			if !slices.Equal(f.Line(y), before.Line(y)) {
				t.Errorf("row %d is changed: %06x", y, f.Line(y))
			}
			continue
		}
		for x, got := range f.Line(y) {
			if want := pixel(d, letters(d), x, y, 0); got != want {
				t.Fatalf("at %d, %d %06x, want %06x", x, y, got, want)
			}
		}
	}
	once := f.Clone()
	Row(f, d)
	if !f.Same(once) {
		t.Error(picture(f))
	}
}

// variants are rows that are drawn alike, wherever they are.
func variants(d api.Drawn) []api.Drawn {
	l := []api.Drawn{d}
	for k := range 6 {
		v := d
		v.Laid = copied(d.Laid)
		v.Chosen, v.Carets = slices.Clone(d.Chosen), slices.Clone(d.Carets)
		for i := range v.Laid.Cells {
			if k == 1 {
				v.Laid.Cells[i].At += 7
			}
			if k == 2 {
				v.Laid.Cells[i].N--
			}
		}
		switch k {
		case 3:
			v.Laid.From += 5
		case 4:
			v.Laid.To -= 9
		case 5:
			v.Chosen, v.Carets = append([]api.Band{}, v.Chosen...), append([]int{}, v.Carets...)
		}
		l = append(l, v)
	}
	return l
}

// P26.4: rows that are Same, changed in all that does not count, leave the same pixels, at many places.
func TestSamePixels(t *testing.T) {
	c := chance(264)
	for i, text := range some() {
		n := len(text)
		for _, width := range []int{1, 30, 200} {
			for _, r := range seen(text, styled(n, i), width) {
				d := Drawn(r, cs(c.below(n+2), c.below(n+2), c.below(n+2), c.below(n+2)), r.Y-c.below(30)+15, true)
				f := blank(t, 70, 25, under)
				Row(f, d)
				for _, v := range variants(d) {
					g := blank(t, 70, 25, under)
					Row(g, v)
					if !Same(d, v) || !f.Same(g) {
						t.Fatalf("%v and %v: %v, %v", d, v, picture(f), picture(g))
					}
				}
			}
		}
	}
}

// P26.3, P26.4: of all pairs of many rows of many texts, widths, styles, carets and folds just those are Same that tell the same, and these leave the same pixels.
func TestSameOfMany(t *testing.T) {
	c := chance(265)
	var l []api.Drawn
	for range 260 {
		text := []string{"ab ab ab\nab\nb ab", "\u00e9\u00e9\n\u00e9 \xff\n\xff", "\n\na\n", "a\ta\na\tb\ta"}[c.below(4)]
		n := len(text)
		rows := seen(text, styled(n, c.below(3)), []int{1, 12, 18, 4096}[c.below(4)])
		at := c.below(n + 1)
		l = append(l, Drawn(rows[c.below(len(rows))], [][]api.Caret{nil, cs(at, at), cs(at, c.below(n+2)), cs(0, n)}[c.below(4)], c.below(60), c.below(2) == 0))
	}
	var frames []*frame.Frame
	for i := range l {
		d := l[i]
		d.Y = 2
		f := blank(t, 60, 21, under)
		Row(f, d)
		frames = append(frames, f)
	}
	pairs := 0
	for i, a := range l {
		for j, b := range l {
			alike := Same(a, b)
			if want := key(a) == key(b); alike != want {
				t.Fatalf("Same(%v, %v): %v, want %v", a, b, alike, want)
			}
			if alike && !frames[i].Same(frames[j]) {
				t.Fatalf("%v and %v: %v, %v", a, b, picture(frames[i]), picture(frames[j]))
			}
			if alike && i != j {
				pairs++
			}
		}
	}
	if pairs < 100 {
		t.Errorf("only %d pairs of rows are Same", pairs)
	}
}
