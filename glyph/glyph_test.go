package glyph

import (
	"math"
	"slices"
	"strings"
	"testing"

	"scrivener/api"
	"scrivener/frame"
)

// reach is how far from 0 a glyph may be drawn, to either side.
const reach = 1 << 20

// sides are how wide, or how high, the good glyphs of these tests are.
var sides = []int{0, 1, 2, 5, 8, 15, 16, 17, 31, 32}

// outside are sides that no glyph has. Some of them, made twice as great or one more, wrap round to good ones.
var outside = []int{math.MinInt, math.MinInt + 1, math.MinInt + 3, -1 << 62, -1 << 32, -1 << 31, -33, -32, -31, -2, -1, 33, 34, 63, 64, 65, 255, 256, 257, 1 << 31, 1 << 32, 1<<32 + 8, 1 << 62, 1<<62 + 1, math.MaxInt - 1, math.MaxInt}

// places are where to look for a bit beside a glyph: some of them come back into a row, were only their last bits looked at.
var places = slices.Concat(outside, []int{0, 7, 31, 32})

// picture is what a glyph should be: for each row, for each column, whether the bit is 1. It tells its width even without rows.
type picture struct {
	w    int
	rows [][]bool
}

// drawn is a picture of w columns and h rows, of the bits that a function tells.
func drawn(w, h int, bit func(x, y int) bool) picture {
	p := picture{w: w}
	for y := range h {
		row := make([]bool, w)
		for x := range row {
			row[x] = bit(x, y)
		}
		p.rows = append(p.rows, row)
	}
	return p
}

// at is the bit at x, y; none outside.
func (p picture) at(x, y int) bool {
	return y >= 0 && y < len(p.rows) && x >= 0 && x < p.w && p.rows[y][x]
}

// count is how many bits of a picture are 1.
func (p picture) count() int {
	n := 0
	for _, row := range p.rows {
		for _, one := range row {
			if one {
				n++
			}
		}
	}
	return n
}

// glyph is the glyph of a picture, with room behind its rows that is none of it.
func (p picture) glyph() api.Glyph {
	rows := make([]uint32, 0, len(p.rows)+3)
	for _, row := range p.rows {
		n, value := uint32(0), uint32(1)
		for _, one := range row {
			if one {
				n += value
			}
			value *= 2
		}
		rows = append(rows, n)
	}
	return api.Glyph{W: p.w, H: len(p.rows), Rows: rows}
}

// patterns are ways to set bits: none, all, edges, single ones, and some without rule.
var patterns = []func(x, y int) bool{
	func(x, y int) bool { return false },
	func(x, y int) bool { return true },
	func(x, y int) bool { return x == 0 },
	func(x, y int) bool { return y == 0 },
	func(x, y int) bool { return x == y },
	func(x, y int) bool { return x%2 == 0 },
	func(x, y int) bool { return x == 31 || y == 31 || x == 15 || y == 15 },
	func(x, y int) bool { return (x*2654435761+y*40503+x*y*97)>>7&1 == 1 },
	func(x, y int) bool { return (x*x*31+y*17+7)%5 == 0 },
}

// eachPicture calls do for pictures of all sizes and patterns.
func eachPicture(do func(p picture)) {
	for _, w := range sides {
		for _, h := range sides {
			for _, bit := range patterns {
				do(drawn(w, h, bit))
			}
		}
	}
}

// letter is the picture of lines in which # is a bit that is 1.
func letter(lines ...string) picture {
	return drawn(len(lines[0]), len(lines), func(x, y int) bool { return lines[y][x] == '#' })
}

// isZero is whether a glyph is the zero one.
func isZero(g api.Glyph) bool {
	return g.W == 0 && g.H == 0 && len(g.Rows) == 0
}

// is holds a glyph against a picture, bit by bit of its rows.
func is(t *testing.T, g api.Glyph, p picture, what string) {
	t.Helper()
	want := p.glyph()
	if g.W != want.W || g.H != want.H || !slices.Equal(g.Rows, want.Rows) {
		t.Fatalf("%s: %d by %d, %x, not %d by %d, %x", what, g.W, g.H, g.Rows, want.W, want.H, want.Rows)
	}
}

// wrong are glyphs that are not good.
func wrong() []api.Glyph {
	var l []api.Glyph
	for _, n := range outside {
		l = append(l,
			api.Glyph{W: n}, api.Glyph{H: n}, api.Glyph{W: n, H: n}, api.Glyph{W: n, H: 1, Rows: []uint32{1}},
			api.Glyph{W: 1, H: n, Rows: []uint32{1}}, api.Glyph{W: n, H: 2, Rows: []uint32{0, 0}}, api.Glyph{W: 8, H: n},
			api.Glyph{W: n, H: api.MaxGlyph, Rows: make([]uint32, api.MaxGlyph)})
		if n > 0 && n < 1000 {
			l = append(l, api.Glyph{W: 5, H: n, Rows: make([]uint32, n)}, api.Glyph{W: n, H: n, Rows: make([]uint32, n)})
		}
	}
	for _, h := range sides {
		// Fewer or more rows than are said.
		for _, n := range []int{0, h - 2, h - 1, h + 1, h + 2, 2 * h, 33, 64} {
			if n >= 0 && n != h {
				l = append(l, api.Glyph{W: 5, H: h, Rows: make([]uint32, n)}, api.Glyph{W: 0, H: h, Rows: make([]uint32, n)}, api.Glyph{W: 5, H: h, Rows: slices.Repeat([]uint32{31}, n)})
			}
		}
	}
	for w := range api.MaxGlyph {
		for b := w; b < 32; b++ {
			// A bit at w or above, in the first row, in one between, in the last one, and in the only one.
			l = append(l, api.Glyph{W: w, H: 3, Rows: []uint32{1 << b, 0, 0}}, api.Glyph{W: w, H: 3, Rows: []uint32{0, 1 << b, 0}},
				api.Glyph{W: w, H: 3, Rows: []uint32{0, 0, 1 << b}}, api.Glyph{W: w, H: 1, Rows: []uint32{1<<b | 1}})
		}
	}
	return l
}

func TestGood(t *testing.T) {
	eachPicture(func(p picture) {
		if g := p.glyph(); !Good(g) {
			t.Fatalf("%d by %d, %x is not good", g.W, g.H, g.Rows)
		}
	})
	for _, g := range wrong() {
		if Good(g) {
			t.Fatalf("%d by %d, %x is good", g.W, g.H, g.Rows)
		}
	}
}

func TestGoodOfSomeGlyphs(t *testing.T) {
	for _, x := range []struct {
		g    api.Glyph
		want bool
	}{
		{api.Glyph{}, true}, {api.Glyph{Rows: []uint32{}}, true}, {api.Glyph{W: 32}, true}, {api.Glyph{W: 33}, false}, {api.Glyph{W: -1}, false},
		{api.Glyph{H: 2, Rows: []uint32{0, 0}}, true}, {api.Glyph{H: 2, Rows: []uint32{0, 1}}, false}, {api.Glyph{H: -1}, false}, {api.Glyph{H: 1}, false},
		{api.Glyph{H: 32, Rows: make([]uint32, 32)}, true}, {api.Glyph{H: 33, Rows: make([]uint32, 33)}, false}, {api.Glyph{H: 32, Rows: make([]uint32, 33)}, false},
		{api.Glyph{W: 3, H: 1, Rows: []uint32{7}}, true}, {api.Glyph{W: 3, H: 1, Rows: []uint32{8}}, false}, {api.Glyph{W: 2, H: 1, Rows: []uint32{7}}, false},
		{api.Glyph{W: 32, H: 1, Rows: []uint32{math.MaxUint32}}, true}, {api.Glyph{W: 31, H: 1, Rows: []uint32{math.MaxUint32}}, false},
		{api.Glyph{W: 31, H: 1, Rows: []uint32{math.MaxInt32}}, true}, {api.Glyph{W: 31, H: 1, Rows: []uint32{1 << 31}}, false}, {api.Glyph{W: 33, H: 1, Rows: []uint32{1}}, false},
		{api.Glyph{Rows: []uint32{0}}, false}, {api.Glyph{W: 3, H: 2, Rows: []uint32{7}}, false}, {api.Glyph{W: 3, H: 1, Rows: []uint32{7, 7}}, false},
	} {
		if ok := Good(x.g); ok != x.want {
			t.Errorf("Good(%v): %t", x.g, ok)
		}
	}
}

func TestBitAndCount(t *testing.T) {
	eachPicture(func(p picture) {
		g := p.glyph()
		if n := Count(g); n != p.count() {
			t.Fatalf("Count of %d by %d, %x: %d, not %d", g.W, g.H, g.Rows, n, p.count())
		}
		for y := -2; y < g.H+2; y++ {
			for x := -2; x < g.W+2; x++ {
				if one := Bit(g, x, y); one != p.at(x, y) {
					t.Fatalf("Bit(%d by %d, %x; %d, %d): %t", g.W, g.H, g.Rows, x, y, one)
				}
			}
		}
	})
}

func TestBitFarOutside(t *testing.T) {
	for _, w := range sides {
		for _, h := range sides {
			p := drawn(w, h, func(x, y int) bool { return true })
			g := p.glyph()
			for _, x := range places {
				for _, y := range places {
					if one := Bit(g, x, y); one != (x >= 0 && x < w && y >= 0 && y < h) {
						t.Errorf("Bit at %d, %d of %d by %d: %t", x, y, w, h, one)
					}
				}
			}
		}
	}
}

// frames are frames into which glyphs are drawn: none at all, such without pixels, small ones, and one in which each glyph has place.
func frames() []*frame.Frame {
	l := []*frame.Frame{nil}
	for _, s := range [][2]int{{0, 0}, {0, 9}, {9, 0}, {1, 1}, {7, 5}, {40, 40}} {
		f, _ := frame.New(s[0], s[1])
		l = append(l, f)
	}
	return l
}

func TestWhatIsNotGood(t *testing.T) {
	for _, g := range wrong() {
		for _, x := range []int{-1, 0, 1, 4} {
			for _, y := range []int{-1, 0, 1, 4} {
				if Bit(g, x, y) {
					t.Fatalf("Bit(%v, %d, %d)", g, x, y)
				}
			}
		}
		if n := Count(g); n != 0 {
			t.Fatalf("Count(%v): %d", g, n)
		}
		if b := Bold(g); !isZero(b) {
			t.Fatalf("Bold(%v): %v", g, b)
		}
		if l := Large(g); !isZero(l) {
			t.Fatalf("Large(%v): %v", g, l)
		}
		for _, w := range []int{-1, 0, 1, 8, 32, 33} {
			if v := Wide(g, w, 8); !isZero(v) {
				t.Fatalf("Wide(%v, %d, 8): %v", g, w, v)
			}
			if v := Wide(g, 8, w); !isZero(v) {
				t.Fatalf("Wide(%v, 8, %d): %v", g, w, v)
			}
		}
		for _, f := range frames() {
			if n := Draw(f, g, 0, 0, 7); n != 0 || f.Writes() != 0 || f.At(0, 0) != 0 {
				t.Fatalf("Draw(%v): %d, %d writes", g, n, f.Writes())
			}
		}
	}
}

// numbered is a frame of w times h pixels, each other than any other, and none of them with 255 for its highest byte.
func numbered(t *testing.T, w, h int) *frame.Frame {
	t.Helper()
	f, c := frame.New(w, h)
	if c != api.OK {
		t.Fatal(c)
	}
	for y := range h {
		row := make([]uint32, w)
		for x := range row {
			row[x] = uint32(y*w + x + 1)
		}
		f.Lay(y, row)
	}
	return f
}

// draws holds one Draw against what P6.2 says of each pixel of the frame, and how many of these it has written.
func draws(t *testing.T, f *frame.Frame, p picture, x, y int, c uint32) {
	t.Helper()
	was := f.Clone()
	writes := f.Writes()
	n := Draw(f, p.glyph(), x, y, c)
	w, h := f.Size()
	want := 0
	for py := range h {
		for px := range w {
			colour := was.At(px, py)
			if p.at(px-x, py-y) {
				colour = c
				want++
			}
			if f.At(px, py) != colour {
				t.Fatalf("Draw of %d by %d at %d, %d: %x at %d, %d, not %x", p.w, len(p.rows), x, y, f.At(px, py), px, py, colour)
			}
		}
	}
	if n != want || f.Writes() != writes+want {
		t.Fatalf("Draw of %d by %d at %d, %d into %d by %d: %d, %d writes, not %d", p.w, len(p.rows), x, y, w, h, n, f.Writes()-writes, want)
	}
}

// P6.2, of glyphs of all sizes, in the frame, out of it on any side, and beside it.
func TestDraw(t *testing.T) {
	eachPicture(func(p picture) {
		h := len(p.rows)
		for _, x := range []int{-p.w - 1, -p.w, 1 - p.w, -2, -1, 0, 1, 4, 8, 9, 10} {
			for _, y := range []int{-h - 1, -h, 1 - h, -2, -1, 0, 1, 4, 5, 6, 7} {
				draws(t, numbered(t, 9, 6), p, x, y, 0xff0000ff)
			}
		}
	})
}

func TestDrawSomeLetter(t *testing.T) {
	p := letter(
		"##..#",
		"#.#.#",
		".#..#",
	)
	for _, x := range []struct{ x, y, want int }{
		{0, 0, 8}, {2, 1, 8}, {3, 1, 5}, {-1, 0, 6}, {-4, 0, 3}, {-5, 0, 0}, {0, -1, 5}, {0, -2, 2}, {0, -3, 0}, {0, 2, 6}, {0, 3, 3}, {0, 4, 0}, {6, 0, 2}, {7, 0, 0},
		{-1, -1, 4}, {6, 3, 1}, {-4, 3, 1}, {-4, -2, 1}, {6, -2, 0},
	} {
		f, _ := frame.New(7, 4)
		if n := Draw(f, p.glyph(), x.x, x.y, 7); n != x.want {
			t.Errorf("at %d, %d: %d pixels, not %d", x.x, x.y, n, x.want)
		}
	}
	f, _ := frame.New(7, 4)
	Draw(f, p.glyph(), 1, 1, 7)
	var lines []string
	for y := range 4 {
		line := ""
		for _, c := range f.Line(y) {
			line += map[uint32]string{0: ".", 7: "#"}[c]
		}
		lines = append(lines, line)
	}
	if s := strings.Join(lines, "/"); s != "......./.##..#./.#.#.#./..#..#." {
		t.Error(s)
	}
}

// Each pixel of any colour is written, also one that is that colour already, or 0, and one upon which another glyph lies.
func TestDrawOfEachColour(t *testing.T) {
	p := letter("##.", ".##")
	for _, c := range []uint32{0, 1, 2, api.Paper, api.Cursor, api.MaxColor, 1 << 24, 1 << 31, math.MaxUint32} {
		f := numbered(t, 5, 4)
		draws(t, f, p, 1, 1, c)
		draws(t, f, p, 1, 1, c)
		draws(t, f, letter("#"), 2, 1, ^c)
		draws(t, f, p, 0, 1, ^c)
	}
	f, _ := frame.New(5, 4)
	draws(t, f, p, 1, 1, 0)
}

// At both ends of where a glyph may be drawn, and beyond, no frame has pixels, as far as one may reach.
func TestDrawFarOutside(t *testing.T) {
	for _, h := range []int{1, 2, api.MaxGlyph} {
		p := drawn(api.MaxGlyph, h, func(x, y int) bool { return true })
		f := numbered(t, 40, 3)
		for _, at := range slices.Concat(outside, []int{
			-reach - 1, -reach, 1 - reach, reach - 1, reach, reach + 1, -reach - api.MaxGlyph, -1 << 30, 1 << 30, 1<<30 - 31, 1<<30 + 1,
			-api.MaxSide, api.MaxSide, math.MaxInt - 31, math.MaxInt - 15, math.MinInt + 31, 1<<32 + 1, -1<<32 + 1, 1 << 63 / 3,
		}) {
			for _, k := range []int{-31, -1, 0, 1, 2, 39} {
				draws(t, f, p, at, k, 7)
				draws(t, f, p, k, at, 7)
			}
			draws(t, f, p, at, at, 7)
		}
	}
}

func TestDrawIntoTheGreatestFrame(t *testing.T) {
	const m = api.MaxSide
	f, _ := frame.New(m, m)
	g := drawn(32, 32, func(x, y int) bool { return true }).glyph()
	for _, x := range []struct{ x, y, want int }{{m - 32, m - 32, 1024}, {m - 1, m - 1, 1}, {m - 1, 0, 32}, {0, m - 2, 64}, {m, 0, 0}, {0, m, 0}, {reach, 0, 0}, {0, reach, 0}, {-reach, 0, 0}, {0, -reach, 0}, {-31, -31, 1}} {
		if n := Draw(f, g, x.x, x.y, 7); n != x.want {
			t.Errorf("at %d, %d: %d pixels, not %d", x.x, x.y, n, x.want)
		}
	}
}

func TestDrawIntoNoFrame(t *testing.T) {
	eachPicture(func(p picture) {
		for _, f := range frames()[:4] {
			for _, at := range []int{math.MinInt, -reach - 1, -reach, -1, 0, 1, reach, reach + 1, math.MaxInt} {
				if n := Draw(f, p.glyph(), at, at, 7); n != 0 || f.Writes() != 0 {
					t.Fatalf("%d pixels, %d writes", n, f.Writes())
				}
			}
		}
	})
	if n := Draw(nil, letter("##", "##").glyph(), 0, 0, 7); n != 0 {
		t.Errorf("%d pixels", n)
	}
}

// P6.4, wherever in the frame the glyph lies, up to its last column and row.
func TestDrawWritesAsManyAsCount(t *testing.T) {
	eachPicture(func(p picture) {
		g := p.glyph()
		for _, x := range []int{0, 1, 34 - p.w} {
			for _, y := range []int{0, 1, 33 - len(p.rows)} {
				f, _ := frame.New(34, 33)
				if n := Draw(f, g, x, y, 9); n != Count(g) || f.Writes() != Count(g) {
					t.Fatalf("Draw of %d by %d, %x at %d, %d: %d, %d writes, not %d", g.W, g.H, g.Rows, x, y, n, f.Writes(), Count(g))
				}
			}
		}
	})
}

// saysOf is what P6.3 says of Of, bit by bit.
func saysOf(columns []byte) picture {
	first := columns
	if len(columns) > 32 {
		first = columns[:32]
	}
	return drawn(len(first), 8, func(x, y int) bool { return int(first[x])/[]int{1, 2, 4, 8, 16, 32, 64, 128}[y]%2 == 1 })
}

func TestOf(t *testing.T) {
	for _, n := range []int{0, 1, 2, 3, 5, 8, 9, 31, 32, 33, 34, 64, 65, 300} {
		for k := range 9 {
			columns := make([]byte, n)
			for i := range columns {
				columns[i] = byte(k*31 + i*i*7 + i*77)
			}
			is(t, Of(columns), saysOf(columns), "Of")
		}
	}
}

func TestOfEachBit(t *testing.T) {
	for x := range 34 {
		for y := range 8 {
			columns := make([]byte, 34)
			columns[x] = 1 << y
			g := Of(columns)
			rows := make([]uint32, 8)
			if x < 32 {
				rows[y] = 1 << x
			}
			if g.W != 32 || g.H != 8 || !slices.Equal(g.Rows, rows) {
				t.Fatalf("Of with the bit %d of the column %d: %d by %d, %x", y, x, g.W, g.H, g.Rows)
			}
		}
	}
}

func TestOfSomeColumns(t *testing.T) {
	is(t, Of([]byte{1, 2}), letter("#.", ".#", "..", "..", "..", "..", "..", ".."), "Of(1, 2)")
	is(t, Of([]byte{0x80}), letter(".", ".", ".", ".", ".", ".", ".", "#"), "Of(80)")
	is(t, Of([]byte{0x7c, 0x12, 0x11, 0x12, 0x7c}), letter("..#..", ".#.#.", "#...#", "#...#", "#####", "#...#", "#...#", "....."), "Of the A")
	is(t, Of(nil), picture{rows: make([][]bool, 8)}, "Of none")
	is(t, Of([]byte{}), picture{rows: make([][]bool, 8)}, "Of none")
	all := slices.Repeat([]byte{255}, 32)
	is(t, Of(all), drawn(32, 8, func(x, y int) bool { return true }), "Of 32 whole ones")
	is(t, Of(append(all, 255)), drawn(32, 8, func(x, y int) bool { return true }), "Of 33 whole ones")
}

func TestBold(t *testing.T) {
	eachPicture(func(p picture) {
		b := Bold(p.glyph())
		if p.w == 32 {
			if !isZero(b) {
				t.Fatalf("33 columns: %v", b)
			}
			return
		}
		is(t, b, drawn(p.w+1, len(p.rows), func(x, y int) bool { return p.at(x, y) || p.at(x-1, y) }), "Bold")
	})
	is(t, Bold(letter("#..#", ".#..", "#.#.", "....", "####").glyph()), letter("##.##", ".##..", "####.", ".....", "#####"), "Bold")
	is(t, Bold(api.Glyph{}), picture{w: 1}, "Bold of the zero glyph")
}

func TestLarge(t *testing.T) {
	eachPicture(func(p picture) {
		l := Large(p.glyph())
		if p.w > 16 || len(p.rows) > 16 {
			if !isZero(l) {
				t.Fatalf("of %d by %d: %v", p.w, len(p.rows), l)
			}
			return
		}
		is(t, l, drawn(2*p.w, 2*len(p.rows), func(x, y int) bool { return p.at(x/2, y/2) }), "Large")
	})
	is(t, Large(letter("#.", ".#", "#.").glyph()), letter("##..", "##..", "..##", "..##", "##..", "##.."), "Large")
	if !isZero(Large(api.Glyph{})) {
		t.Error("Large of the zero glyph")
	}
}

func TestWide(t *testing.T) {
	eachPicture(func(p picture) {
		for _, w := range sides {
			for _, h := range sides {
				is(t, Wide(p.glyph(), w, h), drawn(w, h, p.at), "Wide")
			}
		}
	})
	is(t, Wide(letter("#.#", ".#.").glyph(), 2, 3), letter("#.", ".#", ".."), "Wide")
	is(t, Wide(letter("#.#", ".#.").glyph(), 4, 1), letter("#.#."), "Wide")
	is(t, Wide(api.Glyph{}, 2, 1), letter(".."), "Wide of the zero glyph")
}

func TestWideOfNoSize(t *testing.T) {
	for _, p := range []picture{{}, letter("#"), drawn(32, 32, func(x, y int) bool { return true })} {
		for _, n := range outside {
			for _, s := range [][2]int{{n, 3}, {3, n}, {n, 0}, {0, n}, {n, 32}, {32, n}, {n, n}, {n, -n}, {n, 33}, {-1, n}} {
				if v := Wide(p.glyph(), s[0], s[1]); !isZero(v) {
					t.Errorf("Wide(%d, %d): %v", s[0], s[1], v)
				}
			}
		}
	}
}

// What is made is good, and has as many bits as the words tell.
func TestWhatIsMadeIsGood(t *testing.T) {
	eachPicture(func(p picture) {
		g := p.glyph()
		for i, m := range []api.Glyph{Bold(g), Large(g), Wide(g, 32, 32), Wide(g, 3, 3), Bold(Wide(g, 31, 32)), Large(Wide(g, 16, 16))} {
			if !Good(m) {
				t.Fatalf("%d: %v", i, m)
			}
		}
		if n := Count(Wide(g, 32, 32)); n != p.count() {
			t.Fatalf("%d bits, with place for all of %d", n, p.count())
		}
		if l := Large(g); !isZero(l) && Count(l) != 4*p.count() {
			t.Fatalf("%d bits, of %d", Count(l), p.count())
		}
	})
}

// makers are the calls that make a glyph of another one.
var makers = []func(g api.Glyph) api.Glyph{
	Bold, Large,
	func(g api.Glyph) api.Glyph { return Wide(g, g.W, g.H) },
	func(g api.Glyph) api.Glyph { return Wide(g, g.W+1, g.H+1) },
	func(g api.Glyph) api.Glyph { return Wide(g, 0, 0) },
	func(g api.Glyph) api.Glyph { return Wide(g, -1, 33) },
}

// spoil writes into all of a list, its spare room included.
func spoil(l []uint32) {
	l = l[:cap(l)]
	for i := range l {
		l[i] = 0xabcdef01
	}
}

// What is handed in is neither changed nor kept, spare room included; what is answered is new memory.
func TestMemory(t *testing.T) {
	p := letter("#.#..", ".##.#", "....#")
	f := numbered(t, 9, 9)
	for i, from := range makers {
		g := p.glyph()
		room := g.Rows[:cap(g.Rows)]
		for k := range room[len(g.Rows):] {
			room[len(g.Rows)+k] = 77
		}
		kept := slices.Clone(room)
		first, second := from(g), from(g)
		Good(g)
		Bit(g, 1, 1)
		Count(g)
		Draw(f, g, 1, 1, 7)
		if !slices.Equal(room, kept) {
			t.Errorf("%d: %x became %x", i, kept, room)
		}
		was := slices.Clone(second.Rows)
		spoil(first.Rows)
		if !slices.Equal(room, kept) || !slices.Equal(second.Rows, was) {
			t.Errorf("%d: an answer shares what it has", i)
		}
		spoil(room)
		if !slices.Equal(second.Rows, was) {
			t.Errorf("%d: an answer has what was handed in", i)
		}
	}
}

func TestMemoryOfColumns(t *testing.T) {
	all := []byte{1, 2, 3, 4, 5, 6}
	first, second := Of(all[:4]), Of(all[:4])
	if !slices.Equal(all, []byte{1, 2, 3, 4, 5, 6}) {
		t.Errorf("%v", all)
	}
	spoil(first.Rows)
	all[1] = 255
	is(t, second, saysOf([]byte{1, 2, 3, 4}), "Of, behind changes of another answer, and of the columns")
}
