package face

import (
	"encoding/hex"
	"math"
	"slices"
	"strings"
	"testing"

	"scrivener/api"
	"scrivener/glyph"
)

// wrongFaces are numbers that are no face. Some of them have the last bits of one.
var wrongFaces = []int{math.MinInt, math.MinInt + 1, math.MinInt + 2, -1 << 32, -1 << 31, -256, -4, -3, -2, -1, 3, 4, 5, 8, 255, 256, 257, 1 << 31, 1 << 32, 1<<32 + 1, 1<<32 + 2, math.MaxInt - 1, math.MaxInt}

// edges are the first and the last rune of each known part, and those beside them.
var edges = []struct {
	r     rune
	known bool
}{
	{0x1f, false}, {0x20, true}, {0x21, true}, {0x7d, true}, {0x7e, true}, {0x7f, false}, {0x80, false},
	{0x9f, false}, {0xa0, true}, {0xa1, true}, {0xfe, true}, {0xff, true}, {0x100, false},
	{0x24ff, false}, {0x2500, true}, {0x2501, true}, {0x257e, true}, {0x257f, true}, {0x2580, false},
}

// strange are runes that are not known, and numbers that are no runes. Some of them have the last bits of a known one.
var strange = []rune{
	math.MinInt32, math.MinInt32 + 0x41, -0x110000, -0x10000, -0x2500, -0xff41, -0xa0, -0x41, -0x20, -2, -1, 0, 1, '\t', '\n', 0x0d, 0x1b, 0x85,
	0x120, 0x141, 0x17f, 0x1a0, 0x1ff, 0x2020, 0x20a0, 0x2480, 0x25ff, 0x2600, 0x4500, 0xa500, 0xd7ff, 0xd800, 0xd841, 0xdbff, 0xdc00, 0xdfff, 0xe000,
	0xfeff, 0xfffd, 0xffff, 0x10000, 0x10041, 0x12500, 0x1f642, 0x102500, 0x10ffff, 0x110000, 0x110041, 0x112500, 1 << 24, 1<<24 + 0x41, 1 << 30, math.MaxInt32 - 1, math.MaxInt32,
}

// some are runes of all parts, and of none: all that are known, the edges, and the strange ones.
func some() []rune {
	l := slices.Clone(strange)
	for r := rune(0x1e); r <= 0x101; r++ {
		l = append(l, r)
	}
	for r := rune(0x24fe); r <= 0x2581; r++ {
		l = append(l, r)
	}
	return l
}

// isKnown is what P8.1 says of which runes are known.
func isKnown(r rune) bool {
	return 0x20 <= r && r <= 0x7e || 0xa0 <= r && r <= 0xff || 0x2500 <= r && r <= 0x257f
}

// bit is whether a number has a bit, by division.
func bit(n, i int) bool {
	return n/int(math.Pow(2, float64(i)))%2 == 1
}

// picture is a letter: for each of some rows, of each column, whether there is a pixel.
type picture [][]bool

// drawn is a picture of w columns and h rows, of those pixels that a function tells.
func drawn(w, h int, lit func(x, y int) bool) picture {
	p := make(picture, h)
	for y := range p {
		for x := range w {
			p[y] = append(p[y], lit(x, y))
		}
	}
	return p
}

// lettered is the picture of lines in which # is a pixel.
func lettered(lines ...string) picture {
	return drawn(len(lines[0]), len(lines), func(x, y int) bool { return lines[y][x] == '#' })
}

// at is whether there is a pixel at x, y; none outside.
func (p picture) at(x, y int) bool {
	return y >= 0 && y < len(p) && x >= 0 && x < len(p[y]) && p[y][x]
}

// columns are a picture's columns, from the left, of each the highest row as 1, the next one as 2, and so on.
func (p picture) columns() []byte {
	l := make([]byte, len(p[0]))
	for y, row := range p {
		for x, lit := range row {
			if lit {
				l[x] += byte(math.Pow(2, float64(y)))
			}
		}
	}
	return l
}

// rows are a picture's rows, from above, of each the column on the left as 1, the next one as 2, and so on.
func (p picture) rows() []uint32 {
	l := make([]uint32, len(p))
	for y, row := range p {
		for x, lit := range row {
			if lit {
				l[y] += uint32(math.Pow(2, float64(x)))
			}
		}
	}
	return l
}

// font is the pictures of api.Font's letters, from 20 on.
func font(t *testing.T) []picture {
	t.Helper()
	all, err := hex.DecodeString(api.Font)
	if err != nil || len(all) != 5*95 || len(api.Latin) != 96 {
		t.Fatal(err, len(all), len(api.Latin))
	}
	var l []picture
	for i := 0; i < len(all); i += 5 {
		l = append(l, drawn(5, 8, func(x, y int) bool { return bit(int(all[i+x]), y) }))
	}
	return l
}

// lineSays is what P8.1 says of the rune 2500 + k.
func lineSays(k int) picture {
	base := func(x, y int) bool {
		return bit(k, 0) && y == 3 && x <= 2 || bit(k, 1) && y == 3 && x >= 2 || bit(k, 2) && x == 2 && y <= 3 || bit(k, 3) && x == 2 && y >= 3
	}
	return drawn(5, 8, func(x, y int) bool {
		return base(x, y) || bit(k, 4) && (x == 1 || x == 3) && base(2, y)
	})
}

// unknownSays is what P8.1 says of a rune that is not known.
var unknownSays = lettered(
	"#####",
	"#...#",
	"#...#",
	"#...#",
	"#...#",
	"#...#",
	"#####",
	".....",
)

// says is what P8.1 says of a rune, with the letters of font.
func says(l []picture, r rune) picture {
	switch {
	case 0x20 <= r && r <= 0x7e:
		return l[r-0x20]
	case 0xa0 <= r && r <= 0xff:
		base := l[api.Latin[r-0xa0]-0x20]
		return drawn(5, 8, func(x, y int) bool { return base.at(x, y) != (y == 7 && x == int(r)%5) })
	case 0x2500 <= r && r <= 0x257f:
		return lineSays(int(r) - 0x2500)
	}
	return unknownSays
}

// P8.1, of all runes, and of numbers on both sides of them.
func TestColumnsAndKnown(t *testing.T) {
	l := font(t)
	box := unknownSays.columns()
	holds := func(r rune) {
		want := box
		if isKnown(r) {
			want = says(l, r).columns()
		}
		if got := Columns(r); !slices.Equal(got, want) {
			t.Fatalf("Columns(%x): %x, not %x", r, got, want)
		}
		if ok := Known(r); ok != isKnown(r) {
			t.Fatalf("Known(%x): %t", r, ok)
		}
	}
	for r := rune(-0x3000); r < 0x113000; r++ {
		holds(r)
	}
	for _, r := range strange {
		holds(r)
		if Known(r) {
			t.Fatalf("Known(%x)", r)
		}
	}
}

func TestEdges(t *testing.T) {
	for _, x := range edges {
		if ok := Known(x.r); ok != x.known {
			t.Errorf("Known(%x): %t", x.r, ok)
		}
		if box := slices.Equal(Columns(x.r), []byte{0x7f, 0x41, 0x41, 0x41, 0x7f}); box == x.known {
			t.Errorf("Columns(%x): %x", x.r, Columns(x.r))
		}
	}
}

// told holds Columns of a rune against hexadecimal digits.
func told(t *testing.T, r rune, want string) {
	t.Helper()
	if got := hex.EncodeToString(Columns(r)); got != want {
		t.Errorf("Columns(%x): %s, not %s", r, got, want)
	}
}

func TestColumnsOfSomeLetters(t *testing.T) {
	for r, want := range map[rune]string{
		0x1f: "7f4141417f", ' ': "0000000000", '!': "00005f0000", '0': "3e5149453e", '9': "464949291e", '@': "3e415d594e", 'A': "7c1211127c", 'B': "7f49494936",
		'Z': "6159494d43", '_': "4040404040", 'g': "18a4a49c78", 'p': "fc18242418", 'y': "4c9090907c", '}': "0041360800", '~': "0201020402", 0x7f: "7f4141417f",
		// Each remainder by 5, with the lowest row's bit 0.
		0x9f: "7f4141417f", 0xa0: "8000000000", 0xa1: "00805f0000", 0xa2: "3844c44428", 0xa3: "147f14ff14", 0xa4: "38444444b8", 0xa5: "a42a7f2a12",
		0xc0: "7c1291127c", 0xc1: "7c1211927c", 0xc2: "7c121112fc", 0xc3: "fc1211127c", 0xc4: "7c9211127c", 0xe9: "385454d418",
		// The same letter with that bit beside others of its row, and with that bit 1.
		0xb8: "0080703080", 0xfd: "4c9090107c", 0xfe: "fc18242498", 0xff: "cc9090907c", 0x100: "7f4141417f",
		0x24ff: "7f4141417f", 0x2580: "7f4141417f", -1: "7f4141417f", 0xd800: "7f4141417f", 0xfffd: "7f4141417f", 0x10ffff: "7f4141417f", 0x110000: "7f4141417f",
	} {
		told(t, r, want)
	}
}

// All 32 ways in which a line goes, each four times, as its number's bits 5 and 6 say nothing.
func TestColumnsOfLines(t *testing.T) {
	for k, want := range []string{
		"0000000000", "0808080000", "0000080808", "0808080808", "00000f0000", "08080f0000", "00000f0808", "08080f0808",
		"0000f80000", "0808f80000", "0000f80808", "0808f80808", "0000ff0000", "0808ff0000", "0000ff0808", "0808ff0808",
		"0000000000", "0808080800", "0008080808", "0808080808", "000f0f0f00", "080f0f0f00", "000f0f0f08", "080f0f0f08",
		"00f8f8f800", "08f8f8f800", "00f8f8f808", "08f8f8f808", "00ffffff00", "08ffffff00", "00ffffff08", "08ffffff08",
	} {
		for _, more := range []int{0, 32, 64, 96} {
			told(t, rune(0x2500+k+more), want)
		}
	}
}

// Each of a0 to ff differs from the letter it is made of in one bit, and that is of the lowest row.
func TestLatinDiffersInOneBit(t *testing.T) {
	of := map[int]int{}
	ones := 0
	for r := rune(0xa0); r <= 0xff; r++ {
		base, got := Columns(rune(api.Latin[r-0xa0])), Columns(r)
		for i := range base {
			switch d := base[i] ^ got[i]; {
			case i == int(r%5) && d == 0x80:
				of[i]++
				ones += int(base[i] / 0x80)
			case i == int(r%5) || d != 0:
				t.Errorf("%x: %x of %x", r, got, base)
			}
		}
	}
	// So that each remainder, and both bits, were among them.
	if len(of) != 5 || ones != 1 {
		t.Errorf("%v, %d bits that were 1", of, ones)
	}
}

// faceSays is what P8.2 says of a letter of a face, pixel by pixel of its columns' picture.
func faceSays(face int, p picture) picture {
	switch face {
	case api.Regular:
		return drawn(6, 8, p.at)
	case api.Bold:
		return drawn(7, 8, func(x, y int) bool { return p.at(x, y) || p.at(x-1, y) })
	}
	return drawn(12, 16, func(x, y int) bool { return p.at(x/2, y/2) })
}

// is holds a letter of a face against a picture: its size, its rows, each of its pixels, and those beside it.
func is(t *testing.T, face int, r rune, p picture) {
	t.Helper()
	g := Glyph(face, r)
	w, h := len(p[0]), len(p)
	if g.W != w || g.H != h || !slices.Equal(g.Rows, p.rows()) || !glyph.Good(g) {
		t.Fatalf("Glyph(%d, %x): %d by %d, %x, not %d by %d, %x", face, r, g.W, g.H, g.Rows, w, h, p.rows())
	}
	for y := -1; y <= h; y++ {
		for x := -1; x <= w; x++ {
			if glyph.Bit(g, x, y) != p.at(x, y) {
				t.Fatalf("Glyph(%d, %x) at %d, %d: %t", face, r, x, y, !p.at(x, y))
			}
		}
	}
	if n := Advance(face, r); n != w {
		t.Fatalf("Advance(%d, %x): %d, not %d", face, r, n, w)
	}
}

func TestGlyphAndAdvance(t *testing.T) {
	l := font(t)
	for _, r := range some() {
		for face := range api.Faces {
			is(t, face, r, faceSays(face, says(l, r)))
		}
	}
}

func TestRegularLetters(t *testing.T) {
	is(t, 0, 'A', lettered(
		"..#...",
		".#.#..",
		"#...#.",
		"#...#.",
		"#####.",
		"#...#.",
		"#...#.",
		"......"))
	is(t, 0, 0xfd, lettered(
		"......",
		"......",
		"#...#.",
		"#...#.",
		".####.",
		"....#.",
		"#...#.",
		".##..."))
	is(t, 0, 0x253a, lettered(
		"......",
		"......",
		"......",
		".####.",
		".###..",
		".###..",
		".###..",
		".###.."))
	is(t, 0, 0x2500, lettered("......", "......", "......", "......", "......", "......", "......", "......"))
}

func TestBoldLetters(t *testing.T) {
	is(t, 1, 'A', lettered(
		"..##...",
		".####..",
		"##..##.",
		"##..##.",
		"######.",
		"##..##.",
		"##..##.",
		"......."))
	is(t, 1, 0xd800, lettered(
		"######.",
		"##..##.",
		"##..##.",
		"##..##.",
		"##..##.",
		"##..##.",
		"######.",
		"......."))
	is(t, 1, ' ', lettered(".......", ".......", ".......", ".......", ".......", ".......", ".......", "......."))
}

func TestLargeLetters(t *testing.T) {
	is(t, 2, 'A', lettered(
		"....##......",
		"....##......",
		"..##..##....",
		"..##..##....",
		"##......##..",
		"##......##..",
		"##......##..",
		"##......##..",
		"##########..",
		"##########..",
		"##......##..",
		"##......##..",
		"##......##..",
		"##......##..",
		"............",
		"............"))
	is(t, 2, 0xa4, lettered(
		"............",
		"............",
		"............",
		"............",
		"..######....",
		"..######....",
		"##......##..",
		"##......##..",
		"##......##..",
		"##......##..",
		"##......##..",
		"##......##..",
		"..######....",
		"..######....",
		"........##..",
		"........##.."))
}

func TestMetric(t *testing.T) {
	for face, want := range [][2]int{{7, 2}, {7, 2}, {14, 3}} {
		if up, down, ok := Metric(face); up != want[0] || down != want[1] || !ok {
			t.Errorf("Metric(%d): %d, %d, %t", face, up, down, ok)
		}
	}
}

func TestFacesThatAreNone(t *testing.T) {
	for _, face := range wrongFaces {
		if up, down, ok := Metric(face); up != 0 || down != 0 || ok {
			t.Errorf("Metric(%d): %d, %d, %t", face, up, down, ok)
		}
		for _, r := range some() {
			if g := Glyph(face, r); g.W != 0 || g.H != 0 || len(g.Rows) != 0 {
				t.Fatalf("Glyph(%d, %x): %v", face, r, g)
			}
			if n := Advance(face, r); n != 0 {
				t.Fatalf("Advance(%d, %x): %d", face, r, n)
			}
		}
	}
}

// P8.3, of runes out of all parts, and of none.
func TestLettersOfAFaceAreAsGreat(t *testing.T) {
	wide, high := []int{6, 7, 12}, []int{8, 8, 16}
	runes := some()
	for r := rune(0); r < 0x110000; r += 0x3d {
		runes = append(runes, r)
	}
	for face := range api.Faces {
		for _, r := range runes {
			if g := Glyph(face, r); g.W != wide[face] || g.H != high[face] || len(g.Rows) != high[face] || Advance(face, r) != wide[face] {
				t.Fatalf("Glyph(%d, %x): %d by %d, %d rows, %d on", face, r, g.W, g.H, len(g.Rows), Advance(face, r))
			}
		}
	}
}

// What is answered is new memory, the spare room included, and the next answer is the same.
func TestMemory(t *testing.T) {
	for _, r := range some() {
		first, second := Columns(r), Columns(r)
		kept := slices.Clone(second)
		first = first[:cap(first)]
		for i := range first {
			first[i] ^= 0xff
		}
		if !slices.Equal(second, kept) || !slices.Equal(Columns(r), kept) {
			t.Fatalf("Columns(%x) shares what it answers", r)
		}
		for face := range api.Faces {
			one, other := Glyph(face, r), Glyph(face, r)
			was := slices.Clone(other.Rows)
			room := one.Rows[:cap(one.Rows)]
			for i := range room {
				room[i] ^= 0xffff
			}
			if !slices.Equal(other.Rows, was) || !slices.Equal(Glyph(face, r).Rows, was) {
				t.Fatalf("Glyph(%d, %x) shares what it answers", face, r)
			}
		}
	}
}

// The same runes, asked in another order, have the same letters.
func TestFromArgumentsAlone(t *testing.T) {
	l := some()
	var there, back []string
	for _, r := range l {
		there = append(there, hex.EncodeToString(Columns(r)))
	}
	for _, r := range slices.Backward(l) {
		back = append(back, hex.EncodeToString(Columns(r)))
	}
	slices.Reverse(back)
	if strings.Join(there, " ") != strings.Join(back, " ") {
		t.Error("an answer hangs on what was asked ahead of it")
	}
}
