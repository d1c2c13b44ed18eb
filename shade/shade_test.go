package shade

import (
	"fmt"
	"math"
	"strconv"
	"strings"
	"testing"

	"scrivener/api"
)

// far are numbers far below and far above those that are good. Some of them have the last bits of one.
var far = []int{
	math.MinInt, math.MinInt + 1, math.MinInt + 2, math.MinInt + 23, -1 << 32, -1<<32 + 5, -1 << 31, -1 << 16, -256, -255, -72, -25, -24, -23,
	72, 100, 255, 256, 257, 261, 1 << 16, 1<<31 - 1, 1 << 31, 1<<31 + 1, 1 << 32, 1<<32 + 1, 1<<32 + 7, math.MaxInt - 23, math.MaxInt - 1, math.MaxInt,
}

// near are the numbers from -20 to 60.
func near() []int {
	var l []int
	for n := -20; n <= 60; n++ {
		l = append(l, n)
	}
	return l
}

// styles are all styles, as P9.1 has them.
var styles = []struct {
	face int
	ink  uint32
}{
	{0, 0x000000}, {1, 0x000000}, {2, 0x000000},
	{0, 0x202080}, {1, 0x202080}, {2, 0x202080},
	{0, 0x207020}, {1, 0x207020}, {2, 0x207020},
	{0, 0x802020}, {1, 0x802020}, {2, 0x802020},
	{0, 0x806000}, {1, 0x806000}, {2, 0x806000},
	{0, 0x006868}, {1, 0x006868}, {2, 0x006868},
	{0, 0x702070}, {1, 0x702070}, {2, 0x702070},
	{0, 0x505050}, {1, 0x505050}, {2, 0x505050},
}

// above are things that stand above the six digits of a colour.
var above = []uint32{0, 0x01000000, 0x02000000, 0x0f000000, 0x80000000, 0x81000000, 0xa5000000, 0xff000000}

// rgb is the colour of three parts, each from 0 to 255.
func rgb(r, g, b int) uint32 {
	return uint32(r*65536 + g*256 + b)
}

// spread are colours of all kinds, a few thousand of them, the least and the greatest among them.
func spread() []uint32 {
	l := []uint32{0, 1, 0x000100, 0x010000, 0x0000ff, 0x00ff00, 0xff0000, 0xfffffe, 0xffffff, api.Paper, api.Chosen, api.Cursor, api.Folded, api.Outside}
	for c := uint32(0); c <= api.MaxColor; c += 4099 {
		l = append(l, c)
	}
	return l
}

// P9.1: the styles go up to 23.
func TestStylesAreAsMany(t *testing.T) {
	if n := len(styles); n != 24 || api.MaxStyle != 23 {
		t.Fatal(n, api.MaxStyle)
	}
}

// P9.1: Good, Face and Ink of each style.
func TestEachStyle(t *testing.T) {
	for s, want := range styles {
		if !Good(s) {
			t.Errorf("Good(%d) is false", s)
		}
		if f := Face(s); f != want.face {
			t.Errorf("Face(%d) is %d, want %d", s, f, want.face)
		}
		if i := Ink(s); i != want.ink {
			t.Errorf("Ink(%d) is %06x, want %06x", s, i, want.ink)
		}
	}
}

// P9.1: what is no style is not good, and has neither a face nor an ink but 0.
func TestNoStyle(t *testing.T) {
	for _, s := range append(near(), far...) {
		if s >= 0 && s <= 23 {
			continue
		}
		if Good(s) {
			t.Errorf("Good(%d) is true", s)
		}
		if f, i := Face(s), Ink(s); f != 0 || i != 0 {
			t.Errorf("Face(%d), Ink(%d) are %d, %06x", s, s, f, i)
		}
	}
}

// P9.1: Style of each face with each ink, and of those beside them, one of the two wrong or both.
func TestStyle(t *testing.T) {
	numbers := append(near(), far...)
	good := 0
	for _, face := range numbers {
		for _, ink := range numbers {
			s, ok := Style(face, ink)
			if face < 0 || face > 2 || ink < 0 || ink > 7 {
				if s != 0 || ok {
					t.Errorf("Style(%d, %d) is %d, %v, want 0, false", face, ink, s, ok)
				}
				continue
			}
			good++
			if !ok || s != 3*ink+face {
				t.Errorf("Style(%d, %d) is %d, %v", face, ink, s, ok)
			}
		}
	}
	if good != 24 {
		t.Error(good, "styles")
	}
}

// P9.1: some of these, as they stand.
func TestStyleByHand(t *testing.T) {
	for _, c := range []struct {
		face, ink, style int
		ok               bool
	}{
		{0, 0, 0, true}, {1, 0, 1, true}, {2, 0, 2, true}, {0, 1, 3, true}, {1, 4, 13, true}, {0, 7, 21, true}, {2, 7, 23, true},
		{3, 0, 0, false}, {0, 8, 0, false}, {-1, 0, 0, false}, {0, -1, 0, false}, {-1, 1, 0, false}, {3, -1, 0, false}, {-1, -1, 0, false}, {3, 8, 0, false},
		{2, 8, 0, false}, {3, 7, 0, false}, {math.MinInt, 3, 0, false}, {2, math.MaxInt, 0, false}, {math.MaxInt, math.MinInt, 0, false},
	} {
		if s, ok := Style(c.face, c.ink); s != c.style || ok != c.ok {
			t.Errorf("Style(%d, %d) is %d, %v, want %d, %v", c.face, c.ink, s, ok, c.style, c.ok)
		}
	}
}

// P9.3: Style of a style's face and of the number of its ink is the style, and the other way about.
func TestStyleTurnsRound(t *testing.T) {
	var inks []uint32
	for s, want := range styles {
		if s%3 == 0 {
			inks = append(inks, want.ink)
		}
	}
	for s := range 24 {
		number := -1
		for i, ink := range inks {
			if ink == Ink(s) {
				number = i
			}
		}
		if got, ok := Style(Face(s), number); got != s || !ok {
			t.Errorf("Style(Face(%d), its ink) is %d, %v", s, got, ok)
		}
	}
	for face := range 3 {
		for ink := range 8 {
			s, ok := Style(face, ink)
			if !ok || !Good(s) || Face(s) != face || Ink(s) != inks[ink] {
				t.Errorf("Style(%d, %d) is %d, %v: its face is %d, its ink %06x", face, ink, s, ok, Face(s), Ink(s))
			}
		}
	}
}

// P9.2: Mix, as it stands: halves that are rounded down in none of the three, in one, in two and in all.
func TestMixByHand(t *testing.T) {
	for _, c := range []struct{ a, b, want uint32 }{
		{0xff0000, 0x0000ff, 0x7f007f},
		{0x000000, 0x000000, 0x000000}, {0xffffff, 0xffffff, 0xffffff}, {0xffffff, 0x000000, 0x7f7f7f}, {0x000000, 0xffffff, 0x7f7f7f},
		{0x102030, 0x304050, 0x203040}, {0x010101, 0x030303, 0x020202},
		{0x010000, 0x000000, 0x000000}, {0x000100, 0x000000, 0x000000}, {0x000001, 0x000000, 0x000000},
		{0x110000, 0x120000, 0x110000}, {0x001100, 0x001200, 0x001100}, {0x000011, 0x000012, 0x000011},
		{0x111110, 0x121210, 0x111110}, {0x111011, 0x121012, 0x111011}, {0x101111, 0x101212, 0x101111},
		{0x010101, 0x020202, 0x010101}, {0xfefefe, 0xffffff, 0xfefefe}, {0xfffefd, 0x010203, 0x808080}, {0x80ff01, 0x80ff01, 0x80ff01},
		{0xff00ff, 0xff01ff, 0xff00ff}, {0x0100ff, 0x0000ff, 0x0000ff}, {0x00ff00, 0x00ff01, 0x00ff00},
		{0xff123456, 0x00123456, 0x123456}, {0x00123456, 0xff123456, 0x123456}, {0xff123456, 0xff123456, 0x123456}, {0x01000000, 0, 0}, {0, 0x01000000, 0},
		{0x01000000, 0x01000000, 0}, {0xffff0000, 0x010000ff, 0x7f007f}, {math.MaxUint32, math.MaxUint32, 0xffffff}, {math.MaxUint32, 0, 0x7f7f7f},
	} {
		if m := Mix(c.a, c.b); m != c.want {
			t.Errorf("Mix(%06x, %06x) is %06x, want %06x", c.a, c.b, m, c.want)
		}
	}
}

// P9.2: Mix of all pairs of parts, each part beside others.
func TestMixOfAllParts(t *testing.T) {
	half := func(a, b int) int {
		return int(math.Floor(float64(a+b) / 2))
	}
	for a := range 256 {
		for b := range 256 {
			for _, k := range [][2]int{{0, 0}, {0, 1}, {255, 255}, {254, 255}, {b, a}, {b, 255 - a}} {
				for turn := range 3 {
					p, q := [3]int{a, k[0], k[1]}, [3]int{b, k[1], k[0]}
					i, j, l := turn, (turn+1)%3, (turn+2)%3
					x, y := rgb(p[i], p[j], p[l]), rgb(q[i], q[j], q[l])
					want := rgb(half(p[i], q[i]), half(p[j], q[j]), half(p[l], q[l]))
					if m := Mix(x, y); m != want {
						t.Fatalf("Mix(%06x, %06x) is %06x, want %06x", x, y, m, want)
					}
				}
			}
		}
	}
}

// P9.2: what is above a colour's six digits is not looked at, on neither side of Mix, in Gray and in Hex.
func TestAbove(t *testing.T) {
	last := uint32(0x35a7c1)
	for _, c := range spread() {
		mix, gray, text := Mix(c, last), Gray(c), Hex(c)
		if mix > api.MaxColor {
			t.Errorf("Mix(%06x, %06x) is %06x", c, last, mix)
		}
		for _, u := range above {
			if g := Gray(u | c); g != gray {
				t.Errorf("Gray(%08x) is %d, want %d", u|c, g, gray)
			}
			if s := Hex(u | c); s != text {
				t.Errorf("Hex(%08x) is %q, want %q", u|c, s, text)
			}
			for _, v := range above {
				if m := Mix(u|c, v|last); m != mix {
					t.Errorf("Mix(%08x, %08x) is %06x, want %06x", u|c, v|last, m, mix)
				}
			}
		}
		last = c
	}
}

// P9.2: Gray, as it stands, where it is rounded and where it is not.
func TestGrayByHand(t *testing.T) {
	for c, want := range map[uint32]int{
		0xffffff: 255, 0x000000: 0, 0x0a0a0a: 10, 0x808080: 128, 0xff0000: 76, 0x00ff00: 153, 0x0000ff: 25,
		0x010000: 0, 0x000100: 0, 0x000001: 0, 0x030000: 0, 0x040000: 1, 0x000200: 1, 0x000009: 0, 0x00000a: 1, 0x010101: 1, 0x010100: 0, 0x010001: 0, 0x000101: 0,
		0xfffffe: 254, 0xfffeff: 254, 0xfeffff: 254, 0x202080: 41, 0x207020: 80, 0x802020: 60, 0x806000: 96, 0x006868: 72, 0x702070: 64, 0x505050: 80,
		0xff000000: 0, 0x01ffffff: 255, math.MaxUint32: 255, 0xff000001: 0, 0xa50a0a0a: 10,
	} {
		if g := Gray(c); g != want {
			t.Errorf("Gray(%06x) is %d, want %d", c, g, want)
		}
	}
}

// P9.2: Gray of all reds and greens, with some blues.
func TestGray(t *testing.T) {
	for r := range 256 {
		for g := range 256 {
			for _, b := range []int{0, 1, 2, 3, 4, 5, 6, 7, 8, 9, 10, 99, 127, 128, 254, 255} {
				sum := float64(r)*3 + float64(g)*6 + float64(b)
				if got := Gray(rgb(r, g, b)); got != int(math.Floor(sum/10)) {
					t.Fatalf("Gray(%06x) is %d of %v tenths", rgb(r, g, b), got, sum)
				}
			}
		}
	}
}

// P9.2: Hex, as it stands: with noughts ahead, and each digit.
func TestHexByHand(t *testing.T) {
	for c, want := range map[uint32]string{
		0: "000000", 1: "000001", 0xf: "00000f", 0x10: "000010", 0xff: "0000ff", 0x100: "000100", 0xfff: "000fff", 0x1000: "001000", 0xffff: "00ffff",
		0x10000: "010000", 0xfffff: "0fffff", 0x100000: "100000", 0x012345: "012345", 0x6789ab: "6789ab", 0xcdef01: "cdef01", 0xabcdef: "abcdef",
		api.Paper: "ffffff", api.Chosen: "b0d0ff", api.Cursor: "d00000", api.Folded: "808080", api.Outside: "e0e0e0",
		0x01000000: "000000", 0xff000000: "000000", 0xff000001: "000001", 0x12345678: "345678", math.MaxUint32: "ffffff", 0xf00abcde: "0abcde",
	} {
		if s := Hex(c); s != want {
			t.Errorf("Hex(%08x) is %q, want %q", c, s, want)
		}
	}
}

// P9.2, P9.3: Hex and Parse of colours of all kinds.
func TestHexAndParse(t *testing.T) {
	colours := spread()
	for i := range 6 {
		for d := range uint32(16) {
			colours = append(colours, d<<(4*i), api.MaxColor&^(15<<(4*i))|d<<(4*i))
		}
	}
	for _, c := range colours {
		s := Hex(c)
		if s != fmt.Sprintf("%06x", c) {
			t.Errorf("Hex(%06x) is %q", c, s)
		}
		if got, ok := Parse(s); got != c || !ok {
			t.Errorf("Parse(%q) is %06x, %v", s, got, ok)
		}
		for _, u := range above {
			if got, ok := Parse(Hex(u | c)); got != c || !ok {
				t.Errorf("Parse(Hex(%08x)) is %06x, %v", u|c, got, ok)
			}
		}
	}
}

// isHex is whether s is the Hex of a colour, as P9.2 has it.
func isHex(s string) bool {
	return len(s) == 6 && strings.Trim(s, "0123456789abcdef") == ""
}

// held holds Parse of s against what P9.2 says.
func held(t *testing.T, s string) {
	t.Helper()
	c, ok := Parse(s)
	if !isHex(s) {
		if c != 0 || ok {
			t.Errorf("Parse(%q) is %06x, %v, want 0, false", s, c, ok)
		}
		return
	}
	want, err := strconv.ParseUint(s, 16, 32)
	if err != nil || c != uint32(want) || !ok {
		t.Errorf("Parse(%q) is %06x, %v", s, c, ok)
	}
}

// P9.2: Parse of any byte at each place, of each digit alone, and of more than one wrong byte.
func TestParseBytes(t *testing.T) {
	for _, full := range []string{"000000", "123456", "abcdef", "ffffff", "90af27"} {
		for i := range 6 {
			for b := range 256 {
				held(t, full[:i]+string([]byte{byte(b)})+full[i+1:])
			}
		}
	}
	for b := range 256 {
		for n := range 9 {
			held(t, strings.Repeat(string([]byte{byte(b)}), n))
		}
	}
}

// P9.2: Parse of texts that are too short, too long, or no colour for another reason.
func TestParseNone(t *testing.T) {
	for _, s := range []string{
		"", "0", "f", "00", "fff", "0000", "00000", "fffff", "12345", "abcde", "0000000", "fffffff", "1234567", "0abcdef", "abcdef0", "00000000", "00ffffff", "ffffffff",
		"ABCDEF", "FFFFFF", "Abcdef", "abcdeF", "abCdef", "00000A", "A00000", "7F007f", "g00000", "00000g", "/00000", ":00000", "`00000", "@00000", "G00000",
		"+12345", "-12345", "-00001", "+00000", "0x1234", "0X1234", "x12345", "#12345", "#123456", "1_2345", "12 456", " 12345", "12345 ", " 123456", "123456 ", "123456\n", "12345\n", "\n12345",
		"1.2345", "1e+123", "12345h", "12345,", "\x00\x00\x00\x00\x00\x00", "00000\x00", "\x0000000", "000000\x00", "\xff\xff\xff\xff\xff\xff", "a\xc3\xa9bcd", "éabcd", "éé12", "ééé", "１２", "١٢٣", "\U0001d7ce12",
		"\xe1\x80\xb012f", "\xb1\xb2\xb3\xb4\xb5\xb6", "12345\xb6", "abcde\xe6",
		"colour", "zzzzzz", "red", "000000000000", strings.Repeat("0", 1<<16), strings.Repeat("f", 1<<16+6),
	} {
		if isHex(s) {
			t.Fatalf("%q is a colour", s)
		}
		if c, ok := Parse(s); c != 0 || ok {
			t.Errorf("Parse(%.20q) is %06x, %v, want 0, false", s, c, ok)
		}
	}
}

// P9.2: Parse, as it stands.
func TestParseByHand(t *testing.T) {
	for s, want := range map[string]uint32{
		"000000": 0, "000001": 1, "00000a": 10, "00000f": 15, "000010": 16, "0000ff": 255, "000100": 256, "010000": 65536, "100000": 1 << 20, "ffffff": 0xffffff,
		"012345": 0x012345, "6789ab": 0x6789ab, "cdef01": 0xcdef01, "7f007f": 0x7f007f, "b0d0ff": 0xb0d0ff, "d00000": 0xd00000, "808080": 0x808080, "e0e0e0": 0xe0e0e0,
	} {
		if c, ok := Parse(s); c != want || !ok {
			t.Errorf("Parse(%q) is %06x, %v, want %06x", s, c, ok, want)
		}
	}
}
