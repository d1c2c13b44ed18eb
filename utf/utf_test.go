package utf

import (
	"bytes"
	"math"
	"slices"
	"strings"
	"testing"
	"unicode/utf8"
)

// form is one line of RFC 3629's grammar: from which to which byte each byte of a rune may be.
type form [][2]byte

// forms is that grammar.
var forms = []form{
	{{0, 0x7f}},
	{{0xc2, 0xdf}, {0x80, 0xbf}},
	{{0xe0, 0xe0}, {0xa0, 0xbf}, {0x80, 0xbf}},
	{{0xe1, 0xec}, {0x80, 0xbf}, {0x80, 0xbf}},
	{{0xed, 0xed}, {0x80, 0x9f}, {0x80, 0xbf}},
	{{0xee, 0xef}, {0x80, 0xbf}, {0x80, 0xbf}},
	{{0xf0, 0xf0}, {0x90, 0xbf}, {0x80, 0xbf}, {0x80, 0xbf}},
	{{0xf1, 0xf3}, {0x80, 0xbf}, {0x80, 0xbf}, {0x80, 0xbf}},
	{{0xf4, 0xf4}, {0x80, 0x8f}, {0x80, 0xbf}, {0x80, 0xbf}},
}

// begins is whether b begins with a form.
func (f form) begins(b []byte) bool {
	if len(b) < len(f) {
		return false
	}
	for i, bounds := range f {
		if b[i] < bounds[0] || b[i] > bounds[1] {
			return false
		}
	}
	return true
}

// ahead are how many bits of a first byte tell how many bytes there are, as numbers to take away.
var ahead = []int{1: 0, 2: 0xc0, 3: 0xe0, 4: 0xf0}

// says is what P7.1 says of a beginning: by the grammar, and by products instead of bits.
func says(b []byte) (rune, int) {
	if len(b) == 0 {
		return 0, 0
	}
	for _, f := range forms {
		if f.begins(b) {
			r := int(b[0]) - ahead[len(f)]
			for _, c := range b[1:len(f)] {
				r = r*64 + int(c) - 0x80
			}
			return rune(r), len(f)
		}
	}
	return 0xfffd, 1
}

// split is what P7.2 says of bytes: where runes begin, which they are, and whether one of them is none.
func split(b []byte) (starts []int, runes []rune, valid bool) {
	starts, valid = []int{0}, true
	for at := 0; at < len(b); {
		r, n := says(b[at:])
		at += n
		starts, runes = append(starts, at), append(runes, r)
		valid = valid && (r != 0xfffd || n != 1)
	}
	return starts, runes, valid
}

// whole are runes of one to four bytes: the first and the last of each length, and what lies about the surrogates and fffd.
var whole = []struct {
	r rune
	b string
}{
	{0, "\x00"}, {1, "\x01"}, {'\n', "\x0a"}, {'A', "\x41"}, {0x7e, "\x7e"}, {0x7f, "\x7f"},
	{0x80, "\xc2\x80"}, {0x81, "\xc2\x81"}, {0xbf, "\xc2\xbf"}, {0xc0, "\xc3\x80"}, {0xe9, "\xc3\xa9"}, {0x7c0, "\xdf\x80"}, {0x7ff, "\xdf\xbf"},
	{0x800, "\xe0\xa0\x80"}, {0x801, "\xe0\xa0\x81"}, {0xfff, "\xe0\xbf\xbf"}, {0x1000, "\xe1\x80\x80"}, {0x20ac, "\xe2\x82\xac"}, {0xcfff, "\xec\xbf\xbf"},
	{0xd000, "\xed\x80\x80"}, {0xd7ff, "\xed\x9f\xbf"}, {0xe000, "\xee\x80\x80"}, {0xfeff, "\xef\xbb\xbf"}, {0xfffc, "\xef\xbf\xbc"}, {0xfffd, "\xef\xbf\xbd"},
	{0xfffe, "\xef\xbf\xbe"}, {0xffff, "\xef\xbf\xbf"},
	{0x10000, "\xf0\x90\x80\x80"}, {0x10001, "\xf0\x90\x80\x81"}, {0x1f642, "\xf0\x9f\x99\x82"}, {0x3ffff, "\xf0\xbf\xbf\xbf"}, {0x40000, "\xf1\x80\x80\x80"},
	{0xfffff, "\xf3\xbf\xbf\xbf"}, {0x100000, "\xf4\x80\x80\x80"}, {0x10fffe, "\xf4\x8f\xbf\xbe"}, {0x10ffff, "\xf4\x8f\xbf\xbf"},
}

// broken are bytes that begin with no rune, whatever comes behind them.
var broken = []string{
	// With these none begins.
	"\x80", "\x81", "\x8f", "\x90", "\x9f", "\xa0", "\xbe", "\xbf", "\xf8", "\xfb", "\xfc", "\xfd", "\xfe", "\xff", "\xfe\xff", "\xff\xfe", "\x80\x80\x80\x80\x80",
	// Not the shortest forms.
	"\xc0\x80", "\xc0\x8a", "\xc0\xbf", "\xc1\x80", "\xc1\x81", "\xc1\xbf", "\xe0\x80\x80", "\xe0\x81\x81", "\xe0\x82\x80", "\xe0\x9f\xbf",
	"\xf0\x80\x80\x80", "\xf0\x80\x81\x81", "\xf0\x82\x82\xac", "\xf0\x8f\xbf\xbf",
	// Surrogates, alone and in pairs.
	"\xed\xa0\x80", "\xed\xa0\x81", "\xed\xaf\xbf", "\xed\xb0\x80", "\xed\xbf\xbe", "\xed\xbf\xbf", "\xed\xa0\xbd\xed\xb8\x80",
	// What is above 10ffff, and forms of five and six bytes.
	"\xf4\x90\x80\x80", "\xf4\xbf\xbf\xbf", "\xf5\x80\x80\x80", "\xf7\xbf\xbf\xbf", "\xf8\x88\x80\x80\x80", "\xfb\xbf\xbf\xbf\xbf", "\xfc\x84\x80\x80\x80\x80", "\xfd\xbf\xbf\xbf\xbf\xbf",
	// A byte between that is no tail.
	"\xc3\xff", "\xc3\xc0", "\xc3\xc3", "\xe2\xff\xac", "\xe2\x82\xc0", "\xe2\xc0\x80", "\xf0\xff\x99\x82", "\xf0\x9f\xc0\x82", "\xf0\x9f\x99\xc0", "\xf0\x9f\x99\xff", "\xf0\xc0\x80\x80",
}

// pieces are all whole runes, all broken ones, and whole ones that are cut after each of their bytes.
func pieces() []string {
	var l []string
	for _, x := range whole {
		for n := 1; n <= len(x.b); n++ {
			l = append(l, x.b[:n])
		}
	}
	return append(l, broken...)
}

// within is s as bytes, with room behind them that would make more of a rune that is cut.
func within(s string) []byte {
	return append(make([]byte, 0, len(s)+8), s+strings.Repeat("\x80", 8)...)[:len(s)]
}

func decodes(t *testing.T, b []byte, r rune, n int) {
	t.Helper()
	if gr, gn := Decode(b); gr != r || gn != n {
		t.Fatalf("Decode(% x): %x, %d, not %x, %d", b, gr, gn, r, n)
	}
}

func TestDecodeWhole(t *testing.T) {
	for _, x := range whole {
		for _, behind := range []string{"", "A", "\x80", "\xbf", "\xc3", "\xff", "\x00", "\u20ac", "\x80\x80\x80\x80"} {
			decodes(t, within(x.b+behind), x.r, len(x.b))
		}
	}
	decodes(t, nil, 0, 0)
	decodes(t, []byte{}, 0, 0)
	decodes(t, within(""), 0, 0)
	decodes(t, []byte("\xc3\xa9"), 0xe9, 2)
	decodes(t, []byte("\xc3"), 0xfffd, 1)
}

func TestDecodeBroken(t *testing.T) {
	for _, s := range broken {
		for _, behind := range []string{"", "A", "\x80", "\xff", "\u20ac"} {
			decodes(t, within(s+behind), 0xfffd, 1)
		}
	}
}

// A rune that is cut is none, at the end as ahead of another rune, of whichever length.
func TestDecodeCut(t *testing.T) {
	for _, x := range whole {
		for n := 1; n < len(x.b); n++ {
			decodes(t, within(x.b[:n]), 0xfffd, 1)
			for _, y := range whole {
				decodes(t, within(x.b[:n]+y.b), 0xfffd, 1)
			}
		}
	}
}

// Of all first and second bytes, with some behind them, and of each of them fewer.
func TestDecodeOfAllBeginnings(t *testing.T) {
	rest := []byte{0, 0x41, 0x7f, 0x80, 0x9a, 0xbf, 0xc0, 0xe2, 0xff}
	asSaid := func(b []byte) {
		r, n := says(b)
		decodes(t, b, r, n)
		if ur, un := utf8.DecodeRune(b); ur != r || un != n {
			t.Fatalf("% x: %x, %d by this test, %x, %d by the library", b, r, n, ur, un)
		}
	}
	b := make([]byte, 4)
	for i := range 1 << 16 {
		b[0], b[1] = byte(i>>8), byte(i)
		asSaid(b[:1])
		asSaid(b[:2])
		for _, c := range rest {
			b[2] = c
			asSaid(b[:3])
			for _, d := range rest {
				b[3] = d
				asSaid(b)
			}
		}
	}
}

func TestEncode(t *testing.T) {
	for _, x := range whole {
		if b := Encode(x.r); string(b) != x.b {
			t.Errorf("Encode(%x): % x, not % x", x.r, b, x.b)
		}
	}
	for _, r := range []rune{math.MinInt32, math.MinInt32 + 'A', -0x110000, -0x10000, -0xfffd, -0x800, -0x80, -2, -1, 0xd800, 0xd801, 0xdbff, 0xdc00, 0xdffe, 0xdfff, 0x110000, 0x110001, 0x11ffff, 0x1fffff, 0x200000, 1 << 26, 1 << 30, math.MaxInt32 - 1, math.MaxInt32} {
		if b := Encode(r); string(b) != "\xef\xbf\xbd" {
			t.Errorf("Encode(%d): % x", r, b)
		}
	}
}

// Each number is the rune that comes back from its bytes, and those are what the grammar says of them.
func TestDecodeOfEncode(t *testing.T) {
	for r := rune(-0x1000); r < 0x112000; r++ {
		want := r
		if r < 0 || r > 0x10ffff || r >= 0xd800 && r < 0xe000 {
			want = 0xfffd
		}
		b := Encode(r)
		if sr, sn := says(b); sr != want || sn != len(b) {
			t.Fatalf("Encode(%x): % x", r, b)
		}
		decodes(t, b, want, len(b))
		if s := string(want); string(b) != s {
			t.Fatalf("Encode(%x): % x, not % x", r, b, s)
		}
	}
}

// far are places that lie beside all bytes.
var far = []int{math.MinInt, math.MinInt + 1, -1 << 32, -1 << 31, -100, math.MaxInt32, 1 << 32, math.MaxInt - 3, math.MaxInt - 1, math.MaxInt}

// placed holds Snap and Next at a place against what P7.3 says of Starts.
func placed(t *testing.T, b []byte, starts []int, at int) {
	t.Helper()
	snap, next := 0, len(b)
	for _, s := range starts {
		if s <= at {
			snap = s
		}
	}
	for _, s := range slices.Backward(starts) {
		if s > at {
			next = s
		}
	}
	if got := Snap(b, at); got != snap {
		t.Fatalf("Snap(% x, %d): %d, not %d", b, at, got, snap)
	}
	if got := Next(b, at); got != next {
		t.Fatalf("Next(% x, %d): %d, not %d", b, at, got, next)
	}
}

// holds holds all that is told of bytes against the chapter's words.
func holds(t *testing.T, b []byte) {
	t.Helper()
	starts, runes, valid := split(b)
	if got := Starts(b); !slices.Equal(got, starts) {
		t.Fatalf("Starts(% x): %v, not %v", b, got, starts)
	}
	if n := Count(b); n != len(runes) {
		t.Fatalf("Count(% x): %d, not %d", b, n, len(runes))
	}
	if ok := Valid(b); ok != valid {
		t.Fatalf("Valid(% x): %t", b, ok)
	}
	var again []byte
	for _, r := range runes {
		again = append(again, Encode(r)...)
	}
	if Valid(b) != bytes.Equal(again, b) {
		t.Fatalf("Valid(% x): %t, but its runes make % x", b, Valid(b), again)
	}
	for at := -3; at <= len(b)+3; at++ {
		placed(t, b, starts, at)
	}
}

func TestStartsOfSomeBytes(t *testing.T) {
	for _, x := range []struct {
		b     string
		want  []int
		valid bool
	}{
		{"", []int{0}, true},
		{"a", []int{0, 1}, true},
		{"\x00", []int{0, 1}, true},
		{"ab\n", []int{0, 1, 2, 3}, true},
		{"a\u00e9\u20ac\U0001f642z", []int{0, 1, 3, 6, 10, 11}, true},
		{"\ufffd", []int{0, 3}, true},
		{"\ufffd\xff", []int{0, 3, 4}, false},
		{"\xff\ufffd", []int{0, 1, 4}, false},
		{"\xc3", []int{0, 1}, false},
		{"\xc3a", []int{0, 1, 2}, false},
		{"\xc3\xc3\xa9", []int{0, 1, 3}, false},
		{"\xe2\x82", []int{0, 1, 2}, false},
		{"\xe2\x82a", []int{0, 1, 2, 3}, false},
		{"\xe2\x82\u20ac", []int{0, 1, 2, 5}, false},
		{"\xf0\x9f\x99", []int{0, 1, 2, 3}, false},
		{"\xf0\x9f\x99\U0001f642", []int{0, 1, 2, 3, 7}, false},
		{"\u20ac\x80", []int{0, 3, 4}, false},
		{"\U0001f642\x80\x80", []int{0, 4, 5, 6}, false},
		{"\xc0\x80", []int{0, 1, 2}, false},
		{"\xed\xa0\x80", []int{0, 1, 2, 3}, false},
		{"\xed\x9f\xbf\xee\x80\x80", []int{0, 3, 6}, true},
		{"\xf4\x8f\xbf\xbf\xf4\x90\x80\x80", []int{0, 4, 5, 6, 7, 8}, false},
		{"\x80\x80\x80\x80\x80", []int{0, 1, 2, 3, 4, 5}, false},
	} {
		b := within(x.b)
		if got := Starts(b); !slices.Equal(got, x.want) {
			t.Errorf("Starts(% x): %v, not %v", b, got, x.want)
		}
		if n := Count(b); n != len(x.want)-1 {
			t.Errorf("Count(% x): %d", b, n)
		}
		if ok := Valid(b); ok != x.valid {
			t.Errorf("Valid(% x): %t", b, ok)
		}
		holds(t, b)
	}
	if got := Starts(nil); !slices.Equal(got, []int{0}) || Count(nil) != 0 || !Valid(nil) || Snap(nil, 0) != 0 || Next(nil, 0) != 0 {
		t.Errorf("of no bytes: %v, %d, %t, %d, %d", got, Count(nil), Valid(nil), Snap(nil, 0), Next(nil, 0))
	}
}

func TestSnapAndNextOfSomePlaces(t *testing.T) {
	b := within("a\u00e9\U0001f642\xe2\x82z")
	for _, x := range []struct{ at, snap, next int }{
		{math.MinInt, 0, 0}, {-2, 0, 0}, {-1, 0, 0}, {0, 0, 1}, {1, 1, 3}, {2, 1, 3}, {3, 3, 7}, {4, 3, 7}, {5, 3, 7}, {6, 3, 7},
		{7, 7, 8}, {8, 8, 9}, {9, 9, 10}, {10, 10, 10}, {11, 10, 10}, {math.MaxInt, 10, 10},
	} {
		if snap, next := Snap(b, x.at), Next(b, x.at); snap != x.snap || next != x.next {
			t.Errorf("at %d: %d and %d, not %d and %d", x.at, snap, next, x.snap, x.next)
		}
	}
}

// Whole, broken and cut runes, alone, and each ahead of each other one.
func TestPieces(t *testing.T) {
	l := pieces()
	for _, s := range l {
		b := within(s)
		holds(t, b)
		starts, _, _ := split(b)
		for _, at := range far {
			placed(t, b, starts, at)
		}
		for _, more := range l {
			holds(t, within(s+more))
		}
	}
}

// All short bytes of some that begin a rune of each length, go on with it, or do neither.
func TestAllShortBytes(t *testing.T) {
	letters := "A\x80\x9f\xbf\xc3\xe2\xf0\xff"
	b := make([]byte, 0, 5)
	var longer func()
	longer = func() {
		holds(t, b)
		if len(b) == cap(b) {
			return
		}
		for i := range len(letters) {
			b = append(b, letters[i])
			longer()
			b = b[:len(b)-1]
		}
	}
	longer()
}

// Long bytes of all pieces, one behind the other in an order without rule; of whole ones alone, and with many tails between.
func TestLongBytes(t *testing.T) {
	all := pieces()
	var good []string
	for _, x := range whole {
		good = append(good, x.b)
	}
	for _, from := range [][]string{all, good, broken, {"\x80", "\xbf", "\xf0\x9f\x99\x82", "\xf0\x9f\x99"}} {
		s := ""
		for i := range 200 {
			s += from[(i*i*7+i*131)%len(from)]
		}
		holds(t, within(s))
		if ok := Valid([]byte(s)); ok != utf8.ValidString(s) {
			t.Errorf("Valid(% x): %t", s, ok)
		}
		if n := Count([]byte(s)); n != utf8.RuneCountInString(s) {
			t.Errorf("Count(% x): %d", s, n)
		}
	}
}

// One byte alone makes bytes other than valid, wherever it lies.
func TestOneBadByte(t *testing.T) {
	good := strings.Repeat("a\u00e9\u20ac\U0001f642\ufffd", 8)
	if !Valid([]byte(good)) {
		t.Fatal("good bytes are not valid")
	}
	starts, _, _ := split([]byte(good))
	for _, at := range starts {
		b := []byte(good[:at] + "\xff" + good[at:])
		if Valid(b) || Count(b) != 41 {
			t.Errorf("a bad byte at %d: %t, %d", at, Valid(b), Count(b))
		}
	}
}

// What is handed in is neither changed nor kept, spare room included; what is answered is new memory.
func TestMemory(t *testing.T) {
	for _, s := range pieces() {
		b := within(s + "a\u00e9" + s)
		room := b[:cap(b)]
		was := slices.Clone(room)
		first, second := Starts(b), Starts(b)
		Decode(b)
		Snap(b, 2)
		Next(b, 2)
		Count(b)
		Valid(b)
		if !bytes.Equal(room, was) {
			t.Fatalf("% x became % x", was, room)
		}
		kept := slices.Clone(second)
		first = first[:cap(first)]
		for i := range first {
			first[i] = -7
		}
		clear(room)
		if !slices.Equal(second, kept) {
			t.Fatalf("Starts(% x) became %v", s, second)
		}
	}
	for _, r := range []rune{'A', 0xe9, 0x20ac, 0x1f642, 0xfffd, -1, 0xd800, 0x110000} {
		first, second := Encode(r), Encode(r)
		kept := slices.Clone(second)
		clear(first[:cap(first)])
		if !bytes.Equal(second, kept) || !bytes.Equal(Encode(r), kept) {
			t.Fatalf("Encode(%x) shares what it answers", r)
		}
	}
}
