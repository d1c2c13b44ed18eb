package text

import (
	"bytes"
	"math"
	"slices"
	"strings"
	"testing"
	"unicode/utf8"

	"scrivener/api"
	"scrivener/utf"
)

const most = 1 << 24

// far are numbers far below and far above all places, so that sums of them wrap round.
var far = []int{
	math.MinInt, math.MinInt + 1, math.MinInt + 5, math.MinInt / 2, -1 << 32, 1 - 1<<32, -1 << 31, -most,
	most + 5, 1 << 31, 1 << 32, 1<<32 + 1, math.MaxInt / 2, math.MaxInt/2 + 1, math.MaxInt - 5, math.MaxInt - 3, math.MaxInt - 1, math.MaxInt,
}

// near are the numbers from -5 to n + 5.
func near(n int) []int {
	var l []int
	for i := -5; i <= n+5; i++ {
		l = append(l, i)
	}
	return l
}

// around are those near, and those far off.
func around(n int) []int {
	return append(near(n), far...)
}

// made is a text of b that may have most bytes.
func made(t *testing.T, b string, most int) *Text {
	t.Helper()
	x, c := New([]byte(b), most)
	if x == nil || c != api.OK {
		t.Fatalf("New(%.20q, %d): %v, %d", b, most, x, c)
	}
	return x
}

// put inserts, and tells if that is refused.
func put(t *testing.T, x *Text, at int, b string) {
	t.Helper()
	if c := x.Insert(at, []byte(b)); c != api.OK {
		t.Fatalf("Insert(%d, %.20q): %d", at, b, c)
	}
}

// take deletes, and tells if that is refused, or others went than were to go.
func take(t *testing.T, x *Text, at, n int, want string) {
	t.Helper()
	if b, c := x.Delete(at, n); string(b) != want || c != api.OK {
		t.Fatalf("Delete(%d, %d): %.20q, %d, want %.20q", at, n, b, c, want)
	}
}

// inserted and deleted are what Insert and Delete are to make of a text.
func inserted(b string, at int, in string) string { return b[:at] + in + b[at:] }
func deleted(b string, at, n int) string          { return b[:at] + b[at+n:] }

// line is where a line begins and ends.
type line struct{ start, end int }

// linesOf are the lines of b.
func linesOf(b string) []line {
	var l []line
	at := 0
	for _, part := range strings.Split(b, "\n") {
		l = append(l, line{start: at, end: at + len(part)})
		at += len(part) + 1
	}
	return l
}

// startsOf are the places at which runes begin, as the library's own package sees them, and the end.
func startsOf(b string) []int {
	l := []int{0}
	for at := 0; at < len(b); {
		_, n := utf8.DecodeRuneInString(b[at:])
		at += n
		l = append(l, at)
	}
	return l
}

// isLine holds what a text tells of the number k against its lines.
func isLine(t *testing.T, x *Text, b string, k int, l []line) {
	t.Helper()
	var want line
	has := k >= 0 && k < len(l)
	if has {
		want = l[k]
	}
	if at, ok := x.Start(k); at != want.start || ok != has {
		t.Fatalf("%.40q: Start(%d) is %d, %v, want %d, %v", b, k, at, ok, want.start, has)
	}
	if at, ok := x.End(k); at != want.end || ok != has {
		t.Fatalf("%.40q: End(%d) is %d, %v, want %d, %v", b, k, at, ok, want.end, has)
	}
	if s := string(x.Line(k)); s != b[want.start:want.end] {
		t.Fatalf("%.40q: Line(%d) is %.40q, want %.40q", b, k, s, b[want.start:want.end])
	}
}

// isPlace holds the line and the column of at against the lines of b, and leads back from there.
func isPlace(t *testing.T, x *Text, b string, at int, l []line) {
	t.Helper()
	wantLine, wantCol := 0, 0
	has := at >= 0 && at <= len(b)
	for k := range l {
		if has && l[k].start <= at && at <= l[k].end {
			wantLine, wantCol = k, at-l[k].start
		}
	}
	k, col, ok := x.Place(at)
	if k != wantLine || col != wantCol || ok != has {
		t.Fatalf("%.40q: Place(%d) is %d, %d, %v, want %d, %d, %v", b, at, k, col, ok, wantLine, wantCol, has)
	}
	if !has {
		return
	}
	if back, ok := x.Offset(k, col); back != at || !ok {
		t.Fatalf("%.40q: Offset(%d, %d) is %d, %v, want %d", b, k, col, back, ok, at)
	}
}

// isRune holds Snap, Next and Prev of at against the places at which runes begin.
func isRune(t *testing.T, x *Text, b string, at int, starts []int) {
	t.Helper()
	snap, next, prev := 0, len(b), 0
	for _, s := range starts {
		if s <= at {
			snap = s
		}
		if s < at {
			prev = s
		}
	}
	for _, s := range slices.Backward(starts) {
		if s > at {
			next = s
		}
	}
	if n := x.Snap(at); n != snap {
		t.Fatalf("%.40q: Snap(%d) is %d, want %d", b, at, n, snap)
	}
	if n := x.Next(at); n != next {
		t.Fatalf("%.40q: Next(%d) is %d, want %d", b, at, n, next)
	}
	if n := x.Prev(at); n != prev {
		t.Fatalf("%.40q: Prev(%d) is %d, want %d", b, at, n, prev)
	}
}

// isOffset holds the place of a line and a column against the lines of b.
func isOffset(t *testing.T, x *Text, b string, k, col int, l []line) {
	t.Helper()
	want := 0
	has := k >= 0 && k < len(l) && col >= 0 && col <= l[k].end-l[k].start
	if has {
		want = l[k].start + col
	}
	if at, ok := x.Offset(k, col); at != want || ok != has {
		t.Fatalf("%.40q: Offset(%d, %d) is %d, %v, want %d, %v", b, k, col, at, ok, want, has)
	}
}

// is holds a text as a whole against b.
func is(t *testing.T, x *Text, b string) {
	t.Helper()
	if n := x.Len(); n != len(b) {
		t.Fatalf("%.40q: Len %d, want %d", b, n, len(b))
	}
	if n := x.Lines(); n != strings.Count(b, "\n")+1 {
		t.Fatalf("%.40q: Lines %d", b, n)
	}
	if s := string(x.All()); s != b {
		t.Fatalf("the text is %.40q, want %.40q", s, b)
	}
}

// holds holds all that a text tells against b: each line and place that there is, and those near and far beside them.
func holds(t *testing.T, x *Text, b string) {
	t.Helper()
	is(t, x, b)
	l, starts := linesOf(b), startsOf(b)
	for _, at := range around(len(b)) {
		isPlace(t, x, b, at, l)
		isRune(t, x, b, at, starts)
	}
	for _, k := range around(len(l)) {
		isLine(t, x, b, k, l)
		for _, col := range around(len(b)) {
			isOffset(t, x, b, k, col, l)
		}
	}
}

// quick holds what there is, and what lies just beside it.
func quick(t *testing.T, x *Text, b string) {
	t.Helper()
	is(t, x, b)
	l, starts := linesOf(b), startsOf(b)
	for at := -1; at <= len(b)+1; at++ {
		isPlace(t, x, b, at, l)
		isRune(t, x, b, at, starts)
	}
	for k := -1; k <= len(l); k++ {
		isLine(t, x, b, k, l)
		if k < 0 || k == len(l) {
			continue
		}
		for _, col := range []int{-1, 0, l[k].end - l[k].start, l[k].end - l[k].start + 1} {
			isOffset(t, x, b, k, col, l)
		}
	}
}

// chance tells numbers that are the same each time.
type chance uint64

func (c *chance) below(n int) int {
	*c = *c*6364136223846793005 + 1442695040888963407
	return int(uint64(*c) >> 33 % uint64(n))
}

// texts are texts of all kinds: none, line feeds alone, lines with and without one at the end, empty ones in between, runes of each length, bytes that are none.
var texts = []string{
	"", "\n", "\n\n", "\n\n\n", "a", "a\n", "\na", "a\nb", "ab\nc", "ab\n\ncd", "ab\n\n", "\n\nab\n", "one\ntwo\nthree", "one\ntwo\nthree\n",
	"\r\n\r\n", "a\rb\x0bc\x0cd\xe2\x80\xa8e\xc2\x85f", "\x00\n\x00",
	"\xc3\xa9", "\xe2\x82\xac", "\xf0\x9f\x98\x80", "a\xc3\xa9\n\xe2\x82\xacb\xf0\x9f\x98\x80\n", "\xc3\xa9\xc3\xa9\xe2\x82\xac\xe2\x82\xac\xf0\x9f\x98\x80\xf0\x9f\x98\x80", "\xef\xbf\xbd\n\xef\xbf\xbe",
	"\xc3", "\xa9", "\xe2\x82", "\xf0\x9f\x98", "\xff\xfe", "\xc3\n\xa9", "\xe2\n\x82\xac", "\xe2\x82\n\xac", "\xf0\x9f\x98\n\x80",
	"\x80\x80\x80\x80\x80\x80\x80\x80\x80", "\xc3\xa9\xa9\xa9\xa9\xa9\xa9", "\xf0\x9f\x98\x80\x80\x80\x80\x80\x80\x80", "\xf0\xf0\xf0\x9f\x98\x80\x9f\x98\x80",
	"\xc0\x80\xc1\xbf\n\xe0\x80\x80\xe0\x9f\xbf\n\xf0\x80\x80\x80\xf0\x8f\xbf\xbf", "\xed\x9f\xbf\xed\xa0\x80\xed\xbf\xbf\xee\x80\x80", "\xf4\x8f\xbf\xbf\xf4\x90\x80\x80\xf5\x80\x80\x80\xf8\x88\x80\x80\x80",
}

// P12.1: what the limits are, upon which the edges below stand.
func TestLimits(t *testing.T) {
	if api.MaxText != most || api.OK != 0 || api.ErrRange != 1 || api.ErrLimit != 2 {
		t.Error("limits")
	}
}

// P12.1 to P12.4: texts of all kinds, as they stand.
func TestTexts(t *testing.T) {
	for _, b := range texts {
		for _, m := range []int{len(b), len(b) + 1, most} {
			holds(t, made(t, b, m), b)
		}
	}
}

// P12.1, P12.2: the chapter's own example, and lines told by hand.
func TestLinesByHand(t *testing.T) {
	x := made(t, "ab\nc", most)
	if k, col, ok := x.Place(3); x.Lines() != 2 || k != 1 || col != 0 || !ok {
		t.Error(x.Lines(), k, col, ok)
	}
	x = made(t, "ab\n\nc\n", most)
	if x.Lines() != 4 || x.Len() != 6 || string(x.All()) != "ab\n\nc\n" {
		t.Error(x.Lines(), x.Len())
	}
	for k, c := range []struct {
		start, end int
		line       string
	}{{0, 2, "ab"}, {3, 3, ""}, {4, 5, "c"}, {6, 6, ""}} {
		start, ok := x.Start(k)
		end, too := x.End(k)
		if b := x.Line(k); start != c.start || end != c.end || !ok || !too || string(b) != c.line {
			t.Errorf("line %d: %d, %v, %d, %v, %q", k, start, ok, end, too, b)
		}
	}
	for _, k := range []int{-1, 4, 5, math.MinInt, math.MaxInt} {
		start, ok := x.Start(k)
		end, too := x.End(k)
		if b := x.Line(k); start != 0 || end != 0 || ok || too || len(b) > 0 {
			t.Errorf("line %d: %d, %v, %d, %v, %q", k, start, ok, end, too, b)
		}
	}
	if x := made(t, "", 0); x.Lines() != 1 || x.Len() != 0 || len(x.All()) != 0 {
		t.Error("a text of no bytes", x.Lines())
	}
}

// P12.2: Place and Offset, told by hand: a line feed lies at the end of its line.
func TestPlaceByHand(t *testing.T) {
	x := made(t, "ab\n\nc\n", most)
	for at, want := range [][2]int{{0, 0}, {0, 1}, {0, 2}, {1, 0}, {2, 0}, {2, 1}, {3, 0}} {
		if k, col, ok := x.Place(at); k != want[0] || col != want[1] || !ok {
			t.Errorf("Place(%d): %d, %d, %v", at, k, col, ok)
		}
		if back, ok := x.Offset(want[0], want[1]); back != at || !ok {
			t.Errorf("Offset(%v): %d, %v", want, back, ok)
		}
	}
	for _, at := range []int{-1, 7, math.MinInt, math.MaxInt} {
		if k, col, ok := x.Place(at); k != 0 || col != 0 || ok {
			t.Errorf("Place(%d): %d, %d, %v", at, k, col, ok)
		}
	}
	for _, c := range [][2]int{{0, -1}, {0, 3}, {1, -1}, {1, 1}, {2, 2}, {3, 1}, {3, -1}, {4, 0}, {4, -1}, {-1, 0}, {-1, 1}, {math.MinInt, math.MinInt}, {3, math.MaxInt}, {3, math.MaxInt - 5}, {math.MaxInt, math.MaxInt}, {2, math.MinInt}} {
		if at, ok := x.Offset(c[0], c[1]); at != 0 || ok {
			t.Errorf("Offset(%v): %d, %v", c, at, ok)
		}
	}
}

// P12.3: Snap, Next and Prev, told by hand.
func TestRunesByHand(t *testing.T) {
	// a, e9 out of two bytes, a line feed, 20ac out of three, two bytes that are no rune, 1f600 out of four, one that is cut.
	x := made(t, "a\xc3\xa9\n\xe2\x82\xac\x82\xff\xf0\x9f\x98\x80\xe2\x82", most)
	for _, c := range [][4]int{
		{-1, 0, 0, 0}, {0, 0, 1, 0}, {1, 1, 3, 0}, {2, 1, 3, 1}, {3, 3, 4, 1}, {4, 4, 7, 3}, {5, 4, 7, 4}, {6, 4, 7, 4}, {7, 7, 8, 4}, {8, 8, 9, 7},
		{9, 9, 13, 8}, {10, 9, 13, 9}, {11, 9, 13, 9}, {12, 9, 13, 9}, {13, 13, 14, 9}, {14, 14, 15, 13}, {15, 15, 15, 14}, {16, 15, 15, 15}, {17, 15, 15, 15},
		{math.MinInt, 0, 0, 0}, {math.MaxInt, 15, 15, 15},
	} {
		if s, n, p := x.Snap(c[0]), x.Next(c[0]), x.Prev(c[0]); s != c[1] || n != c[2] || p != c[3] {
			t.Errorf("at %d: Snap %d, Next %d, Prev %d, want %v", c[0], s, n, p, c[1:])
		}
	}
	e := made(t, "", most)
	for _, at := range around(0) {
		if e.Snap(at) != 0 || e.Next(at) != 0 || e.Prev(at) != 0 {
			t.Errorf("of no bytes, at %d: %d, %d, %d", at, e.Snap(at), e.Next(at), e.Prev(at))
		}
	}
}

// P12.3: runes begin where layer 7 says, upon which these tests' own places stand.
func TestStartsAreThoseOfLayer7(t *testing.T) {
	for _, b := range texts {
		if !slices.Equal(startsOf(b), utf.Starts([]byte(b))) {
			t.Errorf("%q: %v, %v", b, startsOf(b), utf.Starts([]byte(b)))
		}
	}
}

// each calls do with each text of n of these bytes.
func each(of string, n int, do func(b string)) {
	b := make([]byte, n)
	var fill func(i int)
	fill = func(i int) {
		if i == n {
			do(string(b))
			return
		}
		for k := range len(of) {
			b[i] = of[k]
			fill(i + 1)
		}
	}
	fill(0)
}

// P12.1 to P12.4: all short texts of a letter, a line feed, and the first and the later bytes of runes.
func TestAllShortTexts(t *testing.T) {
	for n := range 6 {
		each("a\n\xa9\xc3\xe2\xf0", n, func(b string) { quick(t, made(t, b, n), b) })
	}
	for n := range 9 {
		each("\xa9\xc3\xf0", n, func(b string) { quick(t, made(t, b, n), b) })
	}
	for n := range 8 {
		each("a\n", n, func(b string) { holds(t, made(t, b, n), b) })
	}
}

// P12.3: a rune begins where it does in the whole text, however much stands about it.
func TestRunesInTheMidst(t *testing.T) {
	pad := []string{"aaaaaaaa", "\n\n\n\n\n", "\x80\x80\x80\x80\x80", "\xf0\x9f\x98\x80\xf0\x9f\x98\x80", "\xf0\xf0\xf0\xf0", "\xe2\x82\xe2\x82"}
	for _, ahead := range pad {
		for _, behind := range pad {
			for _, b := range texts {
				quick(t, made(t, ahead+b+behind, most), ahead+b+behind)
			}
		}
	}
}

// P12.1: New's codes; a most that is none comes ahead of a text that is too long.
func TestNewCodes(t *testing.T) {
	for _, c := range []struct {
		text string
		most int
		code api.Code
	}{
		{"", 0, api.OK}, {"a", 0, api.ErrLimit}, {"\n", 0, api.ErrLimit}, {"a", 1, api.OK}, {"ab\n", 2, api.ErrLimit}, {"ab\n", 3, api.OK}, {"\xc3\xa9", 1, api.ErrLimit}, {"\xc3\xa9", 2, api.OK},
		{"", -1, api.ErrRange}, {"a", -1, api.ErrRange}, {"", most, api.OK}, {"", most + 1, api.ErrRange}, {"a\nb", most + 1, api.ErrRange}, {"", math.MinInt, api.ErrRange}, {"a", math.MaxInt, api.ErrRange},
	} {
		x, code := New([]byte(c.text), c.most)
		if code != c.code || (x != nil) != (code == api.OK) {
			t.Errorf("New(%q, %d): %v, %d, want %d", c.text, c.most, x, code, c.code)
		}
	}
	if x, c := New(nil, 0); x == nil || c != api.OK {
		t.Error("New(nil, 0)", c)
	}
	long := make([]byte, most+1)
	for m, want := range map[int]api.Code{-1: api.ErrRange, most + 1: api.ErrRange, 0: api.ErrLimit, most: api.ErrLimit} {
		if x, c := New(long, m); x != nil || c != want {
			t.Errorf("New(MaxText + 1 bytes, %d): %v, %d", m, x, c)
		}
	}
}

// P12.1: Insert's codes; a place that is none comes ahead of a text that is too long; what errs leaves the text as it was.
func TestInsertCodes(t *testing.T) {
	for _, c := range []struct {
		text string
		most int
		at   int
		in   string
		code api.Code
	}{
		{"a\nb", 5, 3, "de", api.OK}, {"a\nb", 5, 0, "\n\n", api.OK}, {"a\nb", 5, 1, "def", api.ErrLimit}, {"a\nb", 3, 1, "", api.OK}, {"a\nb", 3, 1, "\n", api.ErrLimit}, {"a\nb", 3, 3, "x", api.ErrLimit},
		{"", 0, 0, "", api.OK}, {"", 0, 0, "x", api.ErrLimit}, {"", 1, 0, "\n", api.OK}, {"", 1, 0, "\n\n", api.ErrLimit},
		{"a\nb", 5, 4, "", api.ErrRange}, {"a\nb", 5, -1, "", api.ErrRange}, {"a\nb", 5, 4, "\n", api.ErrRange}, {"a\nb", 5, -1, "\n", api.ErrRange},
		{"a\nb", 3, 4, "x", api.ErrRange}, {"a\nb", 3, -1, "x", api.ErrRange}, {"", 0, 1, "", api.ErrRange}, {"", 0, 1, "x", api.ErrRange}, {"", 0, -1, "x", api.ErrRange},
	} {
		x := made(t, c.text, c.most)
		if code := x.Insert(c.at, []byte(c.in)); code != c.code {
			t.Errorf("%q of %d: Insert(%d, %q): %d, want %d", c.text, c.most, c.at, c.in, code, c.code)
		}
		if c.code == api.OK {
			holds(t, x, inserted(c.text, c.at, c.in))
		} else {
			holds(t, x, c.text)
		}
	}
	x := made(t, "a\n\xc3\xa9", 4)
	for _, at := range far {
		for _, in := range []string{"", "x", "xyz\n"} {
			if c := x.Insert(at, []byte(in)); c != api.ErrRange {
				t.Errorf("Insert(%d, %q): %d", at, in, c)
			}
		}
	}
	if c := x.Insert(0, make([]byte, most)); c != api.ErrLimit {
		t.Error("Insert of far too much", c)
	}
	holds(t, x, "a\n\xc3\xa9")
}

// P12.1: a Delete that goes beyond an end takes nothing, and leaves the text as it was.
func TestDeleteCodes(t *testing.T) {
	for _, b := range []string{"", "\n", "ab\n\n\xc3\xa9"} {
		x := made(t, b, len(b))
		for _, at := range around(len(b)) {
			for _, n := range around(len(b)) {
				if at >= 0 && n >= 0 && at <= len(b) && n <= len(b)-at {
					continue
				}
				if gone, c := x.Delete(at, n); len(gone) > 0 || c != api.ErrRange {
					t.Fatalf("%q: Delete(%d, %d): %q, %d", b, at, n, gone, c)
				}
			}
		}
		for at := range len(b) + 1 {
			take(t, x, at, 0, "")
		}
		holds(t, x, b)
	}
}

// P12.1: how much may be is held against what there is just then.
func TestUpToMostAgain(t *testing.T) {
	x := made(t, "ab\n", 6)
	put(t, x, 3, "cde")
	for range 3 {
		if c := x.Insert(2, []byte("\n")); c != api.ErrLimit {
			t.Error(c)
		}
		take(t, x, 1, 2, "b\n")
		if c := x.Insert(1, []byte("\n\n\n")); c != api.ErrLimit {
			t.Error(c)
		}
		holds(t, x, "acde")
		put(t, x, 1, "b\n")
		holds(t, x, "ab\ncde")
	}
}

// pieced is a text that has been put together of its bytes one by one, those at odd places last, and then some.
func pieced(t *testing.T, b string) *Text {
	t.Helper()
	x := made(t, "", most)
	at := 0
	for i := 0; i < len(b); i += 2 {
		put(t, x, at, b[i:i+1])
		at++
	}
	for i := 1; i < len(b); i += 2 {
		put(t, x, i, b[i:i+1])
	}
	return x
}

// P12.1 to P12.4: a text is the same, however its bytes came together.
func TestPiecedTexts(t *testing.T) {
	for _, b := range texts {
		holds(t, pieced(t, b), b)
	}
}

// P12.1 to P12.4: each part of a text goes, and comes back: lines become one and two again, runes are cut and whole again.
func TestEachPartGoesAndComesBack(t *testing.T) {
	for _, b := range texts {
		x := made(t, b, most)
		for at := range len(b) + 1 {
			for n := range len(b) - at + 1 {
				take(t, x, at, n, b[at:at+n])
				quick(t, x, deleted(b, at, n))
				put(t, x, at, b[at:at+n])
				quick(t, x, b)
			}
		}
		holds(t, x, b)
	}
}

// P12.1 to P12.4: something comes at each place, and goes again.
func TestSomethingComesAndGoesAgain(t *testing.T) {
	for _, b := range texts {
		x := made(t, b, most)
		for at := range len(b) + 1 {
			for _, in := range []string{"", "\n", "\n\n", "x", "x\ny", "\x82", "\xc3", "\xf0\x9f", "\xe2\x82\xac", "\xa9\n\xc3"} {
				put(t, x, at, in)
				quick(t, x, inserted(b, at, in))
				take(t, x, at, len(in), in)
			}
			quick(t, x, b)
		}
		holds(t, x, b)
	}
}

// P12.1 to P12.3: a rune is cut in two by what comes, by what goes, and by a line feed, and is whole again.
func TestRunesCutByHand(t *testing.T) {
	x := made(t, "a\xf0\x9f\x98\x80b", most)
	if x.Snap(4) != 1 || x.Next(1) != 5 || x.Prev(5) != 1 {
		t.Error("whole", x.Snap(4), x.Next(1), x.Prev(5))
	}
	put(t, x, 3, "\n")
	if x.Snap(5) != 5 || x.Next(1) != 2 || x.Prev(6) != 5 || x.Lines() != 2 || string(x.Line(0)) != "a\xf0\x9f" || string(x.Line(1)) != "\x98\x80b" {
		t.Error("cut by a line feed", x.Snap(5), x.Next(1), x.Prev(6), x.Lines())
	}
	if k, col, ok := x.Place(5); k != 1 || col != 1 || !ok {
		t.Error("places are bytes, not runes", k, col, ok)
	}
	take(t, x, 3, 1, "\n")
	if x.Snap(4) != 1 || x.Next(1) != 5 || x.Prev(5) != 1 || x.Lines() != 1 {
		t.Error("whole again", x.Snap(4), x.Next(1), x.Prev(5))
	}
	take(t, x, 2, 1, "\x9f")
	if x.Snap(3) != 3 || x.Next(1) != 2 || x.Prev(4) != 3 {
		t.Error("a byte is gone", x.Snap(3), x.Next(1), x.Prev(4))
	}
	put(t, x, 2, "\x9f")
	holds(t, x, "a\xf0\x9f\x98\x80b")
	y := made(t, "\xc3\n\xa9", most)
	if y.Lines() != 2 || y.Next(0) != 1 || y.Snap(2) != 2 {
		t.Error("not together yet", y.Lines(), y.Next(0), y.Snap(2))
	}
	take(t, y, 1, 1, "\n")
	if y.Lines() != 1 || y.Next(0) != 2 || y.Snap(1) != 0 {
		t.Error("together", y.Lines(), y.Next(0), y.Snap(1))
	}
	holds(t, y, "\xc3\xa9")
}

// P12.1 to P12.4: a long way of inserts and deletes at any places.
func TestLongWay(t *testing.T) {
	parts := []string{"a", "bc", "\n", "\n\n", "d\ne", "\xc3\xa9", "\xe2\x82\xac", "\xf0\x9f\x98\x80", "\x82", "\xc3", "\xf0\x9f", ""}
	for seed := range 6 {
		c := chance(seed)
		x, b := made(t, "", 120), ""
		for range 1500 {
			at := c.below(len(b) + 1)
			if c.below(5) < 3 {
				in := parts[c.below(len(parts))] + parts[c.below(len(parts))]
				want := api.OK
				if len(in) > 120-len(b) {
					want = api.ErrLimit
				} else {
					b = inserted(b, at, in)
				}
				if code := x.Insert(at, []byte(in)); code != want {
					t.Fatalf("Insert(%d, %q): %d, want %d", at, in, code, want)
				}
			} else {
				n := min(c.below(10), len(b)-at)
				take(t, x, at, n, b[at:at+n])
				b = deleted(b, at, n)
			}
			quick(t, x, b)
		}
		holds(t, x, b)
	}
}

// P12.1 to P12.4: a text as long as one may be: of line feeds alone, and of runes of four bytes.
func TestTheLongestText(t *testing.T) {
	x := made(t, strings.Repeat("\n", most), most)
	if x.Len() != most || x.Lines() != most+1 {
		t.Error(x.Len(), x.Lines())
	}
	for _, k := range []int{0, 1, most / 2, most - 1, most} {
		start, ok := x.Start(k)
		end, too := x.End(k)
		line, col, had := x.Place(k)
		at, has := x.Offset(k, 0)
		if start != k || end != k || line != k || col != 0 || at != k || !ok || !too || !had || !has || len(x.Line(k)) != 0 {
			t.Error(k, start, end, line, col, at)
		}
	}
	if _, ok := x.Start(most + 1); ok {
		t.Error("a line too many")
	}
	if c := x.Insert(0, []byte("x")); c != api.ErrLimit {
		t.Error("one byte more than MaxText", c)
	}
	x = made(t, strings.Repeat("\xf0\x9f\x98\x80", most/4), most)
	for _, at := range []int{0, 1, 2, 3, 4, most/2 - 1, most / 2, most - 5, most - 4, most - 1} {
		if s, n, p := x.Snap(at), x.Next(at), x.Prev(at); s != at/4*4 || n != at/4*4+4 || p != max(at-1, 0)/4*4 {
			t.Error(at, s, n, p)
		}
	}
	if s, n, p := x.Snap(most), x.Next(most), x.Prev(most); s != most || n != most || p != most-4 {
		t.Error("the end", s, n, p)
	}
	// So many steps are quick just if none of them goes through all of the text.
	at := most
	for range 20000 {
		at = x.Prev(at)
	}
	if at != most-80000 || x.Next(at) != at+4 {
		t.Error("many steps back from the end", at)
	}
	take(t, x, 0, 1, "\xf0")
	put(t, x, most-1, "\n")
	if x.Lines() != 2 || x.Next(0) != 1 || x.Snap(most-2) != most-5 || !bytes.Equal(x.Line(0), x.All()[:most-1]) {
		t.Error("moved by a byte", x.Lines(), x.Next(0), x.Snap(most-2))
	}
}

// Each method of a nil text tells noughts, none, false, ErrRange.
func TestNilText(t *testing.T) {
	var x *Text
	if x.Lines() != 0 || x.Len() != 0 || len(x.All()) != 0 {
		t.Error("a nil text has something")
	}
	for _, at := range around(1) {
		if n, ok := x.Start(at); n != 0 || ok {
			t.Errorf("Start(%d): %d, %v", at, n, ok)
		}
		if n, ok := x.End(at); n != 0 || ok {
			t.Errorf("End(%d): %d, %v", at, n, ok)
		}
		if b := x.Line(at); len(b) > 0 {
			t.Errorf("Line(%d): %q", at, b)
		}
		if k, col, ok := x.Place(at); k != 0 || col != 0 || ok {
			t.Errorf("Place(%d): %d, %d, %v", at, k, col, ok)
		}
		if x.Snap(at) != 0 || x.Next(at) != 0 || x.Prev(at) != 0 {
			t.Errorf("at %d: %d, %d, %d", at, x.Snap(at), x.Next(at), x.Prev(at))
		}
		for _, n := range around(1) {
			if place, ok := x.Offset(at, n); place != 0 || ok {
				t.Errorf("Offset(%d, %d): %d, %v", at, n, place, ok)
			}
			if b, c := x.Delete(at, n); len(b) > 0 || c != api.ErrRange {
				t.Errorf("Delete(%d, %d): %q, %d", at, n, b, c)
			}
		}
		for _, in := range []string{"", "x"} {
			if c := x.Insert(at, []byte(in)); c != api.ErrRange {
				t.Errorf("Insert(%d, %q): %d", at, in, c)
			}
		}
	}
}

// Each method of a text that no call made ends.
func TestTextOfNoCall(t *testing.T) {
	x := new(Text)
	for _, at := range around(1) {
		x.Start(at)
		x.End(at)
		x.Line(at)
		x.Place(at)
		x.Offset(at, at)
		x.Snap(at)
		x.Next(at)
		x.Prev(at)
		x.Insert(at, []byte("x\n"))
		x.Delete(at, 1)
	}
	x.Lines()
	x.Len()
	x.All()
}

// scratch writes over all of a list, its spare room included.
func scratch(b []byte) {
	b = b[:cap(b)]
	for i := range b {
		b[i] = '#'
	}
}

// What came in is neither changed nor kept: neither the text nor those bytes see what is done to the others.
func TestMemoryOfWhatComesIn(t *testing.T) {
	room := []byte("a\nb--------")
	kept := slices.Clone(room)
	x, _ := New(room[:3], most)
	holds(t, x, "a\nb")
	x.Insert(1, []byte("!\n"))
	more := []byte("xy\nz........")
	x.Insert(2, more[:4])
	x.Insert(9, []byte("end"))
	x.Delete(1, 3)
	if !slices.Equal(room, kept) || string(more) != "xy\nz........" {
		t.Fatalf("%q, %q", room, more)
	}
	holds(t, x, "a\nz\n\nbend")
	scratch(room)
	scratch(more)
	holds(t, x, "a\nz\n\nbend")
}

// What is handed out is new: neither the text nor another answer sees what is done to it.
func TestMemoryOfWhatGoesOut(t *testing.T) {
	b := "ab\ncdef\n\xc3\xa9h"
	for _, x := range []*Text{made(t, b, most), pieced(t, b)} {
		one, other := x.All(), x.All()
		scratch(one)
		if string(other) != b {
			t.Fatalf("two answers share memory: %q", other)
		}
		for k, want := range strings.Split(b, "\n") {
			one, other := x.Line(k), x.Line(k)
			scratch(one)
			if string(other) != want {
				t.Fatalf("two answers share memory: %q", other)
			}
		}
		holds(t, x, b)
		for from := range len(b) - 2 {
			gone, _ := x.Delete(from, 3)
			scratch(gone)
			quick(t, x, deleted(b, from, 3))
			put(t, x, from, b[from:from+3])
			quick(t, x, b)
		}
	}
}

// What was handed out stays as it was, whatever is done to the text.
func TestAnswersStay(t *testing.T) {
	x := made(t, "abc\ndef", most)
	all, line := x.All(), x.Line(1)
	gone, _ := x.Delete(2, 3)
	put(t, x, 2, "xyz")
	put(t, x, 5, "\n")
	take(t, x, 0, 4, "abxy")
	if string(all) != "abc\ndef" || string(line) != "def" || string(gone) != "c\nd" {
		t.Errorf("%q, %q, %q", all, line, gone)
	}
	holds(t, x, "z\nef")
}

// Two texts know nothing of one another, though they were made of the same bytes.
func TestTwoTexts(t *testing.T) {
	b := []byte("one\ntwo")
	x, _ := New(b, most)
	y, _ := New(b, most)
	put(t, x, 3, "!\n")
	take(t, y, 0, 4, "one\n")
	put(t, y, 3, "?")
	holds(t, x, "one!\n\ntwo")
	holds(t, y, "two?")
	if string(b) != "one\ntwo" {
		t.Errorf("%q", b)
	}
}
