package rope

import (
	"bytes"
	"math"
	"slices"
	"strings"
	"testing"

	"scrivener/api"
)

const most = 1 << 24

// far are numbers far below and far above all places, so that sums of them wrap round.
var far = []int{
	math.MinInt, math.MinInt + 1, math.MinInt + 5, math.MinInt / 2, -1 << 32, 1 - 1<<32, -1 << 31, -most,
	most, 1 << 31, 1 << 32, 1<<32 + 1, math.MaxInt / 2, math.MaxInt/2 + 1, math.MaxInt - 5, math.MaxInt - 1, math.MaxInt,
}

// around are the numbers from -2 to n + 2, and those far off.
func around(n int) []int {
	l := slices.Clone(far)
	for i := -2; i <= n+2; i++ {
		l = append(l, i)
	}
	return l
}

// made is a rope of b that may have most bytes.
func made(t *testing.T, b string, most int) *Rope {
	t.Helper()
	r, c := New([]byte(b), most)
	if r == nil || c != api.OK {
		t.Fatalf("New(%.20q, %d): %v, %d", b, most, r, c)
	}
	return r
}

// put inserts, and tells if that is refused, or if too many pieces come of it.
func put(t *testing.T, r *Rope, at int, b string) {
	t.Helper()
	n := r.Pieces()
	if c := r.Insert(at, []byte(b)); c != api.OK {
		t.Fatalf("Insert(%d, %.20q): %d", at, b, c)
	}
	if k := r.Pieces(); k > n+2 {
		t.Fatalf("Insert(%d, %.20q): %d pieces of %d", at, b, k, n)
	}
}

// take deletes, and tells if that is refused, or if too many pieces come of it.
func take(t *testing.T, r *Rope, at, n int) string {
	t.Helper()
	k := r.Pieces()
	b, c := r.Delete(at, n)
	if c != api.OK || len(b) != n {
		t.Fatalf("Delete(%d, %d): %.20q, %d", at, n, b, c)
	}
	if more := r.Pieces(); more > k+1 {
		t.Fatalf("Delete(%d, %d): %d pieces of %d", at, n, more, k)
	}
	return string(b)
}

// tree walks through a part of the tree, and tells how many pieces and levels it has: false, if a part is too deep beside another one.
func tree(n *node) (pieces, levels int, even bool) {
	if n == nil {
		return 0, 0, true
	}
	lp, ll, le := tree(n.left)
	rp, rl, re := tree(n.right)
	return lp + 1 + rp, 1 + max(ll, rl), le && re && ll-rl <= 2 && rl-ll <= 2
}

// is holds what a rope notes of itself, and its bytes as a whole, against a text.
func is(t *testing.T, r *Rope, b string) {
	t.Helper()
	if n := r.Len(); n != len(b) {
		t.Fatalf("%.40q: Len %d, want %d", b, n, len(b))
	}
	if n := r.Breaks(); n != strings.Count(b, "\n") {
		t.Fatalf("%.40q: Breaks %d", b, n)
	}
	if p := string(r.Part(0, len(b))); p != b {
		t.Fatalf("the text is %.40q, want %.40q", p, b)
	}
	if !r.Check() {
		t.Fatalf("%.40q: Check", b)
	}
	pieces, _, even := tree(r.root)
	if n := r.Pieces(); n != pieces || (n > 0) != (len(b) > 0) {
		t.Fatalf("%.40q: %d pieces, told as %d", b, pieces, n)
	}
	if !even {
		t.Fatalf("%.40q: the tree is not even", b)
	}
}

// holds holds all that a rope tells of its text against that: each byte, each line feed, each part.
func holds(t *testing.T, r *Rope, b string) {
	t.Helper()
	is(t, r, b)
	for _, at := range around(len(b)) {
		var c byte
		has := at >= 0 && at < len(b)
		if has {
			c = b[at]
		}
		if x, ok := r.Byte(at); x != c || ok != has {
			t.Fatalf("%q: Byte(%d) is %x, %v", b, at, x, ok)
		}
		if n, want := r.Ahead(at), strings.Count(b[:min(max(at, 0), len(b))], "\n"); n != want {
			t.Fatalf("%q: Ahead(%d) is %d, want %d", b, at, n, want)
		}
		for _, to := range around(len(b)) {
			want := ""
			if i, j := min(max(at, 0), len(b)), min(max(to, 0), len(b)); i < j {
				want = b[i:j]
			}
			if p := string(r.Part(at, to)); p != want {
				t.Fatalf("%q: Part(%d, %d) is %q, want %q", b, at, to, p, want)
			}
		}
	}
	breaks(t, r, b)
}

// breaks holds each Break against a text, and those that there are none of.
func breaks(t *testing.T, r *Rope, b string) {
	t.Helper()
	var l []int
	for at := range len(b) {
		if b[at] == '\n' {
			l = append(l, at)
		}
	}
	for _, k := range around(len(l)) {
		want := 0
		has := k >= 0 && k < len(l)
		if has {
			want = l[k]
		}
		if at, ok := r.Break(k); at != want || ok != has {
			t.Fatalf("%.40q: Break(%d) is %d, %v, want %d", b, k, at, ok, want)
		}
	}
}

// inserted and deleted are what P11.2 says of a text.
func inserted(b string, at int, in string) string { return b[:at] + in + b[at:] }
func deleted(b string, at, n int) string          { return b[:at] + b[at+n:] }

// chance tells numbers that are the same each time.
type chance uint64

func (c *chance) below(n int) int {
	*c = *c*6364136223846793005 + 1442695040888963407
	return int(uint64(*c) >> 33 % uint64(n))
}

// P11.1, P11.2: what the limits are, upon which the edges below stand.
func TestLimits(t *testing.T) {
	if api.MaxText != most || api.OK != 0 || api.ErrRange != 1 || api.ErrLimit != 2 {
		t.Error("limits")
	}
}

// P11.1: New, as it stands.
func TestNew(t *testing.T) {
	for _, b := range []string{"", "a", "\n", "abc", "a\nb", "\na", "a\n", "\n\n\n", "\r\n\x00\xff\n\n\x0b", "ab\ncd\n\nef"} {
		for _, m := range []int{len(b), len(b) + 1, most - 1, most} {
			holds(t, made(t, b, m), b)
		}
		for _, m := range []int{len(b) - 1, len(b) - 2, 0} {
			if m < 0 || m >= len(b) {
				continue
			}
			if r, c := New([]byte(b), m); r != nil || c != api.ErrLimit {
				t.Errorf("New(%q, %d): %v, %d", b, m, r, c)
			}
		}
	}
	holds(t, made(t, "", 0), "")
	if r, c := New(nil, 0); r == nil || c != api.OK {
		t.Error("New(nil, 0)", c)
	}
	if r, c := New([]byte{'\n'}, 0); r != nil || c != api.ErrLimit {
		t.Error("New of one byte where none may be", c)
	}
}

// P11.1: a most that is none comes ahead of a text that is too long.
func TestNewOutOfRange(t *testing.T) {
	for _, m := range append(slices.Clone(far), -2, -1, most+1, most+2) {
		if m == most {
			continue
		}
		for _, b := range []string{"", "a", "a\nb"} {
			if r, c := New([]byte(b), m); r != nil || c != api.ErrRange {
				t.Errorf("New(%q, %d): %v, %d", b, m, r, c)
			}
		}
	}
	long := make([]byte, most+1)
	for m, want := range map[int]api.Code{-1: api.ErrRange, most + 1: api.ErrRange, 0: api.ErrLimit, most: api.ErrLimit} {
		if r, c := New(long, m); r != nil || c != want {
			t.Errorf("New(MaxText + 1 bytes, %d): %v, %d", m, r, c)
		}
	}
}

// P11.1 to P11.3: a text as long as one may be, of line feeds alone and of some.
func TestTheLongestText(t *testing.T) {
	for _, step := range []int{1, 1000} {
		b := bytes.Repeat([]byte{'x'}, most)
		for i := step - 1; i < most; i += step {
			b[i] = '\n'
		}
		text := string(b)
		r := made(t, text, most)
		if c := r.Insert(5, []byte("y")); c != api.ErrLimit {
			t.Error("one byte more than MaxText", c)
		}
		is(t, r, text)
		n := r.Breaks()
		for _, k := range []int{0, 1, n / 2, n - 2, n - 1} {
			if at, ok := r.Break(k); at != k*step+step-1 || !ok || r.Ahead(at) != k || r.Ahead(at+1) != k+1 {
				t.Error(step, k, at, ok)
			}
		}
		if at, ok := r.Break(n); at != 0 || ok {
			t.Error("Break behind the last one", at)
		}
		if x, ok := r.Byte(most - 1); x != b[most-1] || !ok {
			t.Error("the last byte", x)
		}
		if x, ok := r.Byte(most); x != 0 || ok {
			t.Error("the byte behind the last one", x)
		}
		if gone := take(t, r, most/2, 7); gone != text[most/2:most/2+7] {
			t.Errorf("%q", gone)
		}
		put(t, r, 3, "\nabcdef")
		is(t, r, inserted(deleted(text, most/2, 7), 3, "\nabcdef"))
		if c := r.Insert(0, []byte("y")); c != api.ErrLimit {
			t.Error("one byte more than MaxText", c)
		}
		if gone := take(t, r, 0, most); len(gone) != most || r.Len() != 0 {
			t.Error("all of it")
		}
		is(t, r, "")
	}
}

// P11.2: Insert, at the edges that there are.
func TestInsertByHand(t *testing.T) {
	r := made(t, "abc", most)
	put(t, r, 1, "x")
	holds(t, r, "axbc")
	put(t, r, 0, "\n")
	holds(t, r, "\naxbc")
	put(t, r, 5, "yz\n")
	holds(t, r, "\naxbcyz\n")
	put(t, r, 2, "1\n2")
	holds(t, r, "\na1\n2xbcyz\n")
	put(t, r, 3, "--")
	holds(t, r, "\na1--\n2xbcyz\n")
	for at := range r.Len() + 1 {
		put(t, r, at, "")
		holds(t, r, "\na1--\n2xbcyz\n")
	}
	e := made(t, "", 4)
	put(t, e, 0, "")
	holds(t, e, "")
	put(t, e, 0, "\nab")
	holds(t, e, "\nab")
}

// P11.2: up to just as many bytes as there may be; where both codes apply, ErrRange comes first.
func TestInsertCodes(t *testing.T) {
	for _, c := range []struct {
		text string
		most int
		at   int
		in   string
		code api.Code
	}{
		{"abc", 5, 3, "de", api.OK}, {"abc", 5, 0, "de", api.OK}, {"abc", 5, 1, "def", api.ErrLimit}, {"abc", 5, 3, "defghi", api.ErrLimit}, {"abc", 3, 1, "", api.OK}, {"abc", 3, 1, "x", api.ErrLimit}, {"abc", 3, 3, "\n", api.ErrLimit},
		{"abc", 4, 1, "x", api.OK}, {"abc", 4, 1, "xy", api.ErrLimit}, {"", 0, 0, "", api.OK}, {"", 0, 0, "x", api.ErrLimit}, {"", 1, 0, "x", api.OK}, {"", 1, 0, "xy", api.ErrLimit},
		{"abc", 5, 4, "", api.ErrRange}, {"abc", 5, -1, "", api.ErrRange}, {"abc", 5, 4, "x", api.ErrRange}, {"abc", 5, -1, "x", api.ErrRange}, {"", 0, 1, "", api.ErrRange}, {"", 0, -1, "", api.ErrRange},
		{"abc", 3, 4, "x", api.ErrRange}, {"abc", 3, -1, "x", api.ErrRange}, {"abc", 5, 4, "xyz", api.ErrRange}, {"", 0, 1, "x", api.ErrRange}, {"", 0, -1, "x", api.ErrRange},
	} {
		r := made(t, c.text, c.most)
		if code := r.Insert(c.at, []byte(c.in)); code != c.code {
			t.Errorf("%q of %d: Insert(%d, %q): %d, want %d", c.text, c.most, c.at, c.in, code, c.code)
		}
		if c.code == api.OK {
			holds(t, r, inserted(c.text, c.at, c.in))
		} else {
			holds(t, r, c.text)
		}
	}
	r := made(t, "a\nb", 3)
	for _, at := range far {
		for _, in := range []string{"", "x", "xyz\n"} {
			if c := r.Insert(at, []byte(in)); c != api.ErrRange {
				t.Errorf("Insert(%d, %q): %d", at, in, c)
			}
		}
	}
	holds(t, r, "a\nb")
	long := make([]byte, most)
	if c := r.Insert(0, long); c != api.ErrLimit {
		t.Error("Insert of far too much", c)
	}
	holds(t, r, "a\nb")
}

// P11.2: how much may be is held against what there is just then, not against what there was.
func TestInsertUpToMostAgain(t *testing.T) {
	r := made(t, "ab\n", 6)
	put(t, r, 3, "cde")
	for range 3 {
		if c := r.Insert(2, []byte("x")); c != api.ErrLimit {
			t.Error(c)
		}
		if gone := take(t, r, 1, 2); gone != "b\n" {
			t.Errorf("%q", gone)
		}
		if c := r.Insert(1, []byte("xyz")); c != api.ErrLimit {
			t.Error(c)
		}
		put(t, r, 1, "b\n")
		holds(t, r, "ab\ncde")
	}
}

// pieced is a rope of the text "ab\ncdef\ngh", in as many pieces as it has been put together of.
func pieced(t *testing.T) (*Rope, string) {
	t.Helper()
	r := made(t, "abgh", most)
	put(t, r, 2, "\n\n")
	put(t, r, 3, "cf")
	put(t, r, 4, "de")
	b := "ab\ncdef\ngh"
	holds(t, r, b)
	return r, b
}

// P11.2: Delete, from each place as many bytes as there are; the text goes on as one without them.
func TestDeleteOfAnyPart(t *testing.T) {
	_, b := pieced(t)
	for at := range len(b) + 1 {
		for n := range len(b) - at + 1 {
			r, _ := pieced(t)
			if gone := take(t, r, at, n); gone != b[at:at+n] {
				t.Fatalf("Delete(%d, %d) is %q", at, n, gone)
			}
			holds(t, r, deleted(b, at, n))
			put(t, r, at, "1\n2")
			holds(t, r, inserted(deleted(b, at, n), at, "1\n2"))
		}
	}
}

// P11.2: a Delete that goes beyond an end takes nothing.
func TestDeleteCodes(t *testing.T) {
	r, b := pieced(t)
	for _, at := range around(len(b)) {
		for _, n := range around(len(b)) {
			if at >= 0 && n >= 0 && at <= len(b) && n <= len(b)-at {
				continue
			}
			if gone, c := r.Delete(at, n); len(gone) > 0 || c != api.ErrRange {
				t.Fatalf("Delete(%d, %d): %q, %d", at, n, gone, c)
			}
		}
	}
	holds(t, r, b)
	e := made(t, "", 0)
	for _, x := range [][2]int{{0, 1}, {1, 0}, {-1, 0}, {0, -1}, {-1, 1}, {1, -1}} {
		if gone, c := e.Delete(x[0], x[1]); len(gone) > 0 || c != api.ErrRange {
			t.Errorf("Delete(%d, %d) of no text: %q, %d", x[0], x[1], gone, c)
		}
	}
	if gone := take(t, e, 0, 0); gone != "" {
		t.Errorf("%q", gone)
	}
	holds(t, e, "")
}

// P11.2: what was inserted goes again, in part and as a whole, with what stands beside it.
func TestDeleteOfWhatCame(t *testing.T) {
	b := "ab\nc\n"
	in := "x\nyz"
	for at := range len(b) + 1 {
		whole := inserted(b, at, in)
		for from := range len(whole) + 1 {
			for n := range len(whole) - from + 1 {
				r := made(t, b, len(whole))
				put(t, r, at, in)
				if gone := take(t, r, from, n); gone != whole[from:from+n] {
					t.Fatalf("%q: Delete(%d, %d) is %q", whole, from, n, gone)
				}
				is(t, r, deleted(whole, from, n))
				breaks(t, r, deleted(whole, from, n))
			}
		}
	}
}

// P11.2, P11.3: all that three calls make of a small text.
func TestAllShortWays(t *testing.T) {
	var walk func(r *Rope, b string, steps int)
	walk = func(r *Rope, b string, steps int) {
		is(t, r, b)
		if steps == 0 {
			holds(t, r, b)
			return
		}
		for at := range len(b) + 1 {
			for _, in := range []string{"x", "\n"} {
				next := *r
				put(t, &next, at, in)
				walk(&next, inserted(b, at, in), steps-1)
			}
			for n := 1; n <= len(b)-at; n++ {
				next := *r
				if gone := take(t, &next, at, n); gone != b[at:at+n] {
					t.Fatalf("%q: Delete(%d, %d) is %q", b, at, n, gone)
				}
				walk(&next, deleted(b, at, n), steps-1)
			}
		}
		is(t, r, b)
	}
	walk(made(t, "a\nb", 9), "a\nb", 3)
}

// P11.5: what is inserted and deleted again, and the other way round, at each place.
func TestBack(t *testing.T) {
	r, b := pieced(t)
	for at := range len(b) + 1 {
		for _, in := range []string{"", "x", "\n", "xy\nz\n"} {
			put(t, r, at, in)
			is(t, r, inserted(b, at, in))
			if gone := take(t, r, at, len(in)); gone != in {
				t.Fatalf("%q came at %d, %q went", in, at, gone)
			}
			is(t, r, b)
		}
	}
	holds(t, r, b)
	for at := range len(b) + 1 {
		for n := range len(b) - at + 1 {
			gone := take(t, r, at, n)
			is(t, r, deleted(b, at, n))
			put(t, r, at, gone)
			is(t, r, b)
		}
	}
	holds(t, r, b)
}

// P11.2 to P11.4: many inserts at one place of a text, and as many deletes there.
func TestManyAtOnePlace(t *testing.T) {
	const times = 400
	for name, where := range map[string]func(n int) int{
		"at the beginning": func(int) int { return 0 },
		"at the end":       func(n int) int { return n },
		"in the middle":    func(n int) int { return n / 2 },
		"near the end":     func(n int) int { return n * 9 / 10 },
		"here and there":   func(n int) int { return n * 7919 % (n + 1) },
	} {
		r, b := made(t, "0\n1", most), "0\n1"
		for i := range times {
			in := string([]byte{byte('a' + i%26), '\n', byte('A' + i%26)})[:1+i%3]
			at := where(len(b))
			put(t, r, at, in)
			b = inserted(b, at, in)
			is(t, r, b)
		}
		if r.Pieces() < times/2 {
			t.Errorf("%s: %d pieces are too few for what this test is to hold", name, r.Pieces())
		}
		breaks(t, r, b)
		for len(b) > 0 {
			n := min(2, len(b))
			at := min(where(len(b)), len(b)-n)
			if gone := take(t, r, at, n); gone != b[at:at+n] {
				t.Fatalf("%s: Delete(%d, %d) is %q, want %q", name, at, n, gone, b[at:at+n])
			}
			b = deleted(b, at, n)
			is(t, r, b)
		}
	}
}

// P11.2 to P11.4: a long way of inserts and deletes of all lengths, at any places.
func TestLongWay(t *testing.T) {
	for seed := range 4 {
		c := chance(seed)
		r, b := made(t, "", 3000), ""
		for range 4000 {
			at := c.below(len(b) + 1)
			switch c.below(5) {
			case 0, 1, 2:
				in := ""
				for range c.below(12) {
					in += string("ab\nc"[c.below(4)])
				}
				if len(in) > 3000-len(b) {
					if code := r.Insert(at, []byte(in)); code != api.ErrLimit {
						t.Fatal(code)
					}
				} else {
					put(t, r, at, in)
					b = inserted(b, at, in)
				}
			default:
				n := min(c.below(30), len(b)-at)
				if gone := take(t, r, at, n); gone != b[at:at+n] {
					t.Fatalf("Delete(%d, %d) is %q, want %q", at, n, gone, b[at:at+n])
				}
				b = deleted(b, at, n)
			}
			is(t, r, b)
			look(t, r, b, &c)
		}
		breaks(t, r, b)
	}
}

// look asks a rope for some part, byte and line feed.
func look(t *testing.T, r *Rope, b string, c *chance) {
	t.Helper()
	from := c.below(len(b) + 1)
	to := from + c.below(len(b)-from+1)
	if p := string(r.Part(from, to)); p != b[from:to] {
		t.Fatalf("Part(%d, %d) is %q, want %q", from, to, p, b[from:to])
	}
	if n := r.Ahead(from); n != strings.Count(b[:from], "\n") {
		t.Fatalf("Ahead(%d) is %d", from, n)
	}
	if from == len(b) {
		return
	}
	if x, ok := r.Byte(from); x != b[from] || !ok {
		t.Fatalf("Byte(%d) is %x, %v", from, x, ok)
	}
	if next := strings.IndexByte(b[from:], '\n'); next >= 0 {
		if at, ok := r.Break(r.Ahead(from)); at != from+next || !ok {
			t.Fatalf("the line feed behind %d is at %d, %v, want %d", from, at, ok, from+next)
		}
	}
}

// P11.2 to P11.4: wide deletes out of many pieces: two parts of the tree, however deep each, stand side by side again.
func TestWideDeletes(t *testing.T) {
	c := chance(7)
	for range 60 {
		r, b := made(t, "", most), ""
		for i := range 150 {
			at := c.below(len(b) + 1)
			in := "\nqrs"[i%4:]
			put(t, r, at, in)
			b = inserted(b, at, in)
		}
		for len(b) > 0 {
			at := c.below(len(b))
			n := 1 + c.below(len(b)-at)
			if gone := take(t, r, at, n); gone != b[at:at+n] {
				t.Fatalf("Delete(%d, %d) is %q", at, n, gone)
			}
			b = deleted(b, at, n)
			is(t, r, b)
		}
	}
}

// P11.2: beside an error nothing is told and nothing is changed, also in a text of many pieces.
func TestErrorsChangeNothing(t *testing.T) {
	r, b := pieced(t)
	r.most = len(b) + 2
	for _, at := range around(len(b)) {
		if c := r.Insert(at, []byte("x\ny")); c == api.OK {
			t.Fatal("too much was inserted")
		}
		if gone, c := r.Delete(at, len(b)+1); len(gone) > 0 || c != api.ErrRange {
			t.Fatal(gone, c)
		}
		is(t, r, b)
	}
	n := r.Pieces()
	put(t, r, 4, "")
	take(t, r, 4, 0)
	if r.Pieces() > n {
		t.Error("pieces of no bytes")
	}
	holds(t, r, b)
	put(t, r, 4, "!!")
	holds(t, r, inserted(b, 4, "!!"))
}

// Each method of a nil rope, and of one that no call made, ends.
func TestNilRope(t *testing.T) {
	var r *Rope
	if r.Len() != 0 || r.Breaks() != 0 || r.Pieces() != 0 || r.Check() {
		t.Error("a nil rope has something")
	}
	for _, at := range around(1) {
		for _, n := range around(1) {
			if b, c := r.Delete(at, n); len(b) > 0 || c != api.ErrRange {
				t.Errorf("Delete(%d, %d): %q, %d", at, n, b, c)
			}
			if b := r.Part(at, n); len(b) > 0 {
				t.Errorf("Part(%d, %d): %q", at, n, b)
			}
		}
		for _, in := range []string{"", "x"} {
			if c := r.Insert(at, []byte(in)); c != api.ErrRange {
				t.Errorf("Insert(%d, %q): %d", at, in, c)
			}
		}
		if x, ok := r.Byte(at); x != 0 || ok {
			t.Errorf("Byte(%d): %x, %v", at, x, ok)
		}
		if x, ok := r.Break(at); x != 0 || ok {
			t.Errorf("Break(%d): %d, %v", at, x, ok)
		}
		if k := r.Ahead(at); k != 0 {
			t.Errorf("Ahead(%d): %d", at, k)
		}
	}
	z := new(Rope)
	z.Insert(0, nil)
	z.Insert(0, []byte("x"))
	z.Delete(0, 1)
	z.Part(0, 1)
	z.Byte(0)
	z.Break(0)
	z.Ahead(1)
	z.Check()
}

// scratch writes over all of a list, its spare room included.
func scratch(b []byte) {
	b = b[:cap(b)]
	for i := range b {
		b[i] = '#'
	}
}

// What came in is neither changed nor kept: neither the rope nor those bytes see what is done to the others.
func TestMemoryOfWhatComesIn(t *testing.T) {
	room := []byte("a\nb--------")
	kept := slices.Clone(room)
	r, _ := New(room[:3], most)
	holds(t, r, "a\nb")
	r.Insert(1, []byte("!\n"))
	more := []byte("xy\nz........")
	r.Insert(2, more[:4])
	r.Insert(9, []byte("end"))
	r.Delete(1, 3)
	if !slices.Equal(room, kept) || string(more) != "xy\nz........" {
		t.Fatalf("%q, %q", room, more)
	}
	holds(t, r, "a\nz\n\nbend")
	scratch(room)
	scratch(more)
	holds(t, r, "a\nz\n\nbend")
}

// What is handed out is new: neither the rope nor another answer sees what is done to it.
func TestMemoryOfWhatGoesOut(t *testing.T) {
	for _, pieces := range []int{1, 5} {
		r, b := made(t, "ab\ncdef\ngh", most), "ab\ncdef\ngh"
		if pieces > 1 {
			r, _ = pieced(t)
		}
		for from := range len(b) {
			for to := from + 1; to <= len(b); to++ {
				one, other := r.Part(from, to), r.Part(from, to)
				scratch(one)
				if string(other) != b[from:to] {
					t.Fatalf("two answers share memory: %q", other)
				}
			}
		}
		holds(t, r, b)
		for from := range len(b) - 2 {
			gone, _ := r.Delete(from, 3)
			scratch(gone)
			is(t, r, deleted(b, from, 3))
			put(t, r, from, b[from:from+3])
			is(t, r, b)
		}
	}
	r := made(t, "abc", most)
	gone, _ := r.Delete(0, 3)
	put(t, r, 0, "xyz")
	r.Insert(1, []byte("--"))
	if string(gone) != "abc" {
		t.Errorf("%q", gone)
	}
}

// Two ropes know nothing of one another, though they were made of the same bytes.
func TestTwoRopes(t *testing.T) {
	b := []byte("one\ntwo")
	x, _ := New(b, most)
	y, _ := New(b, most)
	put(t, x, 3, "!\n")
	take(t, y, 0, 4)
	put(t, y, 3, "?")
	holds(t, x, "one!\n\ntwo")
	holds(t, y, "two?")
}
