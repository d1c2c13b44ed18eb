package frame

import (
	"math"
	"slices"
	"testing"

	"scrivener/api"
)

// end is where a good rectangle ends, to either side.
const end = 1 << 30

// sides are how wide, or how high, the small frames of these tests are.
var sides = []int{0, 1, 2, 3, 5}

// outside are sides that no frame has.
var outside = []int{math.MinInt, math.MinInt + 1, -1 << 32, -api.MaxSide, -1, api.MaxSide + 1, 2 * api.MaxSide, 1 << 32, math.MaxInt - 1, math.MaxInt}

// picture is what a frame should be: its pixels, a list for each row, and how wide it is even without rows.
type picture struct {
	w    int
	rows [][]uint32
}

// blank is a picture of w times h pixels, all 0.
func blank(w, h int) picture {
	p := picture{w: w}
	for range h {
		p.rows = append(p.rows, make([]uint32, w))
	}
	return p
}

// numbered is a picture of w times h pixels, all other than 0, and each other than any other.
func numbered(w, h int) picture {
	p := blank(w, h)
	for y, row := range p.rows {
		for x := range row {
			row[x] = uint32(0xff000001 + y*w + x)
		}
	}
	return p
}

// copied is a picture of the same pixels.
func (p picture) copied() picture {
	c := picture{w: p.w}
	for _, row := range p.rows {
		c.rows = append(c.rows, slices.Clone(row))
	}
	return c
}

// has is what P2.1 says of a pixel in a rectangle; a side longer than all that is good goes first, so that no sum wraps round.
func has(r api.Rect, x, y int) bool {
	good := r.X >= -end && r.X <= end && r.Y >= -end && r.Y <= end && r.W >= 0 && r.H >= 0 &&
		r.W <= 2*end && r.H <= 2*end && r.X+r.W <= end && r.Y+r.H <= end
	return good && r.X <= x && x < r.X+r.W && r.Y <= y && y < r.Y+r.H
}

// fill is what P5.2 says of Fill, asked pixel by pixel.
func (p picture) fill(r api.Rect, c uint32) int {
	n := 0
	for y, row := range p.rows {
		for x := range row {
			if has(r, x, y) {
				row[x] = c
				n++
			}
		}
	}
	return n
}

// shifted is what P5.3 says of Shift, asked row by row.
func (p picture) shifted(by int) picture {
	s := p.copied()
	for y := range s.rows {
		// What is farther off than all rows comes from no row; asked first, so that no difference wraps round.
		if by > -len(p.rows) && by < len(p.rows) && y-by >= 0 && y-by < len(p.rows) {
			s.rows[y] = p.rows[y-by]
		}
	}
	return s.copied()
}

// made is a frame that New makes, all 0.
func made(t *testing.T, w, h int) *Frame {
	t.Helper()
	f, c := New(w, h)
	if f == nil || c != api.OK {
		t.Fatalf("New(%d, %d): %v, %d", w, h, f, c)
	}
	return f
}

// painted is a frame of the pixels of a picture, each written by a Fill of its own.
func painted(t *testing.T, p picture) *Frame {
	t.Helper()
	f := made(t, p.w, len(p.rows))
	for y, row := range p.rows {
		for x, c := range row {
			if n := f.Fill(api.Rect{X: x, Y: y, W: 1, H: 1}, c); n != 1 {
				t.Fatalf("Fill of %d, %d: %d", x, y, n)
			}
		}
	}
	return f
}

// shows holds a frame against a picture: its size, each pixel and those around the frame, each row and those beside.
func shows(t *testing.T, f *Frame, p picture, what string) {
	t.Helper()
	h := len(p.rows)
	if gw, gh := f.Size(); gw != p.w || gh != h {
		t.Fatalf("%s: %d wide, %d high, not %d and %d", what, gw, gh, p.w, h)
	}
	for y := -2; y < h+2; y++ {
		for x := -2; x < p.w+2; x++ {
			want := uint32(0)
			if y >= 0 && y < h && x >= 0 && x < p.w {
				want = p.rows[y][x]
			}
			if c := f.At(x, y); c != want {
				t.Fatalf("%s: %x at %d, %d, not %x", what, c, x, y, want)
			}
		}
		var want []uint32
		if y >= 0 && y < h {
			want = p.rows[y]
		}
		if l := f.Line(y); !slices.Equal(l, want) {
			t.Fatalf("%s: Line(%d): %x, not %x", what, y, l, want)
		}
	}
}

// eachSize calls do for all sizes of small frames.
func eachSize(do func(w, h int)) {
	for _, w := range sides {
		for _, h := range sides {
			do(w, h)
		}
	}
}

func TestNew(t *testing.T) {
	eachSize(func(w, h int) {
		f := made(t, w, h)
		shows(t, f, blank(w, h), "new")
		if n := f.Writes(); n != 0 {
			t.Errorf("New(%d, %d): %d writes", w, h, n)
		}
	})
}

func TestNewAtMost(t *testing.T) {
	for _, s := range [][2]int{{api.MaxSide, api.MaxSide}, {api.MaxSide, 1}, {1, api.MaxSide}, {api.MaxSide, 0}, {0, api.MaxSide}} {
		f := made(t, s[0], s[1])
		if w, h := f.Size(); w != s[0] || h != s[1] {
			t.Errorf("New(%d, %d): %d, %d", s[0], s[1], w, h)
		}
	}
}

func TestNewOfNoSize(t *testing.T) {
	for _, bad := range outside {
		for _, s := range [][2]int{{bad, 3}, {3, bad}, {bad, 0}, {0, bad}, {bad, bad}, {bad, api.MaxSide}, {api.MaxSide, bad}, {bad, -1}, {-1, bad}} {
			if f, c := New(s[0], s[1]); f != nil || c != api.ErrRange {
				t.Errorf("New(%d, %d): %v, %d", s[0], s[1], f, c)
			}
		}
	}
}

func TestTheGreatestFrame(t *testing.T) {
	const m = api.MaxSide
	f := made(t, m, m)
	if n := f.Fill(api.Rect{X: -end, Y: -end, W: 2 * end, H: 2 * end}, 5); n != m*m {
		t.Errorf("%d pixels", n)
	}
	if n := f.Fill(api.Rect{X: m - 1, Y: m - 1, W: 9, H: 9}, 6); n != 1 || f.At(m-1, m-1) != 6 || f.At(m-2, m-1) != 5 || f.At(m-1, m-2) != 5 || f.At(0, 0) != 5 {
		t.Errorf("%d pixels", n)
	}
	f.Shift(1 - m)
	if f.At(m-1, 0) != 6 || f.At(m-2, 0) != 5 || f.At(m-1, 1) != 5 || f.At(m-1, m-1) != 6 {
		t.Error("shift")
	}
	l := slices.Repeat([]uint32{7}, m)
	if !f.Lay(m-1, l) || !slices.Equal(f.Line(m-1), l) || f.Lay(m, l) || f.Line(m) != nil {
		t.Error("lay")
	}
	if n := f.Writes(); n != m*m+1+m {
		t.Errorf("%d writes", n)
	}
}

func TestAtFarOutside(t *testing.T) {
	f := painted(t, numbered(3, 2))
	// Among these are places that would come back into the frame, were they reckoned in its row ahead, or wrapped round.
	for _, at := range append(outside, -3, -2, 6, -end, end, math.MaxInt/3, math.MinInt/3) {
		for k := range 3 {
			if f.At(at, k) != 0 || f.At(k, at) != 0 || f.At(at, at) != 0 || f.At(at, k-1) != 0 {
				t.Errorf("a pixel at %d, with %d", at, k)
			}
		}
	}
	if f.At(3, 0) != 0 || f.At(-1, 1) != 0 || f.At(0, 2) != 0 || f.At(2, -1) != 0 {
		t.Error("a pixel beside the frame")
	}
}

// rects are rectangles about a frame of w times h: in it, out of it on any side, empty and not good ones.
func rects(w, h int) []api.Rect {
	var l []api.Rect
	for x := -2; x <= w+1; x++ {
		for y := -2; y <= h+1; y++ {
			for rw := -1; rw <= w+3; rw++ {
				for rh := -1; rh <= h+3; rh++ {
					l = append(l, api.Rect{X: x, Y: y, W: rw, H: rh})
				}
			}
		}
	}
	return append(l,
		api.Rect{X: -end, Y: -end, W: 2 * end, H: 2 * end}, api.Rect{X: 0, Y: 0, W: end, H: end}, api.Rect{X: 1, Y: 1, W: end - 1, H: end - 1},
		api.Rect{X: -end, Y: -end, W: end, H: end}, api.Rect{X: -end, Y: -end, W: end + 1, H: end + 1}, api.Rect{X: end, Y: end}, api.Rect{X: end - 1, Y: end - 1, W: 1, H: 1},
		api.Rect{X: -end - 1, Y: 0, W: end + 9, H: 9}, api.Rect{X: 0, Y: -end - 1, W: 9, H: end + 9}, api.Rect{X: 1, Y: 0, W: end, H: 9}, api.Rect{X: 0, Y: 1, W: 9, H: end},
		api.Rect{X: 0, Y: 0, W: math.MaxInt, H: 9}, api.Rect{X: 0, Y: 0, W: 9, H: math.MaxInt}, api.Rect{X: 1, Y: 1, W: math.MaxInt, H: math.MaxInt},
		api.Rect{X: math.MinInt, Y: 0, W: math.MaxInt, H: 9}, api.Rect{X: math.MinInt, Y: math.MinInt, W: math.MinInt, H: math.MinInt}, api.Rect{X: 0, Y: 0, W: math.MinInt, H: 9},
		api.Rect{X: math.MaxInt, Y: math.MaxInt, W: math.MaxInt, H: math.MaxInt}, api.Rect{X: math.MaxInt, Y: 0, W: 3, H: 9}, api.Rect{X: 2, Y: 1, W: -2, H: -1},
	)
}

func TestFill(t *testing.T) {
	eachSize(func(w, h int) {
		for _, r := range rects(w, h) {
			p := numbered(w, h)
			f := painted(t, p)
			n := f.Fill(r, 0xffffffff)
			if want := p.fill(r, 0xffffffff); n != want || f.Writes() != w*h+want {
				t.Fatalf("Fill(%v) of %d by %d: %d, %d writes, not %d", r, w, h, n, f.Writes(), want)
			}
			shows(t, f, p, "fill")
		}
	})
}

func TestFillSomePixels(t *testing.T) {
	for _, x := range []struct {
		r    api.Rect
		want int
	}{
		{api.Rect{X: 1, Y: 0, W: 5, H: 1}, 2}, {api.Rect{X: 0, Y: 0, W: 3, H: 2}, 6}, {api.Rect{X: -4, Y: -4, W: 9, H: 9}, 6}, {api.Rect{X: 2, Y: 1, W: 1, H: 1}, 1},
		{api.Rect{X: -5, Y: 1, W: 6, H: 9}, 1}, {api.Rect{X: 1, Y: -3, W: 1, H: 4}, 1}, {api.Rect{X: 3, Y: 0, W: 2, H: 2}, 0}, {api.Rect{X: 0, Y: 2, W: 2, H: 2}, 0},
		{api.Rect{X: -2, Y: 0, W: 2, H: 2}, 0}, {api.Rect{X: 0, Y: -2, W: 2, H: 2}, 0}, {api.Rect{X: 1, Y: 1, W: 0, H: 1}, 0}, {api.Rect{X: 1, Y: 1, W: 1, H: 0}, 0},
		{api.Rect{X: 2, Y: 2, W: -2, H: -2}, 0}, {api.Rect{}, 0}, {api.Rect{X: 0, Y: 0, W: end + 1, H: 1}, 0},
	} {
		f := made(t, 3, 2)
		if n := f.Fill(x.r, 7); n != x.want {
			t.Errorf("Fill(%v): %d, not %d", x.r, n, x.want)
		}
	}
}

// What has the colour already is written, too.
func TestFillOfTheSameColour(t *testing.T) {
	f := made(t, 3, 2)
	for i := range 3 {
		if n := f.Fill(api.Rect{W: 9, H: 9}, 0); n != 6 || f.Writes() != 6*(i+1) {
			t.Errorf("%d pixels, %d writes", n, f.Writes())
		}
	}
}

func TestDots(t *testing.T) {
	l := rects(3, 2)
	for i, a := range l {
		// A rectangle from elsewhere in the list, so that any meet any.
		b := l[(i*61+7)%len(l)]
		p := numbered(3, 2)
		f := painted(t, p)
		n := f.Dots([]api.Rect{a, b, a}, 9)
		if want := p.fill(a, 9) + p.fill(b, 9) + p.fill(a, 9); n != want || f.Writes() != 6+want {
			t.Fatalf("Dots(%v, %v): %d, %d writes, not %d", a, b, n, f.Writes(), want)
		}
		shows(t, f, p, "dots")
	}
}

func TestDotsOfAny(t *testing.T) {
	one := api.Rect{X: 1, Y: 1, W: 1, H: 1}
	for _, x := range []struct {
		l    []api.Rect
		want int
	}{
		{nil, 0}, {[]api.Rect{}, 0}, {[]api.Rect{{}}, 0}, {[]api.Rect{one}, 1}, {[]api.Rect{one, one, one}, 3},
		{[]api.Rect{{X: 0, Y: 0, W: 2, H: 1}, {X: 1, Y: 0, W: 5, H: 2}}, 6}, {[]api.Rect{{X: 9, Y: 9, W: 1, H: 1}, one, {W: -1, H: 1}}, 1}, {[]api.Rect{{W: -1, H: 1}, {W: end, H: end}}, 6},
	} {
		f := made(t, 3, 2)
		if n := f.Dots(x.l, 7); n != x.want || f.Writes() != x.want {
			t.Errorf("Dots(%v): %d, %d writes, not %d", x.l, n, f.Writes(), x.want)
		}
	}
}

// shifts are ways to shift a frame of the height h: by nothing, by less than, just as much as and more than its height, and so far that a product with its width wraps round.
func shifts(h int) []int {
	var l []int
	for by := -h - 3; by <= h+3; by++ {
		l = append(l, by)
	}
	return append(l, math.MinInt, math.MinInt+1, -1<<63+h, -1<<62, -1<<61, -1<<60, -1<<32, 1<<32, 1<<60, 1<<61, 1<<62, math.MaxInt-h, math.MaxInt-1, math.MaxInt)
}

func TestShift(t *testing.T) {
	eachSize(func(w, h int) {
		for _, by := range shifts(h) {
			p := numbered(w, h)
			f := painted(t, p)
			f.Shift(by)
			shows(t, f, p.shifted(by), "shift")
			if f.Writes() != w*h {
				t.Fatalf("Shift(%d): %d writes", by, f.Writes())
			}
		}
	})
}

func TestShiftOfFourRows(t *testing.T) {
	for _, x := range []struct {
		by   int
		want [4]uint32
	}{
		{0, [4]uint32{1, 2, 3, 4}}, {1, [4]uint32{1, 1, 2, 3}}, {2, [4]uint32{1, 2, 1, 2}}, {3, [4]uint32{1, 2, 3, 1}}, {4, [4]uint32{1, 2, 3, 4}}, {5, [4]uint32{1, 2, 3, 4}},
		{-1, [4]uint32{2, 3, 4, 4}}, {-2, [4]uint32{3, 4, 3, 4}}, {-3, [4]uint32{4, 2, 3, 4}}, {-4, [4]uint32{1, 2, 3, 4}}, {-5, [4]uint32{1, 2, 3, 4}},
		{math.MaxInt, [4]uint32{1, 2, 3, 4}}, {math.MinInt, [4]uint32{1, 2, 3, 4}},
	} {
		f := made(t, 2, 4)
		for y := range 4 {
			f.Fill(api.Rect{Y: y, W: 2, H: 1}, uint32(y+1))
		}
		f.Shift(x.by)
		for y, c := range x.want {
			if l := f.Line(y); !slices.Equal(l, []uint32{c, c}) {
				t.Errorf("Shift(%d): the row %d is %v, not of %d", x.by, y, l, c)
			}
		}
	}
}

func TestLineFarOutside(t *testing.T) {
	f := painted(t, numbered(3, 2))
	for _, y := range append(outside, 2, 3) {
		if l := f.Line(y); len(l) != 0 {
			t.Errorf("Line(%d): %v", y, l)
		}
	}
}

func TestLay(t *testing.T) {
	eachSize(func(w, h int) {
		for y := -2; y < h+2; y++ {
			for n := range w + 3 {
				l := slices.Repeat([]uint32{0xfffffffe}, n)
				for i := range l {
					l[i] += uint32(i)
				}
				p := numbered(w, h)
				f := painted(t, p)
				ok, writes := f.Lay(y, l), w*h
				if want := y >= 0 && y < h && n == w; ok != want {
					t.Fatalf("Lay(%d, %d pixels) of %d by %d: %t", y, n, w, h, ok)
				}
				if ok {
					p.rows[y] = l
					writes += w
				}
				shows(t, f, p, "lay")
				if f.Writes() != writes {
					t.Fatalf("Lay(%d, %d pixels) of %d by %d: %d writes", y, n, w, h, f.Writes()-w*h)
				}
			}
		}
	})
}

func TestLayFarOutside(t *testing.T) {
	p := numbered(3, 2)
	f := painted(t, p)
	for _, y := range append(outside, 2, 3, math.MinInt/3, math.MaxInt/3, math.MaxInt/3+1) {
		if f.Lay(y, []uint32{7, 8, 9}) {
			t.Errorf("Lay(%d)", y)
		}
	}
	if f.Lay(0, nil) || f.Lay(-1, nil) || f.Lay(2, nil) || f.Lay(1, make([]uint32, 1<<16)) {
		t.Error("a row of another width")
	}
	shows(t, f, p, "lay outside")
	if f.Writes() != 6 {
		t.Errorf("%d writes", f.Writes())
	}
}

func TestFramesWithoutPixels(t *testing.T) {
	for _, s := range [][2]int{{0, 0}, {0, 4}, {4, 0}} {
		f := made(t, s[0], s[1])
		if f.Fill(api.Rect{X: -9, Y: -9, W: 99, H: 99}, 7) != 0 || f.Dots([]api.Rect{{W: 9, H: 9}}, 7) != 0 {
			t.Errorf("%v: a pixel", s)
		}
		for _, by := range shifts(s[1]) {
			f.Shift(by)
		}
		for y := -1; y <= s[1]; y++ {
			if ok, want := f.Lay(y, nil), s[0] == 0 && y >= 0 && y < s[1]; ok != want {
				t.Errorf("%v: Lay(%d, no pixels): %t", s, y, ok)
			}
			if f.Lay(y, []uint32{7}) {
				t.Errorf("%v: Lay(%d, a pixel)", s, y)
			}
		}
		shows(t, f, blank(s[0], s[1]), "no pixels")
		if f.Writes() != 0 || !f.Same(f.Clone()) {
			t.Errorf("%v: %d writes", s, f.Writes())
		}
	}
}

func TestWrites(t *testing.T) {
	f := made(t, 4, 3)
	step := func(what string, want int) {
		t.Helper()
		if n := f.Writes(); n != want {
			t.Fatalf("%s: %d writes, not %d", what, n, want)
		}
	}
	step("new", 0)
	f.Fill(api.Rect{X: 1, Y: 1, W: 9, H: 1}, 5)
	step("fill", 3)
	f.Dots([]api.Rect{{W: 1, H: 1}, {W: 2, H: 1}, {W: -1, H: 1}}, 6)
	step("dots", 6)
	f.Lay(2, []uint32{1, 2, 3, 4})
	step("lay", 10)
	f.Lay(2, []uint32{1, 2, 3, 4})
	step("lay again", 14)
	f.Lay(3, []uint32{1, 2, 3, 4})
	f.Lay(1, []uint32{1, 2, 3})
	f.Lay(1, []uint32{1, 2, 3, 4, 5})
	step("lay nothing", 14)
	f.Shift(1)
	f.Shift(-2)
	step("shift", 14)
	f.At(1, 1)
	f.Line(1)
	f.Size()
	f.Same(f)
	f.Writes()
	step("look", 14)
	f.Clone().Fill(api.Rect{W: 9, H: 9}, 7)
	step("clone", 14)
}

func TestClone(t *testing.T) {
	eachSize(func(w, h int) {
		p := numbered(w, h)
		f := painted(t, p)
		c := f.Clone()
		if c == nil || c == f || c.Writes() != 0 || f.Writes() != w*h || !c.Same(f) || !f.Same(c) {
			t.Fatalf("a clone of %d by %d", w, h)
		}
		shows(t, c, p, "clone")
	})
}

// writers are ways in which a frame of 3 by 4 is changed.
var writers = []func(f *Frame){
	func(f *Frame) { f.Fill(api.Rect{X: 1, Y: 1, W: 1, H: 1}, 7) },
	func(f *Frame) { f.Fill(api.Rect{W: 9, H: 9}, 7) },
	func(f *Frame) { f.Dots([]api.Rect{{W: 1, H: 1}, {X: 2, Y: 3, W: 1, H: 1}}, 7) },
	func(f *Frame) { f.Shift(1) },
	func(f *Frame) { f.Shift(-3) },
	func(f *Frame) { f.Lay(0, []uint32{7, 8, 9}) },
	func(f *Frame) { f.Lay(3, []uint32{7, 8, 9}) },
}

func TestCloneAndFrameAreApart(t *testing.T) {
	p := numbered(3, 4)
	for _, write := range writers {
		f := painted(t, p)
		c := f.Clone()
		cc := c.Clone()
		write(f)
		shows(t, c, p, "a clone, behind its frame's change")
		if c.Same(f) || f.Same(c) || c.Writes() != 0 {
			t.Errorf("%d writes", c.Writes())
		}
		f = painted(t, p)
		c = f.Clone()
		write(c)
		shows(t, f, p, "a frame, behind its clone's change")
		shows(t, cc, p, "another clone")
		if f.Writes() != 12 || f.Same(c) {
			t.Errorf("%d writes", f.Writes())
		}
	}
}

func TestFramesKnowNothingOfOneAnother(t *testing.T) {
	a, b := made(t, 3, 4), made(t, 3, 4)
	for _, write := range writers {
		write(a)
		shows(t, b, blank(3, 4), "another frame")
	}
	if b.Writes() != 0 || a.Same(b) {
		t.Errorf("%d writes", b.Writes())
	}
}

func TestSame(t *testing.T) {
	eachSize(func(w, h int) {
		f := painted(t, numbered(w, h))
		eachSize(func(ow, oh int) {
			// As many pixels, and the same ones, in rows of another width are another frame.
			o := painted(t, numbered(ow, oh))
			if same := f.Same(o); same != (w == ow && h == oh) {
				t.Errorf("%d by %d, and %d by %d: %t", w, h, ow, oh, same)
			}
			if same := made(t, w, h).Same(made(t, ow, oh)); same != (w == ow && h == oh) {
				t.Errorf("%d by %d, and %d by %d, all 0: %t", w, h, ow, oh, same)
			}
		})
	})
}

func TestSameButForOnePixel(t *testing.T) {
	p := numbered(4, 3)
	f := painted(t, p)
	for y := range 3 {
		for x := range 4 {
			// A change of the highest bit alone, too, which no colour has.
			for _, c := range []uint32{p.rows[y][x] ^ 1, p.rows[y][x] ^ 1<<31, 0} {
				o := painted(t, p)
				o.Fill(api.Rect{X: x, Y: y, W: 1, H: 1}, c)
				if f.Same(o) || o.Same(f) {
					t.Errorf("the same, with %x at %d, %d", c, x, y)
				}
				o.Fill(api.Rect{X: x, Y: y, W: 1, H: 1}, p.rows[y][x])
				if !f.Same(o) || !o.Same(f) {
					t.Errorf("not the same, with what it was at %d, %d", x, y)
				}
			}
		}
	}
	if !f.Same(f) {
		t.Error("not the same as itself")
	}
}

func TestNoFrame(t *testing.T) {
	var none *Frame
	if w, h := none.Size(); w != 0 || h != 0 {
		t.Errorf("%d by %d", w, h)
	}
	if none.At(0, 0) != 0 || none.Fill(api.Rect{W: 1, H: 1}, 7) != 0 || none.Dots([]api.Rect{{W: 1, H: 1}}, 7) != 0 || none.Dots(nil, 7) != 0 || none.Writes() != 0 {
		t.Error("not 0")
	}
	for _, y := range []int{math.MinInt, -1, 0, 1, math.MaxInt} {
		none.Shift(y)
		if none.Line(y) != nil || none.Lay(y, nil) || none.Lay(y, []uint32{7}) {
			t.Errorf("a row %d", y)
		}
	}
	if none.Clone() != nil {
		t.Error("a clone")
	}
	if !none.Same(nil) || !none.Same(none.Clone()) {
		t.Error("two that are none are not the same")
	}
	eachSize(func(w, h int) {
		if f := made(t, w, h); f.Same(none) || none.Same(f) {
			t.Errorf("none, and %d by %d", w, h)
		}
	})
}

// A row that is told is the caller's own; one that is laid, and rectangles that are filled, are neither kept nor changed.
func TestMemory(t *testing.T) {
	p := numbered(3, 2)
	f := painted(t, p)
	for y := range 2 {
		l, other := f.Line(y), f.Line(y)
		l = append(l, 77)
		l = l[:cap(l)]
		for i := range l {
			l[i] = 77
		}
		if !slices.Equal(other, p.rows[y]) {
			t.Errorf("two answers share: %v", other)
		}
		shows(t, f, p, "behind a change of what Line told")
	}
	room := []uint32{1, 2, 3, 4, 5}
	if !f.Lay(0, room[:3]) || !slices.Equal(room, []uint32{1, 2, 3, 4, 5}) {
		t.Errorf("what was laid is %v", room)
	}
	p.rows[0] = []uint32{1, 2, 3}
	kept := f.Line(0)
	room[0], room[2] = 8, 9
	shows(t, f, p, "behind a change of what was laid")
	f.Fill(api.Rect{W: 9, H: 9}, 6)
	f.Shift(1)
	if !slices.Equal(kept, []uint32{1, 2, 3}) || !slices.Equal(room, []uint32{8, 2, 9, 4, 5}) {
		t.Errorf("%v, %v", kept, room)
	}
	many := []api.Rect{{X: -1, Y: -1, W: 9, H: 9}, {W: -1}, {X: 1, Y: 1, W: 1, H: 1}, {X: 5}}
	f.Dots(many[:2], 7)
	if !slices.Equal(many, []api.Rect{{X: -1, Y: -1, W: 9, H: 9}, {W: -1}, {X: 1, Y: 1, W: 1, H: 1}, {X: 5}}) {
		t.Errorf("%v", many)
	}
}

// P5.5: behind both shifts, all rows but those that went out by the first one are what they were.
func TestShiftBack(t *testing.T) {
	eachSize(func(w, h int) {
		for by := -h - 2; by <= h+2; by++ {
			p := numbered(w, h)
			f := painted(t, p)
			f.Shift(by)
			f.Shift(-by)
			for y := range h {
				if y+by >= 0 && y+by < h && !slices.Equal(f.Line(y), p.rows[y]) {
					t.Errorf("%d by %d, by %d and back: the row %d is %v", w, h, by, y, f.Line(y))
				}
			}
			if by <= -h || by >= h || by == 0 {
				shows(t, f, p, "shifted by nothing, or too far")
			}
		}
	})
}

// Many calls, one upon another, of a frame and of what it should be.
func TestManyCalls(t *testing.T) {
	p := blank(5, 4)
	f := made(t, 5, 4)
	l := rects(5, 4)
	writes := 0
	for i := range 4000 {
		c := uint32(i * 2654435761)
		switch i % 4 {
		case 0, 1:
			r := l[i*7919%len(l)]
			f.Fill(r, c)
			writes += p.fill(r, c)
		case 2:
			by := i/4%11 - 5
			f.Shift(by)
			p = p.shifted(by)
		case 3:
			y, row := i/4%6-1, []uint32{c, c + 1, c + 2, c + 3, c + 4}
			if f.Lay(y, row) {
				p.rows[y] = row
				writes += 5
			}
		}
		shows(t, f, p, "many calls")
		if f.Writes() != writes {
			t.Fatalf("%d writes, not %d", f.Writes(), writes)
		}
	}
}
