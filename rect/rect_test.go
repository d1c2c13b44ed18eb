package rect

import (
	"math"
	"math/big"
	"slices"
	"testing"

	"scrivener/api"
)

// end is where what is good ends, to either side.
const end = 1 << 30

// all is the greatest rectangle that is good.
var all = api.Rect{X: -end, Y: -end, W: 2 * end, H: 2 * end}

// bad are rectangles that are not good.
var bad = []api.Rect{
	{X: -end - 1, Y: 0, W: 5, H: 5}, {X: 0, Y: -end - 1, W: 5, H: 5},
	{X: end + 1, Y: 0, W: 0, H: 5}, {X: 0, Y: end + 1, W: 5, H: 0}, {X: end + 1, Y: 0, W: 5, H: 5}, {X: 0, Y: end + 1, W: 5, H: 5},
	{X: 0, Y: 0, W: -1, H: 5}, {X: 0, Y: 0, W: 5, H: -1}, {X: 0, Y: 0, W: -1, H: -1}, {X: end + 1, Y: 0, W: -1, H: 5}, {X: 0, Y: end + 1, W: 5, H: -1},
	{X: end, Y: 0, W: 1, H: 5}, {X: 0, Y: end, W: 5, H: 1}, {X: 0, Y: 0, W: end + 1, H: 5}, {X: 0, Y: 0, W: 5, H: end + 1},
	{X: -end, Y: 0, W: 2*end + 1, H: 5}, {X: 0, Y: -end, W: 5, H: 2*end + 1},
	{X: 0, Y: 0, W: math.MaxInt, H: 5}, {X: 0, Y: 0, W: 5, H: math.MaxInt}, {X: 1, Y: 1, W: math.MaxInt, H: math.MaxInt},
	{X: end, Y: 0, W: math.MaxInt, H: 5}, {X: 0, Y: end, W: 5, H: math.MaxInt}, {X: -end, Y: -end, W: math.MaxInt, H: math.MaxInt},
	{X: math.MinInt, Y: 0, W: 5, H: 5}, {X: 0, Y: math.MinInt, W: 5, H: 5}, {X: math.MaxInt, Y: 0, W: 5, H: 5}, {X: 0, Y: math.MaxInt, W: 5, H: 5},
	{X: 0, Y: 0, W: math.MinInt, H: 5}, {X: 0, Y: 0, W: 5, H: math.MinInt}, {X: math.MinInt, Y: math.MinInt, W: math.MaxInt, H: math.MaxInt},
	{X: math.MaxInt, Y: math.MaxInt, W: math.MaxInt, H: math.MaxInt}, {X: -1, Y: 0, W: math.MinInt, H: 5}, {X: 0, Y: -1, W: 5, H: math.MinInt},
}

// void are rectangles that are good, and without pixels.
var void = []api.Rect{
	{}, {X: 3, Y: 4}, {X: 1, Y: 1, W: 0, H: 2}, {X: 1, Y: 1, W: 2, H: 0},
	{X: end, Y: 0, W: 0, H: 5}, {X: 0, Y: end, W: 5, H: 0}, {X: end, Y: end}, {X: -end, Y: -end},
	{X: -end, Y: -end, W: 0, H: 2 * end}, {X: -end, Y: -end, W: 2 * end, H: 0},
}

// full are rectangles that are good, with pixels.
var full = []api.Rect{
	{X: 0, Y: 0, W: 4, H: 4}, {X: 0, Y: 0, W: 1, H: 1}, {X: -7, Y: 5, W: 3, H: 9}, {X: 2, Y: 2, W: 4, H: 4}, {X: 1, Y: 1, W: 2, H: 2},
	all, {X: -end, Y: -end, W: 1, H: 1}, {X: end - 1, Y: end - 1, W: 1, H: 1}, {X: end - 1, Y: -end, W: 1, H: 2 * end}, {X: -end, Y: end - 1, W: 2 * end, H: 1},
	{X: 0, Y: 0, W: end, H: end}, {X: -end, Y: -end, W: end, H: end},
}

// every is all rectangles of the three lists.
func every() []api.Rect {
	return slices.Concat(bad, void, full)
}

// places are places at which reckoning may go wrong: about 0, at both ends of what is good, at both ends of a program's numbers.
var places = []int{
	math.MinInt, math.MinInt + 1, math.MinInt + end - 1, math.MinInt + end, math.MinInt + end + 1, -4*end - 1, -4 * end, -2*end - 1, -2 * end, -2*end + 1,
	-end - 1, -end, -end + 1, -5, -1, 0, 1, 3, 4, 5, end - 2, end - 1, end, end + 1,
	2*end - 1, 2 * end, 2*end + 1, 4 * end, 4*end + 1, math.MaxInt - end - 1, math.MaxInt - end, math.MaxInt - end + 1, math.MaxInt - 1, math.MaxInt,
}

// sumWithin is whether a + b is from low to high, in numbers without bounds.
func sumWithin(a, b, low, high int) bool {
	s := new(big.Int).Add(big.NewInt(int64(a)), big.NewInt(int64(b)))
	return s.Cmp(big.NewInt(int64(low))) >= 0 && s.Cmp(big.NewInt(int64(high))) <= 0
}

// saysGood is what P2.1 says of Good; a side longer than all that is good goes first, so that no sum wraps round.
func saysGood(r api.Rect) bool {
	return r.X >= -end && r.X <= end && r.Y >= -end && r.Y <= end && r.W >= 0 && r.H >= 0 &&
		r.W <= 2*end && r.H <= 2*end && r.X+r.W <= end && r.Y+r.H <= end
}

// saysHas is what P2.1 says of a pixel.
func saysHas(r api.Rect, x, y int) bool {
	return saysGood(r) && r.X <= x && x < r.X+r.W && r.Y <= y && y < r.Y+r.H
}

func TestGood(t *testing.T) {
	for _, r := range bad {
		if Good(r) {
			t.Errorf("Good(%v)", r)
		}
	}
	for _, r := range slices.Concat(void, full) {
		if !Good(r) {
			t.Errorf("not Good(%v)", r)
		}
	}
}

func TestGoodAtAllPlaces(t *testing.T) {
	for _, at := range places {
		for _, n := range places {
			for _, r := range []api.Rect{{X: at, Y: 2, W: n, H: 3}, {X: 2, Y: at, W: 3, H: n}, {X: at, Y: at, W: n, H: n}} {
				if Good(r) != saysGood(r) {
					t.Errorf("Good(%v): %t", r, Good(r))
				}
			}
		}
	}
}

func TestEmpty(t *testing.T) {
	for _, r := range slices.Concat(bad, void) {
		if !Empty(r) {
			t.Errorf("not Empty(%v)", r)
		}
	}
	for _, r := range full {
		if Empty(r) {
			t.Errorf("Empty(%v)", r)
		}
	}
}

func TestHas(t *testing.T) {
	for _, x := range []struct {
		r    api.Rect
		x, y int
		want bool
	}{
		{api.Rect{X: 1, Y: 2, W: 3, H: 4}, 1, 2, true}, {api.Rect{X: 1, Y: 2, W: 3, H: 4}, 3, 5, true}, {api.Rect{X: 1, Y: 2, W: 3, H: 4}, 2, 3, true},
		{api.Rect{X: 1, Y: 2, W: 3, H: 4}, 0, 2, false}, {api.Rect{X: 1, Y: 2, W: 3, H: 4}, 1, 1, false},
		{api.Rect{X: 1, Y: 2, W: 3, H: 4}, 4, 2, false}, {api.Rect{X: 1, Y: 2, W: 3, H: 4}, 1, 6, false},
		{all, -end, -end, true}, {all, end - 1, end - 1, true}, {all, end, 0, false}, {all, 0, end, false}, {all, -end - 1, 0, false}, {all, 0, -end - 1, false},
		{api.Rect{X: 1, Y: 2, W: 0, H: 4}, 1, 2, false}, {api.Rect{X: 1, Y: 2, W: 3, H: 0}, 1, 2, false},
		{api.Rect{X: end, Y: 0, W: 1, H: 1}, end, 0, false}, {api.Rect{X: -end - 1, Y: 0, W: 9, H: 9}, 0, 0, false}, {api.Rect{X: 0, Y: 0, W: math.MaxInt, H: 9}, 0, 0, false},
	} {
		if Has(x.r, x.x, x.y) != x.want {
			t.Errorf("Has(%v, %d, %d): %t", x.r, x.x, x.y, !x.want)
		}
	}
}

func TestHasAtAllPlaces(t *testing.T) {
	for _, r := range every() {
		for _, x := range places {
			for _, y := range places {
				if Has(r, x, y) != saysHas(r, x, y) {
					t.Errorf("Has(%v, %d, %d): %t", r, x, y, Has(r, x, y))
				}
			}
		}
	}
}

func TestArea(t *testing.T) {
	for _, r := range slices.Concat(bad, void) {
		if n := Area(r); n != 0 {
			t.Errorf("Area(%v): %d", r, n)
		}
	}
	for _, x := range []struct {
		r    api.Rect
		want int
	}{
		{api.Rect{X: 0, Y: 0, W: 4, H: 4}, 16}, {api.Rect{X: -9, Y: 7, W: 1, H: 1}, 1}, {api.Rect{X: -9, Y: 7, W: 5, H: 3}, 15},
		{api.Rect{X: -end, Y: 3, W: 2 * end, H: 1}, 1 << 31}, {api.Rect{X: 3, Y: -end, W: 1, H: 2 * end}, 1 << 31}, {all, 1 << 62},
	} {
		if n := Area(x.r); n != x.want {
			t.Errorf("Area(%v): %d, not %d", x.r, n, x.want)
		}
	}
}

func TestMeet(t *testing.T) {
	four := api.Rect{X: 0, Y: 0, W: 4, H: 4}
	for _, x := range []struct{ a, b, want api.Rect }{
		{four, api.Rect{X: 2, Y: 2, W: 4, H: 4}, api.Rect{X: 2, Y: 2, W: 2, H: 2}},
		{four, four, four}, {four, api.Rect{X: 1, Y: 2, W: 2, H: 1}, api.Rect{X: 1, Y: 2, W: 2, H: 1}},
		{four, api.Rect{X: -3, Y: 1, W: 4, H: 9}, api.Rect{X: 0, Y: 1, W: 1, H: 3}}, {four, api.Rect{X: 1, Y: -2, W: 2, H: 9}, api.Rect{X: 1, Y: 0, W: 2, H: 4}},
		{four, api.Rect{X: 3, Y: 3, W: 1, H: 1}, api.Rect{X: 3, Y: 3, W: 1, H: 1}},
		// That only touch: at a side, at a corner.
		{four, api.Rect{X: 4, Y: 0, W: 4, H: 4}, api.Rect{}}, {four, api.Rect{X: 0, Y: 4, W: 4, H: 4}, api.Rect{}}, {four, api.Rect{X: 4, Y: 4, W: 4, H: 4}, api.Rect{}},
		{four, api.Rect{X: -4, Y: 0, W: 4, H: 4}, api.Rect{}}, {four, api.Rect{X: 0, Y: -4, W: 4, H: 4}, api.Rect{}},
		// That do not meet: in both sides, in one alone.
		{four, api.Rect{X: 9, Y: 9, W: 4, H: 4}, api.Rect{}}, {four, api.Rect{X: 9, Y: 1, W: 4, H: 4}, api.Rect{}}, {four, api.Rect{X: 1, Y: 9, W: 4, H: 4}, api.Rect{}},
		{api.Rect{X: -end, Y: -end, W: 1, H: 1}, api.Rect{X: end - 1, Y: end - 1, W: 1, H: 1}, api.Rect{}},
		{all, api.Rect{X: -end, Y: end - 1, W: 1, H: 1}, api.Rect{X: -end, Y: end - 1, W: 1, H: 1}}, {all, all, all},
	} {
		for _, m := range []api.Rect{Meet(x.a, x.b), Meet(x.b, x.a)} {
			if m != x.want {
				t.Errorf("Meet(%v, %v): %v, not %v", x.a, x.b, m, x.want)
			}
		}
	}
}

func TestJoin(t *testing.T) {
	four := api.Rect{X: 0, Y: 0, W: 4, H: 4}
	for _, x := range []struct{ a, b, want api.Rect }{
		{four, api.Rect{X: 2, Y: 2, W: 4, H: 4}, api.Rect{X: 0, Y: 0, W: 6, H: 6}}, {four, four, four},
		{four, api.Rect{X: 1, Y: 2, W: 2, H: 1}, four}, {four, api.Rect{X: 4, Y: 0, W: 4, H: 4}, api.Rect{X: 0, Y: 0, W: 8, H: 4}},
		{four, api.Rect{X: 9, Y: -7, W: 1, H: 2}, api.Rect{X: 0, Y: -7, W: 10, H: 11}},
		{four, api.Rect{X: -5, Y: 1, W: 2, H: 9}, api.Rect{X: -5, Y: 0, W: 9, H: 10}},
		{api.Rect{X: -end, Y: -end, W: 1, H: 1}, api.Rect{X: end - 1, Y: end - 1, W: 1, H: 1}, all},
		{api.Rect{X: end - 1, Y: -end, W: 1, H: 1}, api.Rect{X: -end, Y: end - 1, W: 1, H: 1}, all},
	} {
		for _, j := range []api.Rect{Join(x.a, x.b), Join(x.b, x.a)} {
			if j != x.want {
				t.Errorf("Join(%v, %v): %v, not %v", x.a, x.b, j, x.want)
			}
		}
	}
}

// What has no pixels adds none, wherever it stands.
func TestMeetAndJoinOfEmptyOnes(t *testing.T) {
	empty := slices.Concat(bad, void)
	for _, a := range empty {
		for _, b := range empty {
			if m, j := Meet(a, b), Join(a, b); m != (api.Rect{}) || j != (api.Rect{}) {
				t.Errorf("%v and %v: %v, %v", a, b, m, j)
			}
		}
		for _, b := range full {
			if m, n := Meet(a, b), Meet(b, a); m != (api.Rect{}) || n != (api.Rect{}) {
				t.Errorf("Meet of %v and %v: %v, %v", a, b, m, n)
			}
			if j, k := Join(a, b), Join(b, a); j != b || k != b {
				t.Errorf("Join of %v and %v: %v, %v", a, b, j, k)
			}
		}
	}
}

func TestMove(t *testing.T) {
	r := api.Rect{X: 1, Y: 2, W: 3, H: 4}
	for _, x := range []struct {
		r      api.Rect
		dx, dy int
		want   api.Rect
	}{
		{r, 0, 0, r}, {r, 5, -7, api.Rect{X: 6, Y: -5, W: 3, H: 4}}, {r, -5, 7, api.Rect{X: -4, Y: 9, W: 3, H: 4}},
		{r, -end - 1, 0, api.Rect{X: -end, Y: 2, W: 3, H: 4}}, {r, -end - 2, 0, api.Rect{}},
		{r, 0, -end - 2, api.Rect{X: 1, Y: -end, W: 3, H: 4}}, {r, 0, -end - 3, api.Rect{}},
		{r, end - 4, 0, api.Rect{X: end - 3, Y: 2, W: 3, H: 4}}, {r, end - 3, 0, api.Rect{}},
		{r, 0, end - 6, api.Rect{X: 1, Y: end - 4, W: 3, H: 4}}, {r, 0, end - 5, api.Rect{}},
		{api.Rect{X: -end, Y: -end, W: 1, H: 1}, 2*end - 1, 2*end - 1, api.Rect{X: end - 1, Y: end - 1, W: 1, H: 1}},
		{api.Rect{X: end - 1, Y: end - 1, W: 1, H: 1}, 1 - 2*end, 1 - 2*end, api.Rect{X: -end, Y: -end, W: 1, H: 1}},
		{all, 0, 0, all}, {all, 1, 0, api.Rect{}}, {all, -1, 0, api.Rect{}}, {all, 0, 1, api.Rect{}}, {all, 0, -1, api.Rect{}},
		{r, math.MaxInt, 0, api.Rect{}}, {r, 0, math.MaxInt, api.Rect{}}, {r, math.MinInt, 0, api.Rect{}}, {r, 0, math.MinInt, api.Rect{}},
		// One that is empty, and one that is not good, though it would be where it came to.
		{api.Rect{X: 1, Y: 2, W: 0, H: 4}, 1, 1, api.Rect{}}, {api.Rect{X: 1, Y: 2, W: 3, H: 0}, 1, 1, api.Rect{}},
		{api.Rect{X: end, Y: 0, W: 1, H: 1}, -1, 0, api.Rect{}}, {api.Rect{X: 0, Y: -end - 1, W: 1, H: 1}, 0, 1, api.Rect{}},
	} {
		if m := Move(x.r, x.dx, x.dy); m != x.want {
			t.Errorf("Move(%v, %d, %d): %v, not %v", x.r, x.dx, x.dy, m, x.want)
		}
	}
}

// saysMove is what P2.2 says of Move, with sums in numbers without bounds.
func saysMove(r api.Rect, dx, dy int) api.Rect {
	if !saysGood(r) || r.W == 0 || r.H == 0 || !sumWithin(r.X, dx, -end, end) || !sumWithin(r.Y, dy, -end, end) {
		return api.Rect{}
	}
	m := api.Rect{X: r.X + dx, Y: r.Y + dy, W: r.W, H: r.H}
	if !saysGood(m) {
		return api.Rect{}
	}
	return m
}

func TestMoveToAllPlaces(t *testing.T) {
	for _, r := range every() {
		for _, dx := range places {
			for _, dy := range places {
				if m, want := Move(r, dx, dy), saysMove(r, dx, dy); m != want {
					t.Errorf("Move(%v, %d, %d): %v, not %v", r, dx, dy, m, want)
				}
			}
		}
	}
}

func TestLess(t *testing.T) {
	a := api.Rect{X: 1, Y: 2, W: 9, H: 8}
	above, below := api.Rect{X: 1, Y: 2, W: 9, H: 3}, api.Rect{X: 1, Y: 7, W: 9, H: 3}
	left, right := api.Rect{X: 1, Y: 5, W: 2, H: 2}, api.Rect{X: 6, Y: 5, W: 4, H: 2}
	for _, x := range []struct {
		b    api.Rect
		want []api.Rect
	}{
		{api.Rect{X: 3, Y: 5, W: 3, H: 2}, []api.Rect{above, left, right, below}},
		// b reaches out of a: to the left, to the right, above, below, to several sides.
		{api.Rect{X: -3, Y: 5, W: 9, H: 2}, []api.Rect{above, right, below}}, {api.Rect{X: 3, Y: 5, W: 30, H: 2}, []api.Rect{above, left, below}},
		{api.Rect{X: -3, Y: 5, W: 40, H: 2}, []api.Rect{above, below}},
		{api.Rect{X: 3, Y: -9, W: 3, H: 16}, []api.Rect{{X: 1, Y: 2, W: 2, H: 5}, {X: 6, Y: 2, W: 4, H: 5}, below}},
		{api.Rect{X: 3, Y: 5, W: 3, H: 99}, []api.Rect{above, {X: 1, Y: 5, W: 2, H: 5}, {X: 6, Y: 5, W: 4, H: 5}}},
		{api.Rect{X: 3, Y: -9, W: 3, H: 99}, []api.Rect{{X: 1, Y: 2, W: 2, H: 8}, {X: 6, Y: 2, W: 4, H: 8}}},
		{api.Rect{X: -3, Y: -9, W: 40, H: 16}, []api.Rect{below}}, {api.Rect{X: -3, Y: 5, W: 40, H: 99}, []api.Rect{above}},
		{api.Rect{X: -3, Y: -9, W: 6, H: 99}, []api.Rect{{X: 3, Y: 2, W: 7, H: 8}}}, {api.Rect{X: 3, Y: -9, W: 60, H: 99}, []api.Rect{{X: 1, Y: 2, W: 2, H: 8}}},
		// b has a; b is a.
		{api.Rect{X: -3, Y: -9, W: 99, H: 99}, nil}, {a, nil}, {all, nil},
		// They only touch, or do not meet.
		{api.Rect{X: 10, Y: 2, W: 4, H: 8}, []api.Rect{a}}, {api.Rect{X: 1, Y: 10, W: 9, H: 4}, []api.Rect{a}}, {api.Rect{X: 0, Y: 2, W: 1, H: 8}, []api.Rect{a}},
		{api.Rect{X: 1, Y: 0, W: 9, H: 2}, []api.Rect{a}}, {api.Rect{X: 10, Y: 10, W: 1, H: 1}, []api.Rect{a}}, {api.Rect{X: 90, Y: 5, W: 3, H: 2}, []api.Rect{a}}, {api.Rect{X: 3, Y: 50, W: 3, H: 2}, []api.Rect{a}},
	} {
		if l := Less(a, x.b); !slices.Equal(l, x.want) {
			t.Errorf("Less(%v, %v): %v, not %v", a, x.b, l, x.want)
		}
	}
}

func TestLessAtBothEnds(t *testing.T) {
	want := []api.Rect{
		{X: -end, Y: -end, W: 2 * end, H: end}, {X: -end, Y: 0, W: end, H: 1},
		{X: 1, Y: 0, W: end - 1, H: 1}, {X: -end, Y: 1, W: 2 * end, H: end - 1},
	}
	if l := Less(all, api.Rect{X: 0, Y: 0, W: 1, H: 1}); !slices.Equal(l, want) {
		t.Error(l)
	}
	want = []api.Rect{{X: -end + 1, Y: -end, W: 2*end - 1, H: 1}, {X: -end, Y: -end + 1, W: 2 * end, H: 2*end - 1}}
	if l := Less(all, api.Rect{X: -end, Y: -end, W: 1, H: 1}); !slices.Equal(l, want) {
		t.Error(l)
	}
	want = []api.Rect{{X: -end, Y: -end, W: 2 * end, H: 2*end - 1}, {X: -end, Y: end - 1, W: 2*end - 1, H: 1}}
	if l := Less(all, api.Rect{X: end - 1, Y: end - 1, W: 1, H: 1}); !slices.Equal(l, want) {
		t.Error(l)
	}
}

func TestLessOfEmptyOnes(t *testing.T) {
	for _, e := range slices.Concat(bad, void) {
		for _, r := range every() {
			if l := Less(e, r); len(l) != 0 {
				t.Errorf("Less(%v, %v): %v", e, r, l)
			}
		}
		for _, r := range full {
			if l := Less(r, e); !slices.Equal(l, []api.Rect{r}) {
				t.Errorf("Less(%v, %v): %v", r, e, l)
			}
		}
	}
}

// An answer is the caller's own: what is written into one, or behind its end, is in no other.
func TestLessIsNewMemory(t *testing.T) {
	a, b := api.Rect{X: 0, Y: 0, W: 9, H: 9}, api.Rect{X: 0, Y: 3, W: 9, H: 3}
	for _, x := range [][2]api.Rect{{a, b}, {a, api.Rect{}}} {
		first, second := Less(x[0], x[1]), Less(x[0], x[1])
		kept := slices.Clone(second)
		first = first[:cap(first)]
		for i := range first {
			first[i] = api.Rect{X: 7, Y: 7, W: 7, H: 7}
		}
		if !slices.Equal(second, kept) || !slices.Equal(Less(x[0], x[1]), kept) {
			t.Errorf("Less(%v, %v) shares what it answers", x[0], x[1])
		}
	}
}

// corners are where, from the left and from above, the small rectangles of a window begin: in the middle, and across both ends of what is good.
var corners = [][2]int{{-1, -1}, {-end - 1, end - 3}, {end - 3, -end - 1}, {-end - 1, -end - 1}, {end - 3, end - 3}}

// wide is how far the small rectangles of a window reach at most.
const wide = 6

// small are all rectangles that begin in a window's first columns and rows, good ones and others.
func small(left, top int) []api.Rect {
	var l []api.Rect
	for x := range 3 {
		for y := range 3 {
			for w := -1; w <= 3; w++ {
				for h := -1; h <= 3; h++ {
					l = append(l, api.Rect{X: left + x, Y: top + y, W: w, H: h})
				}
			}
		}
	}
	return l
}

// box is the least rectangle that has all pixels of a window that are asked for; the zero one, if there is none.
func box(left, top int, in func(x, y int) bool) api.Rect {
	var r api.Rect
	for y := top; y < top+wide; y++ {
		for x := left; x < left+wide; x++ {
			if !in(x, y) {
				continue
			}
			if r == (api.Rect{}) {
				r = api.Rect{X: x, Y: y, W: 1, H: 1}
			}
			to := max(r.X+r.W, x+1)
			r.X = min(r.X, x)
			r.W, r.H = to-r.X, y+1-r.Y
		}
	}
	return r
}

// saysLess is what P2.3 says of Less, asked pixel by pixel.
func saysLess(left, top int, a, b, meet api.Rect) []api.Rect {
	free := func(side func(x, y int) bool) api.Rect {
		return box(left, top, func(x, y int) bool { return saysHas(a, x, y) && !saysHas(b, x, y) && side(x, y) })
	}
	level := func(y int) bool { return y >= meet.Y && y < meet.Y+meet.H }
	parts := []api.Rect{
		free(func(x, y int) bool { return y < meet.Y }),
		free(func(x, y int) bool { return level(y) && x < meet.X }),
		free(func(x, y int) bool { return level(y) && x >= meet.X }),
		free(func(x, y int) bool { return y >= meet.Y+meet.H }),
	}
	if meet == (api.Rect{}) {
		parts = []api.Rect{free(func(x, y int) bool { return true })}
	}
	return slices.DeleteFunc(parts, func(r api.Rect) bool { return r == api.Rect{} })
}

func TestPixelByPixel(t *testing.T) {
	for _, c := range corners {
		for _, a := range small(c[0], c[1]) {
			for _, b := range small(c[0], c[1]) {
				meet := box(c[0], c[1], func(x, y int) bool { return saysHas(a, x, y) && saysHas(b, x, y) })
				if m := Meet(a, b); m != meet {
					t.Fatalf("Meet(%v, %v): %v, not %v", a, b, m, meet)
				}
				join := box(c[0], c[1], func(x, y int) bool { return saysHas(a, x, y) || saysHas(b, x, y) })
				if j := Join(a, b); j != join {
					t.Fatalf("Join(%v, %v): %v, not %v", a, b, j, join)
				}
				less := saysLess(c[0], c[1], a, b, meet)
				if l := Less(a, b); !slices.Equal(l, less) {
					t.Fatalf("Less(%v, %v): %v, not %v", a, b, l, less)
				}
			}
		}
	}
}

// inHowMany is in how many of these rectangles a pixel is.
func inHowMany(l []api.Rect, x, y int) int {
	n := 0
	for _, r := range l {
		if saysHas(r, x, y) {
			n++
		}
	}
	return n
}

// P2.4, at all places, of all rectangles: none of the parts is empty, and together they have as many pixels as a has without b.
func TestLessHasEachPixelOnce(t *testing.T) {
	for _, a := range every() {
		for _, b := range every() {
			l := Less(a, b)
			n := 0
			for _, r := range l {
				if Empty(r) {
					t.Errorf("Less(%v, %v): %v is empty", a, b, r)
				}
				n += Area(r)
			}
			if n != Area(a)-Area(Meet(a, b)) {
				t.Errorf("Less(%v, %v): %d pixels", a, b, n)
			}
			for _, x := range places {
				for _, y := range places {
					want := 0
					if saysHas(a, x, y) && !saysHas(b, x, y) {
						want = 1
					}
					if k := inHowMany(l, x, y); k != want {
						t.Errorf("Less(%v, %v): %d, %d is in %d", a, b, x, y, k)
					}
				}
			}
		}
	}
}
