package band

import (
	"math"
	"slices"
	"testing"

	"scrivener/api"
)

// end is where all rows end, to either side.
const end = 1 << 30

// all is the greatest band that is good.
var all = api.Band{From: -end, To: end}

// places are bounds at which reckoning may go wrong: about 0, at both ends of all rows, at both ends of a program's numbers.
var places = []int{
	math.MinInt, math.MinInt + end, -2*end - 1, -2 * end, -end - 1, -end, -end + 1,
	-1, 0, 1, 3, end - 1, end, end + 1, 2 * end, 2*end + 1, math.MaxInt - end, math.MaxInt,
}

// few are places that lie close to one another.
var few = []int{0, 1, 2, 3}

// bands is bands of bounds that are told one behind the other.
func bands(bounds ...int) []api.Band {
	var l []api.Band
	for p := range slices.Chunk(bounds, 2) {
		l = append(l, api.Band{From: p[0], To: p[1]})
	}
	return l
}

// ofAll is all bands whose bounds are of these, those without rows with them.
func ofAll(bounds []int) []api.Band {
	var l []api.Band
	for _, from := range bounds {
		for _, to := range bounds {
			l = append(l, api.Band{From: from, To: to})
		}
	}
	return l
}

// lists is all lists of at most so many of l.
func lists(l []api.Band, most int) [][]api.Band {
	every := [][]api.Band{nil}
	last := every
	for range most {
		var longer [][]api.Band
		for _, head := range last {
			for _, b := range l {
				longer = append(longer, append(slices.Clip(head), b))
			}
		}
		every, last = append(every, longer...), longer
	}
	return every
}

// saysGood is what P4.1 says of good bands.
func saysGood(l []api.Band) bool {
	for i, b := range l {
		if b.From < -end || b.From > end || b.To < -end || b.To > end || b.To <= b.From {
			return false
		}
		if i > 0 && b.From <= l[i-1].To {
			return false
		}
	}
	return true
}

// saysHas is what P4.1 says of a row.
func saysHas(l []api.Band, y int) bool {
	for _, b := range l {
		if y >= -end && y < end && b.From <= y && y < b.To {
			return true
		}
	}
	return false
}

// about is these rows, with those beside them.
func about(rows ...int) []int {
	var l []int
	for _, y := range rows {
		l = append(l, y-1, y, y+1)
	}
	return l
}

// ends is all bounds of some bands.
func ends(lists ...[]api.Band) []int {
	var l []int
	for _, list := range lists {
		for _, b := range list {
			l = append(l, b.From, b.To)
		}
	}
	return l
}

// holds is whether got is good, and has just the rows that want tells: beyond these bounds and its own, nothing changes.
func holds(got []api.Band, bounds []int, want func(y int) bool) bool {
	if !saysGood(got) {
		return false
	}
	for _, y := range about(slices.Concat(bounds, ends(got), []int{-end, end})...) {
		if saysHas(got, y) != want(y) {
			return false
		}
	}
	return true
}

func TestGood(t *testing.T) {
	for _, l := range [][]api.Band{
		nil, {}, bands(0, 1), bands(0, 5), bands(-3, 4), bands(0, 3, 4, 5), bands(-9, -8, -7, -6, 0, 4, 5, 9),
		{all}, bands(-end, -end+1), bands(end-1, end), bands(-end, 0, 1, end), bands(-end, end-2, end-1, end),
	} {
		if !Good(l) {
			t.Errorf("not Good(%v)", l)
		}
	}
	for _, l := range [][]api.Band{
		bands(0, 0), bands(5, 4), bands(0, 3, 3, 5), bands(0, 3, 2, 5), bands(0, 9, 2, 5), bands(4, 5, 0, 3), bands(0, 3, 0, 3),
		bands(0, 3, 5, 5), bands(0, 3, 5, 4), bands(0, 0, 3, 5), bands(0, 1, 2, 3, 3, 4), bands(0, 1, 2, 3, 1, 2), bands(0, 1, 4, 5, 2, 3),
		bands(-end-1, 0), bands(0, end+1), bands(-end-1, end), bands(-end-1, -end), bands(end, end+1), bands(-end, -end), bands(end, end),
		bands(0, 1, 2, end+1), bands(-end-1, 0, 1, 2), bands(math.MinInt, math.MaxInt), bands(math.MaxInt, math.MinInt), bands(math.MinInt, 0), bands(0, math.MaxInt),
	} {
		if Good(l) {
			t.Errorf("Good(%v)", l)
		}
	}
}

func TestGoodAtAllPlaces(t *testing.T) {
	for _, l := range slices.Concat(lists(ofAll(places), 2), lists(ofAll(few), 3)) {
		if Good(l) != saysGood(l) {
			t.Errorf("Good(%v): %t", l, Good(l))
		}
	}
}

func TestTidy(t *testing.T) {
	for _, c := range []struct{ l, want []api.Band }{
		{bands(0, 3, 3, 5, 9, 9), bands(0, 5)},
		{nil, nil},
		{bands(0, 3), bands(0, 3)},
		{bands(0, 3, 4, 5), bands(0, 3, 4, 5)},
		{bands(4, 5, 0, 3), bands(0, 3, 4, 5)},
		{bands(3, 5, 0, 3), bands(0, 5)},
		{bands(0, 4, 2, 6), bands(0, 6)},
		{bands(2, 6, 0, 4), bands(0, 6)},
		{bands(0, 9, 2, 3), bands(0, 9)},
		{bands(2, 3, 0, 9), bands(0, 9)},
		{bands(0, 9, 2, 3, 4, 5, 12, 13), bands(0, 9, 12, 13)},
		{bands(0, 9, 0, 4), bands(0, 9)},
		{bands(0, 4, 0, 9), bands(0, 9)},
		{bands(5, 9, 0, 9), bands(0, 9)},
		{bands(0, 3, 0, 3), bands(0, 3)},
		{bands(0, 1, 4, 5, 2, 3), bands(0, 1, 2, 3, 4, 5)},
		{bands(0, 1, 2, 3, 4, 5, 1, 4), bands(0, 5)},
		{bands(9, 9), nil},
		{bands(9, 3), nil},
		{bands(0, 3, 5, 2, 4, 4, 3, 3), bands(0, 3)},
		{bands(0, 3, 3, 3, 4, 5), bands(0, 3, 4, 5)},
		{bands(0, 0, 1, 1), nil},
	} {
		if got := Tidy(c.l...); !slices.Equal(got, c.want) {
			t.Errorf("Tidy(%v): %v", c.l, got)
		}
	}
	if got := Tidy(); len(got) != 0 {
		t.Errorf("Tidy(): %v", got)
	}
}

func TestTidyOutOfAllRows(t *testing.T) {
	for _, c := range []struct{ l, want []api.Band }{
		{bands(math.MinInt, math.MaxInt), bands(-end, end)},
		{bands(-end-1, end+1), bands(-end, end)},
		{bands(-end, end), bands(-end, end)},
		{bands(-end-1, 3), bands(-end, 3)},
		{bands(3, end+1), bands(3, end)},
		{bands(math.MinInt, -end), nil},
		{bands(-end-5, -end-1), nil},
		{bands(end, math.MaxInt), nil},
		{bands(end+1, end+5), nil},
		{bands(-end-5, -end+1), bands(-end, -end+1)},
		{bands(end-1, end+5), bands(end-1, end)},
		{bands(math.MaxInt, math.MinInt), nil},
		{bands(end+1, -end-1), nil},
		{bands(5, math.MaxInt, math.MinInt, 3), bands(-end, 3, 5, end)},
		{bands(4, math.MaxInt, math.MinInt, 4), bands(-end, end)},
		{bands(end, end+5, end-1, end), bands(end-1, end)},
		{bands(end+9, end+10, 3, 4, -end-10, -end-9), bands(3, 4)},
	} {
		if got := Tidy(c.l...); !slices.Equal(got, c.want) {
			t.Errorf("Tidy(%v): %v", c.l, got)
		}
	}
}

func TestTidyOfAllLists(t *testing.T) {
	for _, l := range slices.Concat(lists(ofAll(places), 2), lists(ofAll(few), 3)) {
		if got := Tidy(l...); !holds(got, ends(l), func(y int) bool { return saysHas(l, y) }) {
			t.Errorf("Tidy(%v): %v", l, got)
		}
	}
}

func TestTidyInAnyOrder(t *testing.T) {
	want := bands(-7, -2, 0, 5, 6, 9)
	l := bands(0, 3, 3, 5, -7, -4, -5, -2, 6, 9, 7, 8, 4, 4, 20, 10)
	// Each step swaps another two, and all turns over k steps: many orders, the first and its opposite with them.
	for k := range 5000 {
		i := k % (len(l) - 1)
		l[i], l[i+1] = l[i+1], l[i]
		if k%7 == 0 {
			slices.Reverse(l)
		}
		if got := Tidy(l...); !slices.Equal(got, want) {
			t.Fatalf("Tidy(%v): %v", l, got)
		}
	}
}

func TestHas(t *testing.T) {
	l := bands(5, 9, 0, 3, 2, 4, 12, 12, 15, 11)
	for y := -3; y < 20; y++ {
		want := y >= 0 && y < 4 || y >= 5 && y < 9
		if Has(l, y) != want {
			t.Errorf("Has(%v, %d): %t", l, y, Has(l, y))
		}
	}
	wide := bands(math.MinInt, math.MaxInt)
	for _, y := range []int{-end, -end + 1, 0, end - 1} {
		if !Has(wide, y) {
			t.Errorf("not Has(%v, %d)", wide, y)
		}
	}
	for _, y := range []int{math.MinInt, -end - 1, end, end + 1, math.MaxInt - 1, math.MaxInt} {
		if Has(wide, y) {
			t.Errorf("Has(%v, %d)", wide, y)
		}
	}
	if Has(nil, 0) || Has(bands(), 0) || Has(bands(0, 0), 0) || Has(bands(1, -1), 0) {
		t.Error("a row of no rows")
	}
}

func TestHasAtAllPlaces(t *testing.T) {
	for _, l := range lists(ofAll(places), 2) {
		for _, y := range places {
			if Has(l, y) != saysHas(l, y) {
				t.Errorf("Has(%v, %d): %t", l, y, Has(l, y))
			}
		}
	}
}

// of is one case of two lists: what both together, both at once, and the first alone have.
type of struct{ a, b, join, meet, less []api.Band }

// compare holds Join, Meet and Less against what is asked.
func (c of) compare(t *testing.T) {
	t.Helper()
	if got := Join(c.a, c.b); !slices.Equal(got, c.join) {
		t.Errorf("Join(%v, %v): %v", c.a, c.b, got)
	}
	if got := Meet(c.a, c.b); !slices.Equal(got, c.meet) {
		t.Errorf("Meet(%v, %v): %v", c.a, c.b, got)
	}
	if got := Less(c.a, c.b); !slices.Equal(got, c.less) {
		t.Errorf("Less(%v, %v): %v", c.a, c.b, got)
	}
}

func TestJoinMeetLess(t *testing.T) {
	for _, c := range []of{
		{bands(0, 5), bands(3, 9), bands(0, 9), bands(3, 5), bands(0, 3)},
		{bands(3, 9), bands(0, 5), bands(0, 9), bands(3, 5), bands(5, 9)},
		{bands(0, 5), bands(5, 9), bands(0, 9), nil, bands(0, 5)},
		{bands(5, 9), bands(0, 5), bands(0, 9), nil, bands(5, 9)},
		{bands(0, 5), bands(6, 9), bands(0, 5, 6, 9), nil, bands(0, 5)},
		{bands(0, 9), bands(3, 5), bands(0, 9), bands(3, 5), bands(0, 3, 5, 9)},
		{bands(3, 5), bands(0, 9), bands(0, 9), bands(3, 5), nil},
		{bands(0, 9), bands(0, 5), bands(0, 9), bands(0, 5), bands(5, 9)},
		{bands(0, 9), bands(5, 9), bands(0, 9), bands(5, 9), bands(0, 5)},
		{bands(0, 9), bands(0, 9), bands(0, 9), bands(0, 9), nil},
		{bands(0, 2, 4, 6, 8, 9), bands(1, 5, 6, 8), bands(0, 9), bands(1, 2, 4, 5), bands(0, 1, 5, 6, 8, 9)},
		{bands(0, 9), bands(1, 2, 3, 4, 8, 9), bands(0, 9), bands(1, 2, 3, 4, 8, 9), bands(0, 1, 2, 3, 4, 8)},
		{bands(1, 2, 3, 4, 8, 9), bands(0, 9), bands(0, 9), bands(1, 2, 3, 4, 8, 9), nil},
		{bands(8, 9, 0, 2, 5, 5, 4, 6), bands(6, 8, 3, 1, 2, 5, 1, 3), bands(0, 9), bands(1, 2, 4, 5), bands(0, 1, 5, 6, 8, 9)},
		{bands(0, 3, 3, 5), bands(2, 4), bands(0, 5), bands(2, 4), bands(0, 2, 4, 5)},
		{bands(2, 4), bands(0, 3, 3, 5), bands(0, 5), bands(2, 4), nil},
		{bands(0, 3), bands(2, 2), bands(0, 3), nil, bands(0, 3)},
		{bands(0, 3), bands(2, 1), bands(0, 3), nil, bands(0, 3)},
		{bands(2, 2), bands(0, 3), bands(0, 3), nil, nil},
		{bands(2, 1), bands(0, 3), bands(0, 3), nil, nil},
	} {
		c.compare(t)
	}
}

func TestJoinMeetLessOfNone(t *testing.T) {
	for _, c := range []of{
		{nil, nil, nil, nil, nil},
		{bands(0, 3, 3, 5), nil, bands(0, 5), nil, bands(0, 5)},
		{nil, bands(0, 3, 3, 5), bands(0, 5), nil, nil},
		{[]api.Band{}, bands(0, 5), bands(0, 5), nil, nil},
		{bands(0, 0), bands(5, 4), nil, nil, nil},
	} {
		c.compare(t)
	}
}

func TestJoinMeetLessOutOfAllRows(t *testing.T) {
	wide := bands(math.MinInt, math.MaxInt)
	for _, c := range []of{
		{wide, nil, bands(-end, end), nil, bands(-end, end)},
		{nil, wide, bands(-end, end), nil, nil},
		{wide, wide, bands(-end, end), bands(-end, end), nil},
		{wide, bands(0, 5), bands(-end, end), bands(0, 5), bands(-end, 0, 5, end)},
		{wide, bands(0, math.MaxInt), bands(-end, end), bands(0, end), bands(-end, 0)},
		{wide, bands(math.MinInt, 0), bands(-end, end), bands(-end, 0), bands(0, end)},
		{wide, bands(-end, -end+1, end-1, end), bands(-end, end), bands(-end, -end+1, end-1, end), bands(-end+1, end-1)},
		{bands(0, 5), bands(end, end+5), bands(0, 5), nil, bands(0, 5)},
		{bands(end-5, end+9), bands(end-3, math.MaxInt), bands(end-5, end), bands(end-3, end), bands(end-5, end-3)},
		{bands(-end-9, -end+5), bands(math.MinInt, -end+3), bands(-end, -end+5), bands(-end, -end+3), bands(-end+3, -end+5)},
	} {
		c.compare(t)
	}
}

// pairsHold holds Join, Meet and Less of any two of these lists against what P4.2 says of each row.
func pairsHold(t *testing.T, l [][]api.Band) {
	for _, a := range l {
		for _, b := range l {
			bounds := ends(a, b)
			if got := Join(a, b); !holds(got, bounds, func(y int) bool { return saysHas(a, y) || saysHas(b, y) }) {
				t.Errorf("Join(%v, %v): %v", a, b, got)
			}
			if got := Meet(a, b); !holds(got, bounds, func(y int) bool { return saysHas(a, y) && saysHas(b, y) }) {
				t.Errorf("Meet(%v, %v): %v", a, b, got)
			}
			if got := Less(a, b); !holds(got, bounds, func(y int) bool { return saysHas(a, y) && !saysHas(b, y) }) {
				t.Errorf("Less(%v, %v): %v", a, b, got)
			}
		}
	}
}

func TestJoinMeetLessOfAllLists(t *testing.T) {
	pairsHold(t, lists(ofAll(few), 2))
	pairsHold(t, lists(ofAll(places), 1))
}

func TestMove(t *testing.T) {
	for _, c := range []struct {
		l            []api.Band
		by, from, to int
		want         []api.Band
	}{
		{bands(0, 3, 5, 9), 0, -end, end, bands(0, 3, 5, 9)},
		{bands(0, 3, 5, 9), 4, -end, end, bands(4, 7, 9, 13)},
		{bands(0, 3, 5, 9), -4, -end, end, bands(-4, -1, 1, 5)},
		{bands(0, 3, 5, 9), -4, 0, 100, bands(1, 5)},
		{bands(0, 3, 5, 9), -1, 0, 100, bands(0, 2, 4, 8)},
		{bands(0, 3, 5, 9), 2, 0, 8, bands(2, 5, 7, 8)},
		{bands(0, 3, 5, 9), 2, 3, 8, bands(3, 5, 7, 8)},
		{bands(0, 3, 5, 9), 0, 3, 5, nil},
		{bands(0, 3, 5, 9), 0, 2, 6, bands(2, 3, 5, 6)},
		{bands(0, 3, 5, 9), 0, 6, 7, bands(6, 7)},
		{bands(0, 3, 5, 9), 100, 0, 100, nil},
		{bands(0, 3, 5, 9), -9, 0, 100, nil},
		{bands(0, 3, 5, 9), -8, 0, 100, bands(0, 1)},
		{bands(0, 3, 5, 9), 99, 0, 100, bands(99, 100)},
		{bands(0, 3), 0, 2, 2, nil},
		{bands(0, 3), 0, 2, 1, nil},
		{bands(0, 9), 0, 5, 3, nil},
		{bands(5, 9, 2, 2, 3, 5, 0, 1, 0, 2), 1, 0, 100, bands(1, 3, 4, 10)},
		{bands(9, 3), 2, -end, end, nil},
		{nil, 5, -end, end, nil},
		{[]api.Band{}, 0, 0, 9, nil},
	} {
		if got := Move(c.l, c.by, c.from, c.to); !slices.Equal(got, c.want) {
			t.Errorf("Move(%v, %d, %d, %d): %v", c.l, c.by, c.from, c.to, got)
		}
	}
}

func TestMoveOutOfAllRows(t *testing.T) {
	for _, c := range []struct {
		l            []api.Band
		by, from, to int
		want         []api.Band
	}{
		{bands(0, 5), 0, math.MinInt, math.MaxInt, bands(0, 5)},
		{bands(math.MinInt, math.MaxInt), 3, math.MinInt, math.MaxInt, bands(-end+3, end)},
		{bands(math.MinInt, math.MaxInt), -3, math.MinInt, math.MaxInt, bands(-end, end-3)},
		{bands(-end-9, -end+1), 9, -end, end, bands(-end+9, -end+10)},
		{bands(end-1, end+9), -9, -end, end, bands(end-10, end-9)},
		{bands(-5, 5), math.MaxInt, -end, end, bands(end-5, end)},
		{bands(-5, 5), math.MinInt, -end, end, bands(-end, -end+5)},
		{bands(-5, 5), end + 1, -end, end, bands(end-5, end)},
		{bands(0, 5), end, -end, end, nil},
		{bands(-1, 5), end, -end, end, bands(end-1, end)},
		{bands(-5, 0), -end, -end, end, nil},
		{bands(-5, 1), -end, -end, end, bands(-end, -end+1)},
		{bands(math.MinInt, math.MaxInt), math.MaxInt, math.MinInt, math.MaxInt, bands(0, end)},
		{bands(math.MinInt, math.MaxInt), math.MinInt, math.MinInt, math.MaxInt, bands(-end, 0)},
		{bands(0, 5), 0, math.MaxInt, math.MinInt, nil},
		{bands(0, 5), 0, math.MaxInt, math.MaxInt, nil},
		{bands(0, 5), 0, 2, math.MaxInt, bands(2, 5)},
		{bands(0, 5), 0, math.MinInt, 2, bands(0, 2)},
	} {
		if got := Move(c.l, c.by, c.from, c.to); !slices.Equal(got, c.want) {
			t.Errorf("Move(%v, %d, %d, %d): %v", c.l, c.by, c.from, c.to, got)
		}
	}
}

// brought is n, brought between both ends of all rows.
func brought(n int) int {
	return min(max(n, -end), end)
}

// moveHolds holds Move against what P4.2 says of each row.
func moveHolds(t *testing.T, l []api.Band, by, from, to int) {
	t.Helper()
	b, f, o := brought(by), brought(from), brought(to)
	bounds := []int{f, o}
	for _, y := range append(ends(l), -end, end) {
		bounds = append(bounds, brought(y)+b)
	}
	got := Move(l, by, from, to)
	if !holds(got, bounds, func(y int) bool { return y >= f && y < o && saysHas(l, y-b) }) {
		t.Errorf("Move(%v, %d, %d, %d): %v", l, by, from, to, got)
	}
}

func TestMoveAtAllPlaces(t *testing.T) {
	some := []int{math.MinInt, -end - 1, -end, -3, 0, 3, end, end + 1, math.MaxInt}
	for _, b := range ofAll(places) {
		for _, by := range some {
			for _, window := range ofAll(some) {
				moveHolds(t, []api.Band{b}, by, window.From, window.To)
			}
		}
	}
	for _, l := range lists(ofAll(few), 2) {
		for by := -4; by <= 4; by++ {
			for _, window := range ofAll(few) {
				moveHolds(t, l, by, window.From, window.To)
			}
		}
	}
}

func TestHeight(t *testing.T) {
	for _, c := range []struct {
		l    []api.Band
		want int
	}{
		{nil, 0}, {[]api.Band{}, 0}, {bands(4, 4), 0}, {bands(4, 2), 0}, {bands(0, 3), 3}, {bands(0, 3, 5, 9), 7},
		{bands(0, 3, 3, 5), 5}, {bands(0, 3, 2, 5), 5}, {bands(0, 9, 2, 5), 9}, {bands(2, 5, 0, 9), 9}, {bands(0, 3, 0, 3), 3},
		{bands(5, 9, 0, 3, 4, 4, 9, 7), 7}, {bands(-3, 2), 5},
		{[]api.Band{all}, 2 * end}, {bands(math.MinInt, math.MaxInt), 2 * end}, {bands(-end-1, 0), end}, {bands(0, end+1), end},
		{bands(end, end+9), 0}, {bands(math.MinInt, -end), 0}, {bands(math.MaxInt, math.MinInt), 0}, {bands(-end-9, -end+1, end-1, end+9), 2},
	} {
		if got := Height(c.l); got != c.want {
			t.Errorf("Height(%v): %d", c.l, got)
		}
	}
}

func TestHeightCountsEachRowOnce(t *testing.T) {
	for _, l := range lists(ofAll(few), 3) {
		want := 0
		for y := range 4 {
			if saysHas(l, y) {
				want++
			}
		}
		if got := Height(l); got != want {
			t.Errorf("Height(%v): %d", l, got)
		}
	}
}

func TestGoodBandsOfTheSameRowsAreTheSame(t *testing.T) {
	byRows := map[[4]bool][]api.Band{}
	for _, l := range lists(ofAll(few), 3) {
		var rows [4]bool
		for y := range rows {
			rows[y] = Has(l, y)
		}
		for _, good := range [][]api.Band{Tidy(l...), Join(l, nil), Join(nil, l), Join(l, l), Meet(l, l), Meet(l, []api.Band{all}), Less(l, nil), Less([]api.Band{all}, Less([]api.Band{all}, l)), Move(l, 0, -end, end), Move(Move(l, 5, -end, end), -5, -end, end)} {
			first, ok := byRows[rows]
			if !ok {
				byRows[rows] = good
			} else if !Good(good) || !slices.Equal(good, first) {
				t.Errorf("of %v: %v, and %v", l, good, first)
			}
		}
		if Good(l) && !slices.Equal(Tidy(l...), l) {
			t.Errorf("Tidy(%v): %v", l, Tidy(l...))
		}
	}
	// Of the four rows that may be, the last is in no band.
	if len(byRows) != 8 {
		t.Errorf("%d sets of rows", len(byRows))
	}
}

func TestWhatIsHandedInStays(t *testing.T) {
	// The spare room behind both lists is filled, so that a change of it would be seen.
	wholeA, wholeB := bands(9, 12, 4, 4, 0, 3, 2, 5, 77, 78), bands(6, 10, math.MinInt, 1, 3, 4, 88, 89)
	keptA, keptB := slices.Clone(wholeA), slices.Clone(wholeB)
	a, b := wholeA[:4], wholeB[:3]
	answers := [][]api.Band{Tidy(a...), Tidy(b...), Join(a, b), Meet(a, b), Less(a, b), Less(b, a), Move(a, 1, 0, 9), Join(a, nil), Join(nil, b), Less(a, nil)}
	Good(a)
	Has(a, 3)
	Height(a)
	for _, l := range answers {
		// Not even where an answer may be written over, or made longer, is it seen in what was handed in.
		l = l[:cap(l)]
		for i := range l {
			l[i] = api.Band{From: 55, To: 66}
		}
	}
	if !slices.Equal(wholeA, keptA) || !slices.Equal(wholeB, keptB) {
		t.Errorf("%v, %v", wholeA, wholeB)
	}
}

func TestGoodListsAreNotHandedBack(t *testing.T) {
	good, kept := bands(0, 3, 5, 9), bands(0, 3, 5, 9)
	for _, l := range [][]api.Band{Tidy(good...), Join(good, nil), Join(nil, good), Join(good, good), Meet(good, []api.Band{all}), Meet([]api.Band{all}, good), Meet(good, good), Less(good, nil), Move(good, 0, -end, end)} {
		for i := range l {
			l[i] = api.Band{}
		}
		if !slices.Equal(good, kept) {
			t.Fatalf("%v", good)
		}
	}
}

func TestManyBands(t *testing.T) {
	const many = 1 << 17
	var l []api.Band
	for i := range many {
		// An odd factor goes through all the places, each once, in no order.
		at := i * 40503 % many * 4
		l = append(l, api.Band{From: at, To: at + 2})
	}
	got := Tidy(l...)
	if len(got) != many || !Good(got) || Height(l) != 2*many {
		t.Errorf("%d bands, %d rows", len(got), Height(l))
	}
	moved := Move(l, 2, -end, end)
	if both := Join(l, moved); !slices.Equal(both, bands(0, 4*many)) {
		t.Errorf("%d bands", len(both))
	}
	if m := Meet(l, moved); len(m) != 0 {
		t.Errorf("%d bands", len(m))
	}
	if rest := Less(bands(0, 4*many), l); !slices.Equal(rest, moved) {
		t.Errorf("%d bands", len(rest))
	}
}
