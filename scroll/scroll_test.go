package scroll

import (
	"math"
	"slices"
	"testing"

	"scrivener/api"
	"scrivener/band"
)

// most is what every number is brought below.
const most = 1 << 30

// wide are numbers at which reckoning may go wrong: about 0, about a page's rows, at both ends of what numbers are brought between, and far off.
var wide = []int{
	math.MinInt, math.MinInt + 1, math.MinInt + most, math.MinInt / 2, -1 << 33, -1 << 32, -1 << 31, -most - 1, -most, -most + 1,
	-2, -1, 0, 1, 2, 8, 9, 10, 11, most/2 - 1, most / 2, most/2 + 1, most - 10, most - 9, most - 1,
	most, most + 1, most + 9, 1 << 31, 1 << 32, 1<<32 + 5, 1 << 33, math.MaxInt / 2, math.MaxInt - most, math.MaxInt - 1, math.MaxInt,
}

// some are fewer of them, for calls of many numbers.
var some = []int{
	math.MinInt, -1 << 32, -most - 1, -most, -1, 0, 1, 9, 10, 11, most/2 + 1, most - 1, most, most + 1, 1<<32 + 5, math.MaxInt,
}

// upTo are the numbers from 0 to n.
func upTo(n int) []int {
	var l []int
	for i := range n + 1 {
		l = append(l, i)
	}
	return l
}

// saysBound is what P22.1 says of all numbers.
func saysBound(n int) int {
	if n < 0 {
		return 0
	}
	if n > most {
		return most
	}
	return n
}

// saysMost and saysClamp are what P22.1 says.
func saysMost(total, high int) int {
	if n := saysBound(total) - saysBound(high); n > 0 {
		return n
	}
	return 0
}
func saysClamp(y, total, high int) int {
	if y, n := saysBound(y), saysMost(total, high); y < n {
		return y
	} else {
		return n
	}
}

// saysShift is what P22.2 says.
func saysShift(from, to, high int) (int, []api.Band) {
	high = saysBound(high)
	by := saysBound(from) - saysBound(to)
	if by == 0 || high == 0 {
		return by, nil
	}
	if by <= -high || by >= high {
		return by, []api.Band{{From: 0, To: high}}
	}
	if by < 0 {
		return by, []api.Band{{From: high + by, To: high}}
	}
	return by, []api.Band{{From: 0, To: by}}
}

// saysReveal, saysPage and saysThumb are what P22.3 says.
func saysReveal(y, top, bottom, total, high int) int {
	y, top, bottom = saysBound(y), saysBound(top), saysBound(bottom)
	h := saysBound(high)
	if top < y {
		return saysClamp(top, total, high)
	}
	if bottom <= y+h {
		return saysClamp(y, total, high)
	}
	if bottom-h < top {
		return saysClamp(bottom-h, total, high)
	}
	return saysClamp(top, total, high)
}
func saysPage(y, total, high, pages int) int {
	step := saysBound(high) - 9
	if step < 1 {
		step = 1
	}
	if pages < -most {
		pages = -most
	}
	if pages > most {
		pages = most
	}
	y = saysBound(y) + pages*step
	if y < 0 {
		y = 0
	}
	return saysClamp(y, total, high)
}
func saysThumb(y, total, high int) api.Band {
	y = saysClamp(y, total, high)
	total, high = saysBound(total), saysBound(high)
	if total <= high {
		return api.Band{From: 0, To: high}
	}
	return api.Band{From: min(high*y/total, high), To: min(high*(y+high)/total, high)}
}

// same holds what a call tells against what it should.
func same[T comparable](t *testing.T, got, want T, call string, numbers ...int) {
	t.Helper()
	if got != want {
		t.Fatalf("%s%d: %v, want %v", call, numbers, got, want)
	}
}

// shifts holds Shift against what it should tell.
func shifts(t *testing.T, from, to, high, by int, shown ...api.Band) {
	t.Helper()
	gotBy, got := Shift(from, to, high)
	if gotBy != by || !slices.Equal(got, shown) {
		t.Fatalf("Shift(%d, %d, %d): %d, %v, want %d, %v", from, to, high, gotBy, got, by, shown)
	}
	if !band.Good(got) {
		t.Fatalf("Shift(%d, %d, %d): %v are not good", from, to, high, got)
	}
}

// P22.1: how far a view may scroll.
func TestMost(t *testing.T) {
	for _, x := range []struct{ total, high, want int }{
		{0, 0, 0}, {5, 5, 0}, {4, 5, 0}, {6, 5, 1}, {0, 5, 0}, {5, 0, 5}, {100, 30, 70},
		{-1, 0, 0}, {-5, -9, 0}, {5, -9, 5}, {-5, 9, 0},
		{most, 0, most}, {most, 1, most - 1}, {most, most, 0}, {most, most - 1, 1}, {0, most, 0},
		{most + 1, 1, most - 1}, {most + 9, most + 7, 0}, {most + 9, most - 7, 7},
		{math.MaxInt, 0, most}, {math.MaxInt, math.MinInt, most}, {math.MinInt, math.MaxInt, 0}, {math.MaxInt, math.MaxInt, 0},
		{1 << 32, 5, most - 5}, {5, 1 << 32, 0}, {5, -1 << 32, 5},
	} {
		same(t, Most(x.total, x.high), x.want, "Most", x.total, x.high)
	}
}

// P22.1: a place that is brought to where a view may stand.
func TestClamp(t *testing.T) {
	for _, x := range []struct{ y, total, high, want int }{
		{-1, 100, 30, 0}, {0, 100, 30, 0}, {1, 100, 30, 1}, {69, 100, 30, 69}, {70, 100, 30, 70}, {71, 100, 30, 70}, {100, 100, 30, 70},
		{3, 30, 30, 0}, {3, 29, 30, 0}, {3, 31, 30, 1}, {3, 0, 0, 0}, {3, 9, 0, 3}, {9, 9, 0, 9}, {10, 9, 0, 9},
		{math.MinInt, 100, 30, 0}, {math.MaxInt, 100, 30, 70}, {math.MaxInt, math.MaxInt, 0, most}, {most + 1, most + 1, 0, most},
		{most, most, 1, most - 1}, {most - 1, most, 1, most - 1}, {5, math.MaxInt, math.MinInt, 5}, {5, math.MinInt, math.MaxInt, 0},
		{1 << 32, 100, 30, 70}, {-1 << 32, 100, 30, 0},
	} {
		same(t, Clamp(x.y, x.total, x.high), x.want, "Clamp", x.y, x.total, x.high)
	}
}

// P22.1: every number alone, and with every other one.
func TestClampOfAll(t *testing.T) {
	numbers := append(slices.Clone(wide), upTo(12)...)
	for _, total := range numbers {
		for _, high := range numbers {
			same(t, Most(total, high), saysMost(total, high), "Most", total, high)
			for _, y := range numbers {
				same(t, Clamp(y, total, high), saysClamp(y, total, high), "Clamp", y, total, high)
			}
		}
	}
}

// P22.2: the chapter's example, at both ends of a view, by all of it and by more.
func TestShift(t *testing.T) {
	shifts(t, 10, 13, 20, -3, api.Band{From: 17, To: 20})
	shifts(t, 13, 10, 20, 3, api.Band{From: 0, To: 3})
	shifts(t, 10, 10, 20, 0)
	shifts(t, 10, 11, 20, -1, api.Band{From: 19, To: 20})
	shifts(t, 11, 10, 20, 1, api.Band{From: 0, To: 1})
	all := api.Band{From: 0, To: 20}
	for _, x := range []struct {
		by    int
		shown api.Band
	}{{18, api.Band{From: 0, To: 18}}, {19, api.Band{From: 0, To: 19}}, {20, all}, {21, all}, {40, all}, {most - 7, all}} {
		shifts(t, 7+x.by, 7, 20, x.by, x.shown)
		shifts(t, 7, 7+x.by, 20, -x.by, api.Band{From: 20 - x.shown.To, To: 20})
	}
}

// P22.2: views of no row, and of one.
func TestShiftOfLow(t *testing.T) {
	for _, high := range []int{0, -1, -20, -most, math.MinInt} {
		shifts(t, 5, 5, high, 0)
		shifts(t, 5, 6, high, -1)
		shifts(t, 6, 5, high, 1)
		shifts(t, 0, most, high, -most)
	}
	one := api.Band{From: 0, To: 1}
	shifts(t, 5, 5, 1, 0)
	shifts(t, 5, 6, 1, -1, one)
	shifts(t, 6, 5, 1, 1, one)
	shifts(t, 6, 4, 1, 2, one)
	shifts(t, 4, 6, 1, -2, one)
}

// P22.2: numbers that are other ones till they are brought between 0 and 2^30.
func TestShiftOfSame(t *testing.T) {
	for _, x := range [][2]int{
		{-1, 0}, {0, -5}, {-3, -7}, {math.MinInt, 0}, {math.MinInt, -1}, {-1 << 32, -most},
		{most, most + 1}, {most + 5, most}, {most + 5, most + 9}, {math.MaxInt, most}, {math.MaxInt, 1 << 32},
	} {
		shifts(t, x[0], x[1], 20, 0)
		shifts(t, x[1], x[0], 20, 0)
		shifts(t, x[0], x[1], math.MaxInt, 0)
	}
}

// P22.2: what is brought between 0 and 2^30, at both ends.
func TestShiftFar(t *testing.T) {
	all := api.Band{From: 0, To: most}
	for _, high := range []int{most, most + 1, 1 << 32, math.MaxInt} {
		shifts(t, math.MaxInt, math.MinInt, high, most, all)
		shifts(t, math.MinInt, math.MaxInt, high, -most, all)
		shifts(t, most-1, 0, high, most-1, api.Band{From: 0, To: most - 1})
		shifts(t, -9, most-1, high, 1-most, api.Band{From: 1, To: most})
		shifts(t, most+9, most-1, high, 1, api.Band{From: 0, To: 1})
		shifts(t, most-1, most+9, high, -1, api.Band{From: most - 1, To: most})
	}
	shifts(t, math.MaxInt, math.MinInt, most-1, most, api.Band{From: 0, To: most - 1})
}

// P22.2: every number alone, and with every other one.
func TestShiftOfAll(t *testing.T) {
	numbers := append(slices.Clone(wide), upTo(12)...)
	for _, from := range numbers {
		for _, to := range numbers {
			for _, high := range numbers {
				by, shown := saysShift(from, to, high)
				shifts(t, from, to, high, by, shown...)
			}
		}
	}
}

// P22.2: what is told is what a view row by row tells: a row that was seen is seen by so many rows on, the others are new.
func TestShiftRowByRow(t *testing.T) {
	for _, high := range upTo(14) {
		for _, from := range upTo(30) {
			for _, to := range upTo(30) {
				by, shown := Shift(from, to, high)
				for row := -2; row < high+2; row++ {
					seen := row >= 0 && row < high
					// What stands at this row now lies so far down in all.
					ahead := to + row - from
					fresh := seen && (ahead < 0 || ahead >= high)
					same(t, band.Has(shown, row), fresh, "Shift", from, to, high, row)
					if seen && !fresh {
						same(t, ahead+by, row, "Shift", from, to, high)
					}
				}
			}
		}
	}
}

// P22.2: what is told is new memory each time.
func TestShiftOfItsOwn(t *testing.T) {
	_, a := Shift(10, 13, 20)
	_, b := Shift(10, 13, 20)
	a[0] = api.Band{From: 5, To: 6}
	if b[0] != (api.Band{From: 17, To: 20}) {
		t.Fatalf("written over: %v", b)
	}
	shifts(t, 10, 13, 20, -3, api.Band{From: 17, To: 20})
}

// P22.3: as little as possible away from where a view stands.
func TestReveal(t *testing.T) {
	for _, x := range []struct{ y, top, bottom, want int }{
		// It is seen already, at either end.
		{40, 40, 50, 40}, {40, 41, 50, 40}, {40, 50, 60, 40}, {40, 40, 60, 40}, {40, 59, 60, 40},
		// Its top is ahead.
		{40, 39, 50, 39}, {40, 0, 5, 0}, {40, 39, 59, 39}, {40, 39, 60, 39}, {40, 39, 90, 39}, {40, 0, 100, 0},
		// Its bottom is behind.
		{40, 41, 61, 41}, {40, 50, 61, 41}, {40, 60, 61, 41}, {40, 70, 80, 60}, {40, 95, 99, 79}, {40, 95, 100, 80},
		// As high as the view, one higher, one less high.
		{40, 45, 65, 45}, {40, 45, 66, 45}, {40, 45, 64, 44}, {40, 40, 61, 40}, {40, 41, 62, 41}, {40, 45, 99, 45},
		// Empty ones, and a bottom ahead of a top.
		{40, 40, 40, 40}, {40, 60, 60, 40}, {40, 61, 61, 41}, {40, 39, 39, 39}, {40, 70, 30, 40}, {40, 30, 20, 30}, {40, 90, 70, 50}, {40, 99, 0, 40},
		// At the beginning and at the end, and beyond both.
		{0, 0, 0, 0}, {0, 0, 20, 0}, {0, 0, 21, 0}, {0, 1, 21, 1}, {80, 80, 100, 80}, {80, 90, 110, 80}, {80, 100, 100, 80}, {60, 100, 101, 80},
		{60, 120, 140, 80}, {60, 99, 1000, 80}, {-5, 3, 9, 0}, {-5, -9, 9, 0}, {10, -9, 9, 0}, {10, -9, -5, 0}, {-5, 30, 40, 20}, {95, 90, 93, 80}, {95, 70, 72, 70}, {95, 97, 99, 80},
	} {
		same(t, Reveal(x.y, x.top, x.bottom, 100, 20), x.want, "Reveal", x.y, x.top, x.bottom)
	}
}

// P22.3: nothing that does not scroll moves.
func TestRevealOfLittle(t *testing.T) {
	for _, total := range []int{0, 1, 19, 20, -5, math.MinInt} {
		for _, y := range append(upTo(30), wide...) {
			for _, top := range append(upTo(30), wide...) {
				same(t, Reveal(y, top, top+5, total, 20), 0, "Reveal", y, top, total)
			}
		}
	}
	same(t, Reveal(0, 5, 21, 21, 20), 1, "Reveal")
	same(t, Reveal(0, 5, 8, 100, 0), 5, "Reveal")
	same(t, Reveal(5, 5, 5, 100, 0), 5, "Reveal")
	same(t, Reveal(4, 5, 5, 100, 0), 5, "Reveal")
}

// P22.3: every number alone, and with every other one.
func TestRevealOfAll(t *testing.T) {
	for _, y := range some {
		for _, top := range some {
			for _, bottom := range some {
				for _, total := range some {
					for _, high := range some {
						want := saysReveal(y, top, bottom, total, high)
						same(t, Reveal(y, top, bottom, total, high), want, "Reveal", y, top, bottom, total, high)
					}
				}
			}
		}
	}
}

// nearest is, of all places where what lies from top to bottom is seen, the one that is nearest to y.
func nearest(y, top, bottom, total, high int) int {
	best := -1
	for at := 0; at <= max(total-high, 0); at++ {
		if at <= top && bottom <= at+high && (best < 0 || max(at-y, y-at) < max(best-y, y-best)) {
			best = at
		}
	}
	return best
}

// P22.4: what may be seen is seen, and nothing moves more than it must.
func TestRevealShows(t *testing.T) {
	for _, total := range upTo(12) {
		for _, high := range upTo(14) {
			for _, y := range upTo(15) {
				for _, top := range upTo(total) {
					for bottom := top; bottom <= min(top+high, total); bottom++ {
						got := Reveal(y, top, bottom, total, high)
						if top < got || bottom > got+high {
							t.Fatalf("Reveal%d: %d", []int{y, top, bottom, total, high}, got)
						}
						same(t, got, nearest(y, top, bottom, total, high), "Reveal", y, top, bottom, total, high)
						same(t, Reveal(got, top, bottom, total, high), got, "Reveal", got, top, bottom, total, high)
					}
				}
			}
		}
	}
}

// P22.3, P22.4: all small numbers, those that are not in order and not within total with them.
func TestRevealOfSmall(t *testing.T) {
	for _, total := range upTo(8) {
		for _, high := range upTo(9) {
			for y := -1; y < 11; y++ {
				for top := -1; top < 11; top++ {
					for bottom := -1; bottom < 14; bottom++ {
						want := saysReveal(y, top, bottom, total, high)
						same(t, Reveal(y, top, bottom, total, high), want, "Reveal", y, top, bottom, total, high)
					}
				}
			}
		}
	}
}

// P22.3: pages both ways, and beyond both ends.
func TestPage(t *testing.T) {
	for _, x := range []struct{ y, total, high, pages, want int }{
		{50, 1000, 100, 0, 50}, {50, 1000, 100, 1, 141}, {50, 1000, 100, 2, 232}, {50, 1000, 100, -1, 0}, {91, 1000, 100, -1, 0}, {92, 1000, 100, -1, 1},
		{500, 1000, 100, -3, 227}, {500, 1000, 100, 4, 864}, {500, 1000, 100, 5, 900}, {809, 1000, 100, 1, 900}, {810, 1000, 100, 1, 900}, {808, 1000, 100, 1, 899},
		{-7, 1000, 100, 1, 91}, {5000, 1000, 100, 0, 900}, {5000, 1000, 100, -1, 900}, {5000, 9999, 100, -1, 4909},
		// A page is never less than one row.
		{5, 100, 0, 1, 6}, {5, 100, 1, 1, 6}, {5, 100, 8, 3, 8}, {5, 100, 9, 3, 8}, {5, 100, 10, 3, 8}, {5, 100, 11, 3, 11}, {5, 100, 12, 3, 14},
		{5, 100, 9, -3, 2}, {5, 100, 10, -5, 0}, {5, 100, 10, -6, 0}, {5, 100, 11, -2, 1}, {5, 100, 11, -3, 0}, {5, 100, -4, 2, 7},
		// Nothing scrolls.
		{5, 20, 20, 1, 0}, {5, 20, 30, -1, 0}, {5, 0, 0, 9, 0}, {0, 21, 20, 1, 1},
		// Far off.
		{0, most, 0, most, most}, {0, most, 0, most - 1, most - 1}, {most, most, 0, -most, 0}, {most, most, 0, 1 - most, 1}, {0, most, 0, math.MaxInt, most},
		{most, most, 0, math.MinInt, 0}, {5, 100, 20, math.MaxInt, 80}, {5, 100, 20, math.MinInt, 0}, {0, math.MaxInt, most - 1, most, 1}, {math.MaxInt, math.MaxInt, 100, -1, most - 100},
		{5, 100, 20, 1 << 32, 80}, {5, 100, 20, -1 << 32, 0}, {0, most, most / 2, 1 << 62, most / 2}, {most, most, most / 2, -1 << 62, 0},
	} {
		same(t, Page(x.y, x.total, x.high, x.pages), x.want, "Page", x.y, x.total, x.high, x.pages)
	}
}

// P22.3: every number alone, and with every other one.
func TestPageOfAll(t *testing.T) {
	numbers := append(slices.Clone(some), upTo(12)...)
	for _, y := range numbers {
		for _, total := range numbers {
			for _, high := range numbers {
				for _, pages := range append(slices.Clone(some), -3, -2, 2, 3) {
					same(t, Page(y, total, high, pages), saysPage(y, total, high, pages), "Page", y, total, high, pages)
				}
			}
		}
	}
}

// P22.3: the part of a bar, at the first place, at the last one, between and beyond, and how it is rounded.
func TestThumb(t *testing.T) {
	for _, x := range []struct{ y, total, high, from, to int }{
		{0, 100, 20, 0, 4}, {80, 100, 20, 16, 20}, {40, 100, 20, 8, 12}, {81, 100, 20, 16, 20}, {math.MaxInt, 100, 20, 16, 20}, {-1, 100, 20, 0, 4}, {math.MinInt, 100, 20, 0, 4},
		{4, 100, 20, 0, 4}, {5, 100, 20, 1, 5}, {9, 100, 20, 1, 5}, {10, 100, 20, 2, 6}, {79, 100, 20, 15, 19},
		{1, 7, 3, 0, 1}, {2, 7, 3, 0, 2}, {3, 7, 3, 1, 2}, {4, 7, 3, 1, 3}, {5, 7, 3, 1, 3},
		// All of it is seen.
		{0, 20, 20, 0, 20}, {5, 20, 20, 0, 20}, {5, 19, 20, 0, 20}, {5, 0, 20, 0, 20}, {5, -9, 20, 0, 20}, {0, 21, 20, 0, 19}, {1, 21, 20, 0, 20}, {9, 21, 20, 0, 20},
		// Nothing is.
		{0, 0, 0, 0, 0}, {5, 100, 0, 0, 0}, {5, 100, -3, 0, 0}, {5, -3, -3, 0, 0}, {100, 100, 0, 0, 0},
		// Far more than is seen.
		{0, most, 20, 0, 0}, {most / 2, most, 20, 10, 10}, {most, most, 20, 19, 20}, {most, most, 1, 0, 1}, {most - 2, most, 1, 0, 0}, {math.MaxInt, math.MaxInt, 20, 19, 20},
		{0, most, most, 0, most}, {9, most + 1, most, 0, most}, {9, math.MaxInt, math.MaxInt, 0, most}, {9, most - 1, math.MaxInt, 0, most},
		{0, most, most - 1, 0, most - 2}, {1, most, most - 1, 0, most - 1}, {0, 1 << 32, most / 2, 0, most / 4}, {most / 2, most, most / 2, most / 4, most / 2},
	} {
		same(t, Thumb(x.y, x.total, x.high), api.Band{From: x.from, To: x.to}, "Thumb", x.y, x.total, x.high)
	}
}

// P22.3: every number alone, and with every other one; a part lies within the bar.
func TestThumbOfAll(t *testing.T) {
	numbers := append(slices.Clone(wide), upTo(40)...)
	for _, y := range numbers {
		for _, total := range numbers {
			for _, high := range numbers {
				got := Thumb(y, total, high)
				same(t, got, saysThumb(y, total, high), "Thumb", y, total, high)
				if got.From < 0 || got.To < got.From || got.To > saysBound(high) {
					t.Fatalf("Thumb%d: %v", []int{y, total, high}, got)
				}
			}
		}
	}
}

// P22.3, P22.4: at the greatest numbers nothing wraps round: what is seen behind Reveal, there too.
func TestRevealFar(t *testing.T) {
	for _, high := range []int{1, 20, most / 2, most - 1, most} {
		for _, top := range []int{0, 1, most / 2, most - 20, most - 1, most} {
			for _, n := range []int{0, 1, 20, high} {
				bottom := min(top+min(n, high), most)
				for _, y := range wide {
					at := Reveal(y, top, bottom, most, high)
					if at > top || bottom > at+high || at < 0 || at > most-high {
						t.Fatalf("Reveal%d: %d", []int{y, top, bottom, most, high}, at)
					}
				}
			}
		}
	}
}
