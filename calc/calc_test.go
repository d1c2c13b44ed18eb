package calc

import (
	"math"
	"math/big"
	"strconv"
	"strings"
	"testing"
)

// edges are numbers at which reckoning may go wrong: about 0, about tab stops, at both ends.
var edges = []int{
	math.MinInt, math.MinInt + 1, math.MinInt + 2, math.MinInt / 2, -1 << 30, -97, -96, -49, -48, -47, -10, -9, -3, -2, -1,
	0, 1, 2, 3, 9, 10, 47, 48, 49, 96, 97, 1 << 30, math.MaxInt / 2, math.MaxInt/2 + 1, math.MaxInt - 2, math.MaxInt - 1, math.MaxInt,
}

func TestClamp(t *testing.T) {
	for _, x := range []struct{ n, low, high, want int }{
		{5, 1, 9, 5}, {1, 1, 9, 1}, {2, 1, 9, 2}, {8, 1, 9, 8}, {9, 1, 9, 9},
		{0, 1, 9, 1}, {10, 1, 9, 9}, {-5, -3, -1, -3}, {5, 5, 5, 5}, {4, 5, 5, 5}, {6, 5, 5, 5},
		{math.MinInt, -1, 1, -1}, {math.MaxInt, -1, 1, 1},
		{7, math.MinInt, math.MaxInt, 7}, {math.MinInt, math.MinInt, math.MaxInt, math.MinInt}, {math.MaxInt, math.MinInt, math.MaxInt, math.MaxInt},
	} {
		if n := Clamp(x.n, x.low, x.high); n != x.want {
			t.Errorf("Clamp(%d, %d, %d): %d, not %d", x.n, x.low, x.high, n, x.want)
		}
	}
}

func TestClampLowAboveHigh(t *testing.T) {
	for _, n := range edges {
		if k := Clamp(n, 9, 1); k != 9 {
			t.Errorf("Clamp(%d, 9, 1): %d", n, k)
		}
		if k := Clamp(n, math.MaxInt, math.MinInt); k != math.MaxInt {
			t.Errorf("Clamp(%d, greatest, least): %d", n, k)
		}
	}
}

func TestFloorAndMod(t *testing.T) {
	for _, x := range []struct{ n, d, floor, mod int }{
		{7, 2, 3, 1}, {-7, 2, -4, 1}, {8, 2, 4, 0}, {-8, 2, -4, 0}, {0, 5, 0, 0},
		{1, 48, 0, 1}, {-1, 48, -1, 47}, {7, 1, 7, 0}, {-7, 1, -7, 0},
		{math.MinInt, 1, math.MinInt, 0}, {math.MaxInt, 1, math.MaxInt, 0},
		{math.MinInt, 2, math.MinInt / 2, 0}, {math.MaxInt, 2, math.MaxInt / 2, 1},
		{math.MinInt, math.MaxInt, -2, math.MaxInt - 1}, {-1, math.MaxInt, -1, math.MaxInt - 1},
		{math.MaxInt, math.MaxInt, 1, 0}, {math.MaxInt - 1, math.MaxInt, 0, math.MaxInt - 1},
	} {
		if q, m := Floor(x.n, x.d), Mod(x.n, x.d); q != x.floor || m != x.mod {
			t.Errorf("%d by %d: %d, %d, not %d, %d", x.n, x.d, q, m, x.floor, x.mod)
		}
	}
}

func TestFloorAndModOfNoDivisor(t *testing.T) {
	for _, n := range edges {
		for _, d := range []int{0, -1, -2, -48, math.MinInt + 1, math.MinInt} {
			if q, m := Floor(n, d), Mod(n, d); q != 0 || m != 0 {
				t.Errorf("%d by %d: %d, %d", n, d, q, m)
			}
		}
	}
}

// P1.3, in numbers without bounds: a product that wraps round would hide a wrong Floor.
func TestFloorAndModMakeN(t *testing.T) {
	check := func(n, d int) {
		q, m := Floor(n, d), Mod(n, d)
		if m < 0 || m >= d {
			t.Errorf("Mod(%d, %d): %d", n, d, m)
		}
		sum := new(big.Int).Mul(big.NewInt(int64(q)), big.NewInt(int64(d)))
		sum.Add(sum, big.NewInt(int64(m)))
		if sum.Cmp(big.NewInt(int64(n))) != 0 {
			t.Errorf("%d by %d: %d, %d make %s", n, d, q, m, sum)
		}
	}
	for _, n := range edges {
		for _, d := range edges {
			if d > 0 {
				check(n, d)
			}
		}
	}
	for n := -200; n <= 200; n++ {
		for d := 1; d <= 60; d++ {
			check(n, d)
		}
	}
}

func TestNext(t *testing.T) {
	for _, x := range []struct{ n, step, want int }{
		{0, 48, 48}, {1, 48, 48}, {47, 48, 48}, {48, 48, 96}, {49, 48, 96},
		{-1, 48, 0}, {-48, 48, 0}, {-49, 48, -48}, {5, 1, 6}, {-1, 1, 0},
		{math.MinInt, 1, math.MinInt + 1}, {math.MinInt, 2, math.MinInt + 2}, {math.MinInt, math.MaxInt, -math.MaxInt},
		{0, math.MaxInt, math.MaxInt}, {math.MaxInt - 1, math.MaxInt, math.MaxInt}, {math.MaxInt - 1, 1, math.MaxInt},
	} {
		if n := Next(x.n, x.step); n != x.want {
			t.Errorf("Next(%d, %d): %d, not %d", x.n, x.step, n, x.want)
		}
	}
}

func TestNextIsNone(t *testing.T) {
	for _, n := range edges {
		for _, step := range []int{0, -1, -48, math.MinInt} {
			if k := Next(n, step); k != n {
				t.Errorf("Next(%d, %d): %d", n, step, k)
			}
		}
	}
	for _, step := range edges {
		if n := Next(math.MaxInt, step); n != math.MaxInt {
			t.Errorf("Next(greatest, %d): %d", step, n)
		}
	}
	if n := Next(math.MaxInt-1, 2); n != math.MaxInt-1 {
		t.Error(n)
	}
}

// nextBig is Next as its words say it, in numbers without bounds.
func nextBig(n, step int) int {
	d := big.NewInt(int64(step))
	k := new(big.Int).Div(big.NewInt(int64(n)), d)
	k.Add(k, big.NewInt(1)).Mul(k, d)
	if !k.IsInt64() || k.Int64() > math.MaxInt {
		return n
	}
	return int(k.Int64())
}

func TestNextIsLeastMultiple(t *testing.T) {
	for _, n := range edges {
		for _, step := range edges {
			if step <= 0 {
				continue
			}
			if k, want := Next(n, step), nextBig(n, step); k != want {
				t.Errorf("Next(%d, %d): %d, not %d", n, step, k, want)
			}
		}
	}
}

func TestSpan(t *testing.T) {
	for _, x := range [][3]int{
		{2, 3, 5}, {0, 5, 5}, {0, 0, 5}, {5, 0, 5}, {2, 1, 5}, {0, 0, 0},
		{0, math.MaxInt, math.MaxInt}, {math.MaxInt, 0, math.MaxInt}, {1, math.MaxInt - 1, math.MaxInt},
	} {
		if from, to, ok := Span(x[0], x[1], x[2]); from != x[0] || to != x[0]+x[1] || !ok {
			t.Errorf("Span(%d, %d, %d): %d, %d, %t", x[0], x[1], x[2], from, to, ok)
		}
	}
}

func TestSpanIsNone(t *testing.T) {
	for _, x := range [][3]int{
		{2, 4, 5}, {5, 1, 5}, {6, 0, 5}, {6, -1, 5}, {-1, 1, 5}, {-1, 0, 5}, {1, -1, 5}, {0, 6, 5}, {0, 1, 0},
		{0, 0, -1}, {-1, 0, -1}, {-2, 1, -1}, {0, -1, -1},
		{1, math.MaxInt, 5}, {1, math.MaxInt, math.MaxInt}, {math.MaxInt, 1, math.MaxInt}, {math.MaxInt, math.MaxInt, math.MaxInt},
		{math.MinInt, math.MaxInt, 5}, {math.MinInt, math.MinInt, 5}, {1, math.MinInt, 5}, {0, 0, math.MinInt}, {math.MaxInt, 0, math.MinInt}, {math.MinInt, 0, math.MinInt},
	} {
		if from, to, ok := Span(x[0], x[1], x[2]); from != 0 || to != 0 || ok {
			t.Errorf("Span(%d, %d, %d): %d, %d, %t", x[0], x[1], x[2], from, to, ok)
		}
	}
}

func TestDigits(t *testing.T) {
	for n, want := range map[int]int{
		0: 1, 1: 1, 9: 1, 10: 2, 99: 2, 100: 3, 999: 3, 1000: 4,
		-1: 1, -9: 1, -10: 2, -99: 2, -100: 3,
	} {
		if k := Digits(n); k != want {
			t.Errorf("Digits(%d): %d, not %d", n, k, want)
		}
	}
}

func TestDigitsAreThoseThatAreWritten(t *testing.T) {
	check := func(n int) {
		if k, want := Digits(n), len(strings.TrimPrefix(strconv.Itoa(n), "-")); k != want {
			t.Errorf("Digits(%d): %d, not %d", n, k, want)
		}
	}
	for _, n := range edges {
		check(n)
	}
	for n := 1; n <= math.MaxInt/10; n *= 10 {
		for _, k := range []int{n - 1, n, n + 1} {
			check(k)
			check(-k)
		}
	}
}
