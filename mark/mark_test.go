package mark

import (
	"math"
	"math/big"
	"slices"
	"strings"
	"testing"

	"scrivener/api"
)

const most = 1 << 24

// strange are numbers that neither a place nor an edit may have: just beyond, far off, and such that sums of them wrap round.
var strange = []int{
	-1, -2, -most, -1 << 31, 1 - 1<<32, -1 << 32, math.MinInt / 2, math.MinInt + 5, math.MinInt + 1, math.MinInt,
	most + 1, most + 2, 2 * most, 1 << 31, 1 << 32, 1<<32 + 1, math.MaxInt / 2, math.MaxInt/2 + 1, math.MaxInt - 5, math.MaxInt - 1, math.MaxInt,
}

// few are numbers at both ends of what is good, some between them, and some strange ones.
var few = []int{
	math.MinInt, math.MinInt + 1, -1 << 32, -most, -2, -1, 0, 1, 2, 3, most / 2, most/2 + 1, most - 2, most - 1, most,
	most + 1, most + 2, 1 << 32, 1<<32 + 1, math.MaxInt - 1, math.MaxInt,
}

// eachEdit calls do with each edit whose numbers are from 0 to n.
func eachEdit(n int, do func(e api.Edit)) {
	for at := range n + 1 {
		for out := range n + 1 {
			for in := range n + 1 {
				do(api.Edit{At: at, Out: out, In: in})
			}
		}
	}
}

// P13.1, P13.2: the limit upon which the edges below stand.
func TestLimit(t *testing.T) {
	if api.MaxText != most {
		t.Error(api.MaxText)
	}
}

// P13.1: Good and Len at each edge, and one beyond.
func TestGoodAndLenByHand(t *testing.T) {
	for _, c := range []struct {
		e    api.Edit
		n    int
		good bool
		len  int
	}{
		{api.Edit{At: 2, Out: 3, In: 4}, 9, true, 10}, {api.Edit{At: 2, Out: 3, In: 1}, 9, true, 7}, {api.Edit{At: 2, Out: 3, In: 3}, 9, true, 9},
		{api.Edit{}, 0, true, 0}, {api.Edit{}, -1, false, -1}, {api.Edit{}, most, true, most}, {api.Edit{}, most + 1, false, most + 1},
		{api.Edit{At: 0, In: 1}, 5, true, 6}, {api.Edit{At: -1, In: 1}, 5, false, 5}, {api.Edit{At: 5, In: 1}, 5, true, 6}, {api.Edit{At: 6, In: 1}, 5, false, 5},
		{api.Edit{At: 2, Out: 0}, 5, true, 5}, {api.Edit{At: 2, Out: -1}, 5, false, 5}, {api.Edit{At: 2, Out: 3}, 5, true, 2}, {api.Edit{At: 2, Out: 4}, 5, false, 5},
		{api.Edit{At: 0, Out: 5}, 5, true, 0}, {api.Edit{At: 0, Out: 6}, 5, false, 5}, {api.Edit{At: 5, Out: 0}, 5, true, 5}, {api.Edit{At: 5, Out: 1}, 5, false, 5},
		{api.Edit{At: 2, Out: 3, In: 0}, 9, true, 6}, {api.Edit{At: 2, Out: 3, In: -1}, 9, false, 9},
		{api.Edit{At: 2, Out: 3, In: most - 6}, 9, true, most}, {api.Edit{At: 2, Out: 3, In: most - 5}, 9, false, 9},
		{api.Edit{In: most}, 0, true, most}, {api.Edit{In: most + 1}, 0, false, 0}, {api.Edit{Out: most, In: most}, most, true, most}, {api.Edit{Out: most, In: most + 1}, most, false, most},
		{api.Edit{At: most}, most, true, most}, {api.Edit{At: most + 1}, most, false, most}, {api.Edit{At: most, In: 1}, most, false, most}, {api.Edit{At: most - 1, Out: 1, In: 1}, most, true, most},
		{api.Edit{At: most - 1, Out: 1, In: 2}, most, false, most}, {api.Edit{At: most - 1, Out: 2}, most, false, most}, {api.Edit{At: most / 2, In: most / 2}, most / 2, true, most}, {api.Edit{In: most / 2}, most/2 + 1, false, most/2 + 1},
		{api.Edit{At: math.MinInt, Out: math.MinInt, In: math.MinInt}, math.MinInt, false, math.MinInt}, {api.Edit{At: math.MaxInt, Out: math.MaxInt, In: math.MaxInt}, math.MaxInt, false, math.MaxInt},
		{api.Edit{At: 1, Out: math.MaxInt}, 5, false, 5}, {api.Edit{At: math.MinInt, Out: math.MaxInt}, 5, false, 5}, {api.Edit{In: math.MaxInt}, 5, false, 5}, {api.Edit{Out: math.MinInt}, 5, false, 5},
	} {
		if good, n := Good(c.e, c.n), Len(c.n, c.e); good != c.good || n != c.len {
			t.Errorf("%v of %d bytes: %t, %d, not %t, %d", c.e, c.n, good, n, c.good, c.len)
		}
	}
}

// sum is what numbers make together, without bounds.
func sum(l ...int) *big.Int {
	s := new(big.Int)
	for _, n := range l {
		s.Add(s, big.NewInt(int64(n)))
	}
	return s
}

// goodBig is Good as its words say it, in numbers without bounds: At, Out and what stands behind both are the n bytes, and what is left has In more.
func goodBig(e api.Edit, n int) bool {
	if n < 0 || n > most || e.At < 0 || e.Out < 0 || e.In < 0 {
		return false
	}
	return sum(e.At, e.Out).Cmp(sum(n)) <= 0 && sum(n, e.In).Cmp(sum(most, e.Out)) <= 0
}

// P13.1: Good and Len, of numbers of all kinds beside one another.
func TestGoodAndLenOfAllKinds(t *testing.T) {
	for _, n := range few {
		for _, at := range few {
			for _, out := range few {
				for _, in := range few {
					e := api.Edit{At: at, Out: out, In: in}
					good, want := goodBig(e, n), n
					if good {
						want = n - out + in
					}
					if Good(e, n) != good || Len(n, e) != want {
						t.Fatalf("%v of %d bytes: %t, %d, not %t, %d", e, n, Good(e, n), Len(n, e), good, want)
					}
				}
			}
		}
	}
}

// P13.1: Back turns Out and In of any edit, and leads back.
func TestBack(t *testing.T) {
	for _, at := range few {
		for _, out := range few {
			for _, in := range few {
				e, want := api.Edit{At: at, Out: out, In: in}, api.Edit{At: at, Out: in, In: out}
				if Back(e) != want || Back(Back(e)) != e {
					t.Fatalf("Back(%v): %v", e, Back(e))
				}
			}
		}
	}
	for n := range 7 {
		eachEdit(7, func(e api.Edit) {
			if Good(e, n) && (!Good(Back(e), Len(n, e)) || Len(Len(n, e), Back(e)) != n) {
				t.Fatalf("Back(%v): %v, of %d bytes", e, Back(e), n)
			}
		})
	}
}

// P13.2: Right and Left, as they stand.
func TestRightAndLeftByHand(t *testing.T) {
	for _, c := range []struct {
		p           int
		e           api.Edit
		right, left int
	}{
		{5, api.Edit{At: 5, Out: 0, In: 3}, 8, 5}, {4, api.Edit{At: 5, Out: 0, In: 3}, 4, 4}, {6, api.Edit{At: 5, Out: 0, In: 3}, 9, 9},
		{4, api.Edit{At: 5, Out: 4, In: 3}, 4, 4}, {5, api.Edit{At: 5, Out: 4, In: 3}, 5, 5}, {6, api.Edit{At: 5, Out: 4, In: 3}, 8, 5}, {8, api.Edit{At: 5, Out: 4, In: 3}, 8, 5},
		{9, api.Edit{At: 5, Out: 4, In: 3}, 8, 5}, {10, api.Edit{At: 5, Out: 4, In: 3}, 9, 9}, {20, api.Edit{At: 5, Out: 4, In: 3}, 19, 19},
		{4, api.Edit{At: 5, Out: 4}, 4, 4}, {5, api.Edit{At: 5, Out: 4}, 5, 5}, {6, api.Edit{At: 5, Out: 4}, 5, 5}, {8, api.Edit{At: 5, Out: 4}, 5, 5}, {9, api.Edit{At: 5, Out: 4}, 5, 5}, {10, api.Edit{At: 5, Out: 4}, 6, 6},
		{4, api.Edit{At: 5}, 4, 4}, {5, api.Edit{At: 5}, 5, 5}, {6, api.Edit{At: 5}, 6, 6}, {0, api.Edit{}, 0, 0}, {1, api.Edit{}, 1, 1},
		{0, api.Edit{In: 2}, 2, 0}, {0, api.Edit{Out: 1, In: 2}, 0, 0}, {1, api.Edit{Out: 1, In: 2}, 2, 0}, {1, api.Edit{Out: 2, In: 7}, 7, 0}, {2, api.Edit{Out: 1, In: 2}, 3, 3},
		{most, api.Edit{In: most}, 2 * most, 2 * most}, {most, api.Edit{At: most, In: most}, 2 * most, most}, {most, api.Edit{Out: most, In: most}, most, 0}, {most, api.Edit{Out: most}, 0, 0},
		{most, api.Edit{At: most, Out: most, In: most}, most, most}, {most, api.Edit{At: most - 1, Out: most, In: most}, 2*most - 1, most - 1}, {most - 1, api.Edit{At: most, In: 5}, most - 1, most - 1}, {most, api.Edit{At: most - 1, Out: 1, In: 5}, most + 4, most - 1},
		{0, api.Edit{At: most, Out: most, In: most}, 0, 0}, {1, api.Edit{Out: most, In: most}, most, 0},
	} {
		if right, left := Right(c.p, c.e), Left(c.p, c.e); right != c.right || left != c.left {
			t.Errorf("%d behind %v: Right %d, Left %d, not %d, %d", c.p, c.e, right, left, c.right, c.left)
		}
	}
}

// behind is where p is behind e, byte by byte: how many of the bytes ahead of it are left, and what comes, if that is ahead of it.
func behind(p int, e api.Edit, ahead bool) int {
	n := 0
	for i := range p {
		if i < e.At || i >= e.At+e.Out {
			n++
		}
	}
	if ahead {
		n += e.In
	}
	return n
}

// P13.2: Right and Left of all small places and edits, byte by byte.
func TestRightAndLeftByteByByte(t *testing.T) {
	eachEdit(7, func(e api.Edit) {
		for p := range 18 {
			// At At itself what comes is ahead only where nothing goes: else the byte that goes keeps p from it.
			if want := behind(p, e, p > e.At || p == e.At && e.Out == 0); Right(p, e) != want {
				t.Errorf("Right(%d, %v): %d, not %d", p, e, Right(p, e), want)
			}
			if want := behind(p, e, p > e.At+e.Out); Left(p, e) != want {
				t.Errorf("Left(%d, %v): %d, not %d", p, e, Left(p, e), want)
			}
		}
	})
}

// stays tells whether neither Right nor Left moves p.
func stays(t *testing.T, p int, e api.Edit) {
	t.Helper()
	if Right(p, e) != p || Left(p, e) != p {
		t.Errorf("%d behind %v: Right %d, Left %d", p, e, Right(p, e), Left(p, e))
	}
}

// P13.2: one number that is none, and all stays; the others are such that it would move.
func TestRightAndLeftOfOneStrangeNumber(t *testing.T) {
	for _, e := range []api.Edit{{At: 3, In: 4}, {At: 3, Out: 2}, {At: 3, Out: 2, In: 4}, {In: most}, {Out: 9, In: 1}, {At: 9, Out: most, In: 1}} {
		for _, p := range []int{4, 9, 12, most - 1, most} {
			for _, x := range strange {
				stays(t, x, e)
				stays(t, p, api.Edit{At: x, Out: e.Out, In: e.In})
				stays(t, p, api.Edit{At: e.At, Out: x, In: e.In})
				stays(t, p, api.Edit{At: e.At, Out: e.Out, In: x})
			}
		}
	}
}

// P13.2: numbers of all kinds beside one another: where one is none, all stays; else no place is told below 0, or Left's behind Right's.
func TestRightAndLeftOfAllKinds(t *testing.T) {
	good := func(n int) bool { return n >= 0 && n <= most }
	for _, p := range few {
		for _, at := range few {
			for _, out := range few {
				for _, in := range few {
					e := api.Edit{At: at, Out: out, In: in}
					if !good(p) || !good(at) || !good(out) || !good(in) {
						stays(t, p, e)
					} else if right, left := Right(p, e), Left(p, e); left < 0 || left > right || right > p+in {
						t.Errorf("%d behind %v: Right %d, Left %d", p, e, right, left)
					}
				}
			}
		}
	}
}

// isSpan holds what Span tells against what it is to be: one that is left, or the zero one.
func isSpan(t *testing.T, s api.Span, e api.Edit, want api.Span) {
	t.Helper()
	if got, ok := Span(s, e); got != want || ok != (want != api.Span{}) {
		t.Errorf("Span(%v, %v): %v, %t, not %v", s, e, got, ok, want)
	}
}

// P13.3: Span, as it stands.
func TestSpanByHand(t *testing.T) {
	e, in, out := api.Edit{At: 10, Out: 5, In: 3}, api.Edit{At: 10, In: 3}, api.Edit{At: 10, Out: 5}
	for _, c := range []struct {
		s    api.Span
		e    api.Edit
		want api.Span
	}{
		{api.Span{From: 2, To: 6}, e, api.Span{From: 2, To: 6}}, {api.Span{From: 2, To: 10}, e, api.Span{From: 2, To: 10}}, {api.Span{From: 20, To: 24}, e, api.Span{From: 18, To: 22}}, {api.Span{From: 15, To: 19}, e, api.Span{From: 13, To: 17}},
		{api.Span{From: 8, To: 20}, e, api.Span{From: 8, To: 18}}, {api.Span{From: 10, To: 20}, e, api.Span{From: 10, To: 18}}, {api.Span{From: 9, To: 16}, e, api.Span{From: 9, To: 14}}, {api.Span{From: 9, To: 15}, e, api.Span{From: 9, To: 10}},
		{api.Span{From: 11, To: 14}, e, api.Span{}}, {api.Span{From: 10, To: 15}, e, api.Span{}}, {api.Span{From: 10, To: 14}, e, api.Span{}}, {api.Span{From: 11, To: 15}, e, api.Span{}},
		{api.Span{From: 7, To: 12}, e, api.Span{From: 7, To: 10}}, {api.Span{From: 12, To: 19}, e, api.Span{From: 13, To: 17}}, {api.Span{From: 14, To: 16}, e, api.Span{From: 13, To: 14}}, {api.Span{From: 9, To: 11}, e, api.Span{From: 9, To: 10}},
		{api.Span{From: 8, To: 12}, in, api.Span{From: 8, To: 15}}, {api.Span{From: 8, To: 10}, in, api.Span{From: 8, To: 10}}, {api.Span{From: 10, To: 12}, in, api.Span{From: 13, To: 15}}, {api.Span{From: 11, To: 12}, in, api.Span{From: 14, To: 15}},
		{api.Span{From: 8, To: 20}, out, api.Span{From: 8, To: 15}}, {api.Span{From: 10, To: 16}, out, api.Span{From: 10, To: 11}}, {api.Span{From: 10, To: 15}, out, api.Span{}}, {api.Span{From: 12, To: 17}, out, api.Span{From: 10, To: 12}}, {api.Span{From: 8, To: 12}, out, api.Span{From: 8, To: 10}},
		{api.Span{From: 0, To: 5}, api.Edit{Out: 5}, api.Span{}}, {api.Span{From: 0, To: 6}, api.Edit{Out: 5}, api.Span{From: 0, To: 1}}, {api.Span{From: 0, To: most}, api.Edit{Out: most, In: most}, api.Span{}}, {api.Span{From: 0, To: most}, api.Edit{In: most}, api.Span{From: most, To: 2 * most}},
		{api.Span{From: 4, To: 4}, e, api.Span{}}, {api.Span{From: 20, To: 20}, e, api.Span{}}, {api.Span{From: 10, To: 10}, in, api.Span{}}, {api.Span{From: 6, To: 2}, e, api.Span{}}, {api.Span{From: 24, To: 20}, e, api.Span{}}, {api.Span{From: 20, To: 2}, e, api.Span{}}, {api.Span{}, e, api.Span{}},
	} {
		isSpan(t, c.s, c.e, c.want)
	}
}

// within is what of the text lies in s behind e, told by the text ahead of it: the bytes that are left, and what comes, where it lies neither ahead of them nor behind.
func within(b string, s api.Span, e api.Edit, in string) string {
	cut := func(from, to int) string { return b[max(from, s.From):max(min(to, s.To), from, s.From)] }
	if s.To <= e.At+e.Out || s.From > e.At || s.From == e.At && e.Out == 0 {
		in = ""
	}
	return cut(0, e.At) + in + cut(e.At+e.Out, len(b))
}

// P13.3: all spans of a text, of which the bytes themselves are looked at behind each edit.
func TestSpanByteByByte(t *testing.T) {
	const b = "abcdefgh"
	eachEdit(len(b), func(e api.Edit) {
		if !Good(e, len(b)) || e.In > 3 {
			return
		}
		in := strings.Repeat("+", e.In)
		edited := b[:e.At] + in + b[e.At+e.Out:]
		for from := range len(b) {
			for to := from + 1; to <= len(b); to++ {
				s := api.Span{From: from, To: to}
				got, ok := Span(s, e)
				want := within(b, s, e, in)
				if ok != (want != "") || edited[got.From:got.To] != want {
					t.Errorf("Span(%v, %v): %v, %t: %q of %q, not %q", s, e, got, ok, edited[got.From:got.To], edited, want)
				}
			}
		}
	})
}

// P13.3: spans that are none, or have one end that is, and edits that are none.
func TestSpanOfStrangeNumbers(t *testing.T) {
	e := api.Edit{At: 3, Out: 2, In: 4}
	for _, x := range strange {
		if x < 0 {
			isSpan(t, api.Span{From: x, To: 9}, e, api.Span{From: x, To: 11})
			isSpan(t, api.Span{From: 9, To: x}, e, api.Span{})
		} else {
			isSpan(t, api.Span{From: 9, To: x}, e, api.Span{From: 11, To: x})
			isSpan(t, api.Span{From: x, To: 9}, e, api.Span{})
		}
		isSpan(t, api.Span{From: x, To: x}, e, api.Span{})
		for _, none := range []api.Edit{{At: x, Out: 2, In: 4}, {At: 3, Out: x, In: 4}, {At: 3, Out: 2, In: x}, {At: x, Out: x, In: x}} {
			isSpan(t, api.Span{From: 4, To: 9}, none, api.Span{From: 4, To: 9})
			isSpan(t, api.Span{From: 3, To: 5}, none, api.Span{From: 3, To: 5})
			isSpan(t, api.Span{From: 9, To: 4}, none, api.Span{})
			isSpan(t, api.Span{From: 4, To: 4}, none, api.Span{})
		}
	}
	for _, x := range few {
		for _, y := range few {
			want := api.Span{From: Right(x, e), To: Left(y, e)}
			if want.To <= want.From {
				want = api.Span{}
			}
			isSpan(t, api.Span{From: x, To: y}, e, want)
		}
	}
	isSpan(t, api.Span{From: most + 1, To: most}, api.Edit{In: most}, api.Span{From: most + 1, To: 2 * most})
}

// P13.3: All, of none, of some that go, of all that go, in any order.
func TestAllByHand(t *testing.T) {
	e := api.Edit{At: 10, Out: 5, In: 3}
	for _, c := range []struct{ l, want []api.Span }{
		{nil, nil}, {[]api.Span{}, nil},
		{[]api.Span{{From: 2, To: 6}, {From: 11, To: 14}, {From: 20, To: 24}}, []api.Span{{From: 2, To: 6}, {From: 18, To: 22}}},
		{[]api.Span{{From: 20, To: 24}, {From: 12, To: 19}, {From: 20, To: 24}, {From: 2, To: 6}}, []api.Span{{From: 18, To: 22}, {From: 13, To: 17}, {From: 18, To: 22}, {From: 2, To: 6}}},
		{[]api.Span{{From: 10, To: 15}, {From: 11, To: 12}, {From: 6, To: 2}, {}}, nil},
		{[]api.Span{{From: 10, To: 15}, {From: 2, To: 3}}, []api.Span{{From: 2, To: 3}}}, {[]api.Span{{From: 2, To: 3}, {From: 10, To: 15}}, []api.Span{{From: 2, To: 3}}},
		{[]api.Span{{From: 2, To: 3}}, []api.Span{{From: 2, To: 3}}}, {[]api.Span{{From: 14, To: 15}}, nil},
		{[]api.Span{{From: math.MinInt, To: math.MaxInt}, {From: math.MaxInt, To: math.MinInt}, {From: -1, To: 20}}, []api.Span{{From: math.MinInt, To: math.MaxInt}, {From: -1, To: 18}}},
	} {
		if got := All(c.l, e); !slices.Equal(got, c.want) {
			t.Errorf("All(%v): %v, not %v", c.l, got, c.want)
		}
	}
}

// P13.3: All of all small spans at once is Span of each, also behind edits that are none.
func TestAllIsSpanOfEach(t *testing.T) {
	var l []api.Span
	for from := -1; from < 9; from++ {
		for to := -1; to < 9; to++ {
			l = append(l, api.Span{From: from, To: to})
		}
	}
	check := func(e api.Edit) {
		var want []api.Span
		for _, s := range l {
			if got, ok := Span(s, e); ok {
				want = append(want, got)
			}
		}
		if got := All(l, e); !slices.Equal(got, want) {
			t.Errorf("All behind %v: %v, not %v", e, got, want)
		}
	}
	eachEdit(5, check)
	for _, x := range strange {
		check(api.Edit{At: x, Out: 1, In: 2})
		check(api.Edit{At: 1, Out: x, In: 2})
		check(api.Edit{At: 1, Out: 2, In: x})
	}
}

// Memory: what is handed to All stays as it was, its spare room included, and what All hands out is apart from it and from what it hands out again.
func TestAllKeepsItsMemoryApart(t *testing.T) {
	for _, e := range []api.Edit{{}, {At: 10, Out: 5, In: 3}, {Out: 4}, {Out: 60}, {At: -1, In: 2}} {
		whole := []api.Span{{From: 12, To: 13}, {From: 2, To: 6}, {From: 11, To: 20}, {From: 20, To: 24}, {From: 30, To: 40}, {From: 50, To: 60}}
		was := slices.Clone(whole)
		first, again := All(whole[:4], e), All(whole[:4], e)
		want := slices.Clone(again)
		if !slices.Equal(whole, was) {
			t.Errorf("All behind %v makes %v of what it was handed", e, whole)
		}
		overwrite(first)
		if !slices.Equal(whole, was) || !slices.Equal(again, want) {
			t.Errorf("All behind %v hands out what it was handed, or what it hands out again", e)
		}
		overwrite(whole)
		if !slices.Equal(again, want) {
			t.Errorf("All behind %v hands out what it was handed", e)
		}
	}
}

// overwrite makes others of all spans of l, and of those in its spare room.
func overwrite(l []api.Span) {
	l = l[:cap(l)]
	for i := range l {
		l[i] = api.Span{From: -7, To: -7}
	}
}

// P13.4: a span that lies ahead of At, or behind At + Out, keeps its length, and its place upon the bytes.
func TestWhatIsNotTouchedStaysAsLong(t *testing.T) {
	check := func(e api.Edit, long int) {
		t.Helper()
		for gap := range 3 {
			if from := e.At - gap - long; from >= 0 {
				s := api.Span{From: from, To: from + long}
				isSpan(t, s, e, s)
			}
			if from := e.At + e.Out + gap; from+long <= most {
				isSpan(t, api.Span{From: from, To: from + long}, e, api.Span{From: e.At + e.In + gap, To: e.At + e.In + gap + long})
			}
		}
	}
	eachEdit(8, func(e api.Edit) {
		for long := 1; long < 9; long++ {
			check(e, long)
		}
	})
	for _, n := range []int{1, 2, most / 2, most - 9, most - 1, most} {
		for _, long := range []int{1, 2, 5, most / 2, most - 9, most - 3} {
			check(api.Edit{At: n}, long)
			check(api.Edit{At: n, In: n}, long)
			check(api.Edit{At: n / 2, Out: n / 2, In: 3}, long)
			check(api.Edit{Out: n, In: most}, long)
			check(api.Edit{In: n}, long)
		}
	}
}

// P13.4: a place that is not touched comes back where it was behind Back.
func TestWhatIsNotTouchedComesBack(t *testing.T) {
	eachEdit(6, func(e api.Edit) {
		for p := range 20 {
			if p >= e.At && p <= e.At+e.Out {
				continue
			}
			if Right(Right(p, e), Back(e)) != p || Left(Left(p, e), Back(e)) != p {
				t.Errorf("%d behind %v and back: %d, %d", p, e, Right(Right(p, e), Back(e)), Left(Left(p, e), Back(e)))
			}
		}
	})
}
