package seq

import (
	"math"
	"slices"
	"testing"

	"scrivener/api"
)

// limit is how much of a height there may be, and how many heights.
const limit = 1 << 24

// far are numbers far below and far above all, so that sums of them wrap round.
var far = []int{
	math.MinInt, math.MinInt + 1, math.MinInt + 5, math.MinInt / 2, -1 << 48, -1 << 32, 1 - 1<<32, -1 << 31, -limit,
	1 << 31, 1 << 32, 1<<32 + 1, 1 << 49, math.MaxInt / 2, math.MaxInt/2 + 1, math.MaxInt - 5, math.MaxInt - 1, math.MaxInt,
}

// wrong are numbers that neither Rows nor High may be.
var wrong = append([]int{-1, -2, -9, limit + 1, limit + 2, 2 * limit, 1<<32 + 9}, far...)

// around are the numbers from -2 to n + 2, and those far off.
func around(n int) []int {
	l := slices.Clone(far)
	for i := -2; i <= n+2; i++ {
		l = append(l, i)
	}
	return l
}

// tall is a height.
func tall(rows, high int) api.Tall { return api.Tall{Rows: rows, High: high} }

// some are n heights of all kinds, from the k-th on of a long list.
func some(k, n int) []api.Tall {
	var l []api.Tall
	for i := k; i < k+n; i++ {
		l = append(l, tall(i*7%5, i*11%13%10))
	}
	return l
}

// made is a Seq of l.
func made(t *testing.T, l ...api.Tall) *Seq {
	t.Helper()
	s, c := New(l...)
	if s == nil || c != api.OK {
		t.Fatalf("New of %d: %v, %d", len(l), s, c)
	}
	return s
}

// none looks whether New tells nothing but a code.
func none(t *testing.T, want api.Code, l ...api.Tall) {
	t.Helper()
	if s, c := New(l...); s != nil || c != want {
		t.Fatalf("New of %d: %v, %d, want %d", len(l), s, c, want)
	}
}

// told holds a code against what it should be.
func told(t *testing.T, got, want api.Code) {
	t.Helper()
	if got != want {
		t.Fatalf("the code %d, want %d", got, want)
	}
}

// rows and high are the two ways in which heights are counted.
func rows(t api.Tall) int { return t.Rows }
func high(t api.Tall) int { return t.High }

// sum is how much heights are together.
func sum(l []api.Tall, of func(api.Tall) int) int {
	all := 0
	for _, t := range l {
		all += of(t)
	}
	return all
}

// found is what P20.3 says of Find: the last one that has something, of which what is ahead is not above y; of none such the first one that has something; -1 and 0 of none.
func found(l []api.Tall, y int, of func(api.Tall) int) (i, first int) {
	i = -1
	for k, t := range l {
		ahead := sum(l[:k], of)
		if of(t) > 0 && (i < 0 || ahead <= y) {
			i, first = k, ahead
		}
	}
	return i, first
}

// inserted and deleted are what P20.2 says of a list.
func inserted(l []api.Tall, i int, in ...api.Tall) []api.Tall {
	return slices.Concat(l[:i], in, l[i:])
}
func deleted(l []api.Tall, i, n int) []api.Tall { return slices.Concat(l[:i], l[i+n:]) }

// tree walks through a part of the tree, and tells its heights, how many levels it has, and whether it is even.
func tree(n *node) (l []api.Tall, levels int, even bool) {
	if n == nil {
		return nil, 0, true
	}
	if n.left == nil {
		return n.leaf, 1, n.right == nil && len(n.leaf) > 0 && len(n.leaf) <= room
	}
	ll, left, le := tree(n.left)
	rl, right, re := tree(n.right)
	return slices.Concat(ll, rl), 1 + max(left, right), le && re && n.leaf == nil && left-right <= 1 && right-left <= 1
}

// is holds a Seq, and its tree, against a list.
func is(t *testing.T, s *Seq, l []api.Tall) {
	t.Helper()
	if s.Len() != len(l) || !s.Check() {
		t.Fatalf("Len %d, want %d; Check %v", s.Len(), len(l), s.Check())
	}
	if all := s.Sum(len(l)); all != tall(sum(l, rows), sum(l, high)) {
		t.Fatalf("all are %v of %d", all, len(l))
	}
	if got, levels, even := tree(s.root); !slices.Equal(got, l) || !even {
		t.Fatalf("the tree has %v, want %v; %d levels, even: %v", got, l, levels, even)
	}
}

// holds holds all that a Seq tells against a list.
func holds(t *testing.T, s *Seq, l []api.Tall) {
	t.Helper()
	is(t, s, l)
	for _, i := range around(len(l)) {
		var want api.Tall
		has := i >= 0 && i < len(l)
		if has {
			want = l[i]
		}
		if got, ok := s.Get(i); got != want || ok != has {
			t.Fatalf("%v: Get(%d): %v, %v", l, i, got, ok)
		}
		ahead := l[:min(max(i, 0), len(l))]
		if got := s.Sum(i); got != tall(sum(ahead, rows), sum(ahead, high)) {
			t.Fatalf("%v: Sum(%d): %v", l, i, got)
		}
	}
	finds(t, s.Find, l, high)
	finds(t, s.FindRow, l, rows)
}

// finds holds Find, or FindRow, of all that there is, and beside it, against a list.
func finds(t *testing.T, call func(y int) (i, first int), l []api.Tall, of func(api.Tall) int) {
	t.Helper()
	for _, y := range around(sum(l, of)) {
		want, ahead := found(l, y, of)
		if i, first := call(y); i != want || first != ahead {
			t.Fatalf("%v: of %d: %d, %d, want %d, %d", l, y, i, first, want, ahead)
		}
	}
}

// chance tells numbers that are the same each time.
type chance uint64

func (c *chance) below(n int) int {
	*c = *c*6364136223846793005 + 1442695040888963407
	return int(uint64(*c) >> 33 % uint64(n))
}

// P20.1, P20.2: the limits and the codes upon which the edges below stand.
func TestLimits(t *testing.T) {
	if api.MaxHigh != limit || api.MaxLines != limit || api.OK != 0 || api.ErrRange != 1 || api.ErrLimit != 2 || api.ErrKind != 5 {
		t.Error("limits")
	}
}

// The chapter's example.
func TestExample(t *testing.T) {
	s := made(t, tall(1, 9), tall(2, 18))
	for y, want := range map[int][2]int{-1: {0, 0}, 0: {0, 0}, 8: {0, 0}, 9: {1, 9}, 10: {1, 9}, 26: {1, 9}, 27: {1, 9}, 1000: {1, 9}} {
		if i, top := s.Find(y); i != want[0] || top != want[1] {
			t.Errorf("Find(%d): %d, %d", y, i, top)
		}
	}
	for row, want := range map[int][2]int{-1: {0, 0}, 0: {0, 0}, 1: {1, 1}, 2: {1, 1}, 3: {1, 1}} {
		if i, first := s.FindRow(row); i != want[0] || first != want[1] {
			t.Errorf("FindRow(%d): %d, %d", row, i, first)
		}
	}
	if s.Len() != 2 || s.Sum(1) != tall(1, 9) || s.Sum(2) != tall(3, 27) || !s.Check() {
		t.Error("two heights")
	}
}

// P20.1: New of none, of one, of many: all lengths from none up to some hundreds.
func TestNew(t *testing.T) {
	for n := range 140 {
		holds(t, made(t, some(n, n)...), some(n, n))
	}
	for n := range 2100 {
		is(t, made(t, some(n, n)...), some(n, n))
	}
	s, c := New([]api.Tall{}...)
	told(t, c, api.OK)
	holds(t, s, nil)
}

// P20.1: what may be, alone.
func TestNewOfWhatMayBe(t *testing.T) {
	for _, r := range []int{0, 1, 2, 1000, limit - 1, limit} {
		for _, h := range []int{0, 1, 2, 1000, limit - 1, limit} {
			s := made(t, tall(r, h))
			is(t, s, []api.Tall{tall(r, h)})
			if got, ok := s.Get(0); got != tall(r, h) || !ok {
				t.Errorf("%d, %d: %v, %v", r, h, got, ok)
			}
			told(t, s.Set(0, tall(h, r)), api.OK)
			told(t, s.Insert(1, tall(r, h)), api.OK)
			is(t, s, []api.Tall{tall(h, r), tall(r, h)})
		}
	}
}

// P20.1, P20.2: what may not be, alone: New, Set and Insert refuse it.
func TestWhatMayNotBe(t *testing.T) {
	s := made(t, tall(1, 2))
	for _, n := range wrong {
		for _, bad := range []api.Tall{tall(n, 0), tall(0, n), tall(n, 9), tall(9, n), tall(n, limit), tall(limit, n), tall(n, n)} {
			none(t, api.ErrKind, bad)
			told(t, s.Set(0, bad), api.ErrKind)
			told(t, s.Insert(0, bad), api.ErrKind)
			told(t, s.Insert(1, bad), api.ErrKind)
			is(t, s, []api.Tall{tall(1, 2)})
		}
	}
}

// P20.1, P20.2: what may not be, among others: at the beginning, within and at the end.
func TestWhatMayNotBeAmongOthers(t *testing.T) {
	s := made(t, some(3, 50)...)
	for _, n := range []int{1, 2, 3, room, room + 1, 3 * room} {
		for i := range n {
			for _, bad := range []api.Tall{tall(-1, 1), tall(1, -1), tall(limit+1, 1), tall(1, limit+1)} {
				l := some(0, n)
				l[i] = bad
				none(t, api.ErrKind, l...)
				told(t, s.Insert(i%51, l...), api.ErrKind)
				told(t, s.Set(i%50, bad), api.ErrKind)
			}
		}
	}
	holds(t, s, some(3, 50))
}

// P20.1 to P20.4: as many as there may be, as high as they may be, and more than that.
func TestMost(t *testing.T) {
	l := slices.Repeat([]api.Tall{tall(limit, limit)}, limit+1)
	none(t, api.ErrLimit, l...)
	for _, i := range []int{0, limit / 2, limit} {
		l[i] = tall(0, limit+1)
		none(t, api.ErrKind, l...)
		l[i] = tall(limit, limit)
	}
	s := made(t, l[:limit]...)
	if s.Len() != limit || !s.Check() || s.Sum(math.MaxInt) != tall(1<<48, 1<<48) {
		t.Fatal(s.Len(), s.Sum(limit))
	}
	for _, i := range []int{1, 255, 256, 257, 1 << 12, limit/2 - 1, limit / 2, limit - 1} {
		if s.Sum(i) != tall(i*limit, i*limit) {
			t.Errorf("Sum(%d): %v", i, s.Sum(i))
		}
		for _, y := range []int{i * limit, i*limit + 1, (i+1)*limit - 1} {
			if k, top := s.Find(y); k != i || top != i*limit {
				t.Errorf("Find(%d): %d, %d", y, k, top)
			}
			if k, first := s.FindRow(y); k != i || first != i*limit {
				t.Errorf("FindRow(%d): %d, %d", y, k, first)
			}
		}
	}
	for _, y := range []int{1<<48 - 1, 1 << 48, math.MaxInt} {
		if k, top := s.Find(y); k != limit-1 || top != 1<<48-limit {
			t.Errorf("Find(%d): %d, %d", y, k, top)
		}
	}
	full(t, s, l)
}

// full holds a Seq that has as many as there may be, of the first of l each, to what it takes and what it refuses.
func full(t *testing.T, s *Seq, l []api.Tall) {
	t.Helper()
	one := tall(3, 4)
	for _, i := range []int{0, 1, limit / 2, limit - 1, limit} {
		told(t, s.Insert(i, one), api.ErrLimit)
		told(t, s.Insert(i, l...), api.ErrLimit)
		told(t, s.Insert(i, tall(0, -1)), api.ErrKind)
		told(t, s.Insert(i), api.OK)
	}
	for _, i := range []int{-1, limit + 1, math.MinInt, math.MaxInt} {
		told(t, s.Insert(i, one), api.ErrRange)
		told(t, s.Insert(i, tall(0, -1)), api.ErrRange)
		told(t, s.Delete(i, 1), api.ErrRange)
		told(t, s.Set(i, one), api.ErrRange)
	}
	told(t, s.Delete(limit, 1), api.ErrRange)
	told(t, s.Delete(0, limit+1), api.ErrRange)
	if s.Len() != limit || !s.Check() {
		t.Fatal(s.Len())
	}
	told(t, s.Delete(100, 3), api.OK)
	told(t, s.Insert(200, one, one, one, one), api.ErrLimit)
	told(t, s.Insert(200, one, one, one), api.OK)
	told(t, s.Insert(0, one), api.ErrLimit)
	if s.Len() != limit || s.Sum(limit) != tall(9+(limit-3)*limit, 12+(limit-3)*limit) || !s.Check() {
		t.Fatal(s.Len(), s.Sum(limit))
	}
	told(t, s.Delete(0, limit), api.OK)
	holds(t, s, nil)
}

// P20.1: Set of each one, and of those that there are none of.
func TestSet(t *testing.T) {
	for _, n := range []int{0, 1, 2, 5, room, room + 1, 2*room + 3} {
		s, l := made(t, some(0, n)...), some(0, n)
		for _, i := range around(n) {
			for _, to := range []api.Tall{tall(limit, 7), tall(0, 0), tall(3, limit), tall(3, 2)} {
				if i < 0 || i >= n {
					told(t, s.Set(i, to), api.ErrRange)
					is(t, s, l)
					continue
				}
				told(t, s.Set(i, to), api.OK)
				l[i] = to
				is(t, s, l)
				if got, ok := s.Get(i); got != to || !ok {
					t.Fatalf("Get(%d): %v, %v", i, got, ok)
				}
			}
		}
		holds(t, s, l)
	}
}

// P20.1: that there is no such one is told ahead of what it may not be.
func TestSetCodes(t *testing.T) {
	for _, n := range []int{0, 1, 3} {
		s := made(t, some(0, n)...)
		for _, i := range around(n) {
			want := api.ErrRange
			if i >= 0 && i < n {
				want = api.ErrKind
			}
			for _, bad := range []api.Tall{tall(-1, 0), tall(0, -1), tall(limit+1, 0), tall(0, limit+1)} {
				told(t, s.Set(i, bad), want)
			}
		}
		holds(t, s, some(0, n))
	}
}

// P20.2: Insert of none, of one and of many, at each place and beside all places.
func TestInsert(t *testing.T) {
	for _, n := range []int{0, 1, 2, room - 1, room, room + 1, 3*room + 1} {
		for _, k := range []int{0, 1, 2, room, room + 1, 5 * room} {
			l, in := some(0, n), some(n, k)
			for _, i := range around(n) {
				s := made(t, l...)
				if i < 0 || i > n {
					told(t, s.Insert(i, in...), api.ErrRange)
					is(t, s, l)
					continue
				}
				told(t, s.Insert(i, in...), api.OK)
				is(t, s, inserted(l, i, in...))
			}
		}
	}
}

// P20.2: Insert of a few, all that can be told of it.
func TestInsertOfFew(t *testing.T) {
	for n := range 6 {
		for i := range n + 1 {
			for k := range 4 {
				s := made(t, some(0, n)...)
				told(t, s.Insert(i, some(n, k)...), api.OK)
				holds(t, s, inserted(some(0, n), i, some(n, k)...))
			}
		}
	}
}

// P20.2: which code is told, where several would hold: the place, then what may not be, then how many.
func TestInsertCodes(t *testing.T) {
	more := make([]api.Tall, limit)
	bad := make([]api.Tall, limit)
	bad[limit-1] = tall(0, -1)
	s := made(t, some(0, 2)...)
	for _, x := range []struct {
		i    int
		l    []api.Tall
		want api.Code
	}{
		{-1, bad, api.ErrRange}, {3, bad, api.ErrRange}, {-1, more, api.ErrRange}, {3, more, api.ErrRange},
		{0, bad, api.ErrKind}, {2, bad, api.ErrKind},
		{0, more, api.ErrLimit}, {2, more, api.ErrLimit}, {1, more[:limit-1], api.ErrLimit},
		{-1, nil, api.ErrRange}, {3, nil, api.ErrRange}, {0, nil, api.OK}, {2, nil, api.OK},
	} {
		told(t, s.Insert(x.i, x.l...), x.want)
		holds(t, s, some(0, 2))
	}
	told(t, s.Insert(1, more[:limit-2]...), api.OK)
	if s.Len() != limit || !s.Check() || s.Sum(limit) != tall(sum(some(0, 2), rows), sum(some(0, 2), high)) {
		t.Error(s.Len())
	}
}

// P20.2: Delete of each span, and of those that there are none of.
func TestDelete(t *testing.T) {
	for _, n := range []int{0, 1, 2, 7, room, room + 1, 2*room + 5} {
		l := some(n, n)
		for i := range n + 1 {
			for k := range n - i + 1 {
				s := made(t, l...)
				told(t, s.Delete(i, k), api.OK)
				is(t, s, deleted(l, i, k))
			}
		}
	}
	for _, n := range []int{0, 1, 3, room + 3} {
		s := made(t, some(0, n)...)
		for _, i := range around(n) {
			for _, k := range around(n) {
				if i < 0 || i > n || k < 0 || k > n-i {
					told(t, s.Delete(i, k), api.ErrRange)
				}
			}
		}
		holds(t, s, some(0, n))
	}
}

// P20.2: Delete of some of a few, all that can be told of it.
func TestDeleteOfFew(t *testing.T) {
	for n := range 6 {
		for i := range n + 1 {
			for k := range n - i + 1 {
				s := made(t, some(0, n)...)
				told(t, s.Delete(i, k), api.OK)
				holds(t, s, deleted(some(0, n), i, k))
			}
		}
	}
}

// P20.3: all lists of up to five heights of some kinds, of which some count as nothing in one way or both.
func TestAllShortLists(t *testing.T) {
	kinds := []api.Tall{tall(0, 0), tall(0, 2), tall(3, 0), tall(1, 1), tall(2, 3)}
	var walk func(l []api.Tall)
	walk = func(l []api.Tall) {
		holds(t, made(t, l...), l)
		if len(l) == 5 {
			return
		}
		for _, k := range kinds {
			walk(append(l[:len(l):len(l)], k))
		}
	}
	walk(nil)
}

// P20.3: heights that count as nothing, so many that they fill leaves: at the beginning, between others, at the end, and all.
func TestFindAmongNothing(t *testing.T) {
	nothing := make([]api.Tall, 2*room+5)
	flat, bare := slices.Clone(nothing), slices.Clone(nothing)
	for i := range nothing {
		flat[i], bare[i] = tall(i%3+1, 0), tall(0, i%3+1)
	}
	for _, gap := range [][]api.Tall{nothing, flat, bare} {
		for _, l := range [][]api.Tall{
			gap,
			inserted(gap, 0, tall(2, 3)),
			inserted(gap, 1, tall(2, 3)),
			inserted(gap, room, tall(2, 3), tall(1, 1)),
			inserted(gap, len(gap), tall(2, 3)),
			slices.Concat(gap, some(0, 9), gap, some(3, 40), gap),
			slices.Concat(some(1, 1), gap, some(2, 1)),
		} {
			holds(t, made(t, l...), l)
		}
	}
}

// P20.3: Sum, Find and FindRow where the sums are beyond what 32 bits hold.
func TestLargeSums(t *testing.T) {
	var l []api.Tall
	for i := range 700 {
		l = append(l, tall(limit-i, limit-3*i%7))
	}
	s := made(t, l...)
	is(t, s, l)
	for i := range l {
		want := tall(sum(l[:i], rows), sum(l[:i], high))
		if got := s.Sum(i); got != want {
			t.Fatalf("Sum(%d): %v, want %v", i, got, want)
		}
		for _, by := range []int{0, 1, l[i].High - 1} {
			if k, top := s.Find(want.High + by); k != i || top != want.High {
				t.Fatalf("Find(%d): %d, %d", want.High+by, k, top)
			}
		}
		for _, by := range []int{0, 1, l[i].Rows - 1} {
			if k, first := s.FindRow(want.Rows + by); k != i || first != want.Rows {
				t.Fatalf("FindRow(%d): %d, %d", want.Rows+by, k, first)
			}
		}
	}
	if s.Sum(700).High <= 1<<33 {
		t.Error("the sums are too small for what this test is to hold")
	}
}

// places are where the tests below insert and delete, of n.
var places = map[string]func(n int) int{
	"at the beginning": func(int) int { return 0 },
	"at the end":       func(n int) int { return n },
	"in the middle":    func(n int) int { return n / 2 },
	"near the end":     func(n int) int { return n * 9 / 10 },
	"here and there":   func(n int) int { return n * 7919 % (n + 1) },
	"all over":         func(n int) int { return n * n * 31 % (n + 1) },
}

// P20.2 to P20.4: many inserts at one place, and as many deletes there or elsewhere.
func TestManyAtOnePlace(t *testing.T) {
	for name, in := range places {
		for other, out := range places {
			t.Run(name+", and "+other, func(t *testing.T) {
				s, l := made(t), []api.Tall(nil)
				for i := range 500 {
					at, more := in(len(l)), some(i, 1+i%3)
					told(t, s.Insert(at, more...), api.OK)
					l = inserted(l, at, more...)
					is(t, s, l)
				}
				for i := 0; len(l) > 0; i++ {
					n := min(1+i%4, len(l))
					at := min(out(len(l)), len(l)-n)
					told(t, s.Delete(at, n), api.OK)
					l = deleted(l, at, n)
					is(t, s, l)
				}
			})
		}
	}
}

// P20.1 to P20.4: long ways of all calls, at any places.
func TestLongWays(t *testing.T) {
	for seed := range 5 {
		c := chance(seed)
		s, l := made(t), []api.Tall(nil)
		for step := range 3000 {
			at := c.below(len(l) + 1)
			switch what := c.below(9); {
			case what < 4 && len(l) < 1500:
				in := some(step, c.below(20)*c.below(6))
				told(t, s.Insert(at, in...), api.OK)
				l = inserted(l, at, in...)
			case what < 6 && at < len(l):
				to := tall(c.below(4), c.below(30))
				told(t, s.Set(at, to), api.OK)
				l[at] = to
			default:
				n := min(c.below(30)*c.below(5), len(l)-at)
				told(t, s.Delete(at, n), api.OK)
				l = deleted(l, at, n)
			}
			is(t, s, l)
			look(t, s, l, &c)
		}
	}
}

// look asks a Seq for some height, some sum, and what lies somewhere.
func look(t *testing.T, s *Seq, l []api.Tall, c *chance) {
	t.Helper()
	i := c.below(len(l) + 1)
	ahead := tall(sum(l[:i], rows), sum(l[:i], high))
	if got := s.Sum(i); got != ahead {
		t.Fatalf("Sum(%d): %v, want %v", i, got, ahead)
	}
	if i == len(l) {
		return
	}
	if got, ok := s.Get(i); got != l[i] || !ok {
		t.Fatalf("Get(%d): %v, %v, want %v", i, got, ok, l[i])
	}
	if l[i].High > 0 {
		if k, top := s.Find(ahead.High + c.below(l[i].High)); k != i || top != ahead.High {
			t.Fatalf("%d, %d lies where %d does", k, top, i)
		}
	}
	if l[i].Rows > 0 {
		if k, first := s.FindRow(ahead.Rows + c.below(l[i].Rows)); k != i || first != ahead.Rows {
			t.Fatalf("%d, %d lies where %d does", k, first, i)
		}
	}
}

// P20.2 to P20.4: wide deletes: two parts of the tree, however deep each, stand side by side again.
func TestWideDeletes(t *testing.T) {
	c := chance(7)
	for range 60 {
		l := some(c.below(9), 300+c.below(2000))
		s := made(t, l...)
		for len(l) > 0 {
			at := c.below(len(l))
			n := 1 + c.below(len(l)-at)
			told(t, s.Delete(at, n), api.OK)
			l = deleted(l, at, n)
			is(t, s, l)
		}
	}
}

// P20.5: what is inserted and deleted again, at each place.
func TestBack(t *testing.T) {
	for _, n := range []int{0, 1, 4, room, 3*room + 2, 200} {
		s, l := made(t, some(0, n)...), some(0, n)
		for i := range n + 1 {
			for _, k := range []int{0, 1, 2, room, 100} {
				told(t, s.Insert(i, some(n, k)...), api.OK)
				is(t, s, inserted(l, i, some(n, k)...))
				told(t, s.Delete(i, k), api.OK)
				is(t, s, l)
			}
		}
		holds(t, s, l)
		for i := range n + 1 {
			for _, k := range []int{0, 1, 2, room, n - i} {
				if k > n-i {
					continue
				}
				told(t, s.Delete(i, k), api.OK)
				told(t, s.Insert(i, l[i:i+k]...), api.OK)
				is(t, s, l)
			}
		}
		holds(t, s, l)
	}
}

// What is refused leaves all as it was, node by node.
func TestErrorsChangeNothing(t *testing.T) {
	for _, n := range []int{0, 1, 5, 3 * room} {
		s := made(t, some(0, n)...)
		root := s.root
		for _, i := range around(n) {
			for _, c := range []api.Code{s.Insert(i, tall(1, 1), tall(0, -1)), s.Set(i, tall(limit+1, 0)), s.Delete(i, n+1), s.Delete(i, -1)} {
				if c != api.ErrRange && c != api.ErrKind {
					t.Fatalf("the code %d", c)
				}
			}
			if s.root != root {
				t.Fatal("the tree is another one")
			}
		}
		holds(t, s, some(0, n))
	}
}

// Each method of a nil Seq, and of one that no call made, ends.
func TestNil(t *testing.T) {
	var s *Seq
	if s.Len() != 0 || s.Check() {
		t.Error("a nil Seq has something")
	}
	for _, i := range around(1) {
		if x, ok := s.Get(i); x != tall(0, 0) || ok {
			t.Errorf("Get(%d): %v, %v", i, x, ok)
		}
		for _, x := range []api.Tall{tall(0, 0), tall(1, 9), tall(-1, 0), tall(0, limit+1)} {
			told(t, s.Set(i, x), api.ErrRange)
			told(t, s.Insert(i, x), api.ErrRange)
		}
		told(t, s.Insert(i), api.ErrRange)
		for _, n := range around(1) {
			told(t, s.Delete(i, n), api.ErrRange)
		}
		if x := s.Sum(i); x != tall(0, 0) {
			t.Errorf("Sum(%d): %v", i, x)
		}
		if k, top := s.Find(i); k != -1 || top != 0 {
			t.Errorf("Find(%d): %d, %d", i, k, top)
		}
		if k, first := s.FindRow(i); k != -1 || first != 0 {
			t.Errorf("FindRow(%d): %d, %d", i, k, first)
		}
	}
	z := new(Seq)
	z.Len()
	z.Get(0)
	z.Set(0, tall(1, 1))
	z.Delete(0, 0)
	z.Sum(1)
	z.Find(0)
	z.FindRow(0)
	z.Check()
	z.Insert(0, tall(1, 1))
}

// scratch writes over all of a list, its spare room included.
func scratch(l []api.Tall) {
	l = l[:cap(l)]
	for i := range l {
		l[i] = tall(77, 77)
	}
}

// What is handed in is neither changed nor kept, its spare room included.
func TestMemory(t *testing.T) {
	for _, n := range []int{1, 3, room, room + 1, 4 * room} {
		all := some(0, 3*n)
		list, more := slices.Clone(all), slices.Clone(all)
		s := made(t, list[:n]...)
		told(t, s.Insert(n/2, more[n:2*n]...), api.OK)
		want := inserted(all[:n], n/2, all[n:2*n]...)
		for i := range want {
			told(t, s.Set(i, tall(i%9, 3)), api.OK)
			want[i] = tall(i%9, 3)
		}
		told(t, s.Insert(2*n, tall(5, 5)), api.OK)
		told(t, s.Delete(0, 1), api.OK)
		want = append(want[1:], tall(5, 5))
		is(t, s, want)
		if !slices.Equal(list, all) || !slices.Equal(more, all) {
			t.Fatal("what was handed in was changed")
		}
		scratch(list)
		scratch(more)
		holds(t, s, want)
	}
}

// What was told stays as it is, whatever comes later; and what is told later tells nothing else of what was told before.
func TestWhatWasTold(t *testing.T) {
	s := made(t, some(1, 50)...)
	was, _ := s.Get(7)
	ahead := s.Sum(20)
	told(t, s.Set(7, tall(100, 100)), api.OK)
	if now, _ := s.Get(7); was != some(1, 50)[7] || now != tall(100, 100) {
		t.Error(was, now)
	}
	if now := s.Sum(20); now.Rows != ahead.Rows-was.Rows+100 || now.High != ahead.High-was.High+100 {
		t.Error(ahead, now)
	}
	was.Rows = 9
	if now, _ := s.Get(7); now != tall(100, 100) {
		t.Error(now)
	}
}

// Two Seqs know nothing of one another, though they were made of the same heights.
func TestApart(t *testing.T) {
	for _, n := range []int{1, 2, room, 100} {
		l := some(0, n)
		x, y, z := made(t, l...), made(t, l...), made(t, l...)
		told(t, x.Set(n-1, tall(8, 8)), api.OK)
		told(t, y.Delete(0, 1), api.OK)
		told(t, y.Insert(0, tall(6, 6), tall(7, 7)), api.OK)
		holds(t, z, l)
		holds(t, x, append(slices.Clone(l[:n-1]), tall(8, 8)))
		holds(t, y, inserted(l[1:], 0, tall(6, 6), tall(7, 7)))
	}
}
