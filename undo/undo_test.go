package undo

import (
	"math"
	"runtime"
	"slices"
	"testing"
	"weak"

	"scrivener/api"
)

const limit = 1024

// of is a stack whose past may have up to most.
func of[T any](t *testing.T, most int) *Stack[T] {
	t.Helper()
	s, e := New[T](most)
	if s == nil || e != api.OK {
		t.Fatalf("New(%d): %v, %d", most, s, e)
	}
	return s
}

// pushed is a stack onto which the numbers of l are pushed.
func pushed(t *testing.T, most int, l ...int) *Stack[int] {
	t.Helper()
	s := of[int](t, most)
	for _, v := range l {
		s.Push(v)
	}
	return s
}

// upTo is the numbers from low to high.
func upTo(low, high int) []int {
	var l []int
	for v := low; v <= high; v++ {
		l = append(l, v)
	}
	return l
}

// are holds how many there are in s against what there should be.
func are[T any](t *testing.T, s *Stack[T], past, future int) {
	t.Helper()
	if s.Past() != past || s.Future() != future {
		t.Fatalf("%d and %d, not %d and %d", s.Past(), s.Future(), past, future)
	}
}

// back holds a Back against what it should tell, and how many there should be behind it.
func back(t *testing.T, s *Stack[int], now, want int, ok bool, past, future int) {
	t.Helper()
	if got, is := s.Back(now); got != want || is != ok {
		t.Errorf("Back(%d): %d, %t, not %d, %t", now, got, is, want, ok)
	}
	are(t, s, past, future)
}

// again holds an Again likewise.
func again(t *testing.T, s *Stack[int], now, want int, ok bool, past, future int) {
	t.Helper()
	if got, is := s.Again(now); got != want || is != ok {
		t.Errorf("Again(%d): %d, %t, not %d, %t", now, got, is, want, ok)
	}
	are(t, s, past, future)
}

// holds looks whether s has these, the next of the future first: it goes through all of s, and leaves it as it was.
func holds(t *testing.T, s *Stack[int], past, future []int) {
	t.Helper()
	are(t, s, len(past), len(future))
	all := slices.Concat(past, []int{-99}, future)
	at, end := len(past), len(all)-1
	move := func(call func(now int) (int, bool), by int) {
		t.Helper()
		v, ok := call(all[at])
		at += by
		if v != all[at] || !ok {
			t.Fatalf("the %d. of %d: %d, %t, not %d", at, end, v, ok, all[at])
		}
		are(t, s, at, end-at)
	}
	for at > 0 {
		move(s.Back, -1)
	}
	for at < end {
		move(s.Again, 1)
	}
	for at > len(past) {
		move(s.Back, -1)
	}
}

// P16.1: the limit and the codes upon which the edges below stand.
func TestLimits(t *testing.T) {
	if api.MaxUndo != limit || api.OK != 0 || api.ErrRange != 1 {
		t.Error(api.MaxUndo, api.OK, api.ErrRange)
	}
}

// isNone looks whether New of a most that is none tells no stack, and ErrRange.
func isNone[T any](t *testing.T, most int) {
	t.Helper()
	if s, e := New[T](most); s != nil || e != api.ErrRange {
		t.Errorf("New(%d): %v, %d", most, s, e)
	}
}

// P16.1: New of all that may be is an empty stack and OK; of what is far and near beside that it is nil and ErrRange.
func TestNew(t *testing.T) {
	for most := 1; most <= limit; most++ {
		are(t, of[int](t, most), 0, 0)
		are(t, of[[]string](t, most), 0, 0)
	}
	for _, most := range []int{
		0, -1, -2, -limit, -limit - 1, -1 << 16, -1 << 31, -1 << 32, 1 - 1<<32, math.MinInt / 2, math.MinInt + 1, math.MinInt,
		limit + 1, limit + 2, 2 * limit, 1 << 16, 1<<16 + 1, 1 << 31, 1 << 32, 1<<32 + 1, math.MaxInt / 2, math.MaxInt - 1, math.MaxInt,
	} {
		isNone[int](t, most)
		isNone[string](t, most)
		isNone[[]byte](t, most)
		isNone[struct{}](t, most)
	}
}

// P16.1: a stack that was just made tells what it is handed.
func TestNewIsEmpty(t *testing.T) {
	for _, most := range []int{1, 2, 3, limit - 1, limit} {
		s := of[int](t, most)
		back(t, s, 7, 7, false, 0, 0)
		again(t, s, 8, 8, false, 0, 0)
		back(t, s, 0, 0, false, 0, 0)
		again(t, s, -1, -1, false, 0, 0)
		s.Push(3)
		holds(t, s, []int{3}, nil)
	}
}

// P16.2: the chapter's example.
func TestExample(t *testing.T) {
	s := of[int](t, 10)
	s.Push(1)
	back(t, s, 2, 1, true, 0, 1)
	again(t, s, 1, 2, true, 1, 0)
}

// P16.2: Push onto nothing, and one behind the other, till the past is as long as it may be, and on.
func TestPush(t *testing.T) {
	for _, most := range []int{1, 2, 3, 4, 5, 8, 100, limit - 1, limit} {
		s := of[int](t, most)
		for v := 1; v <= 3*most+2; v++ {
			s.Push(v)
			are(t, s, min(v, most), 0)
			if v <= 9 || v%most <= 1 {
				holds(t, s, upTo(max(1, v-most+1), v), nil)
			}
		}
		holds(t, s, upTo(2*most+3, 3*most+2), nil)
	}
}

// P16.2: what goes where the past is too long is its first one, and that alone.
func TestPushWhatGoes(t *testing.T) {
	s := pushed(t, 3, 10, 20, 30)
	holds(t, s, []int{10, 20, 30}, nil)
	s.Push(40)
	holds(t, s, []int{20, 30, 40}, nil)
	s.Push(40)
	holds(t, s, []int{30, 40, 40}, nil)
	s.Push(10)
	s.Push(10)
	holds(t, s, []int{40, 10, 10}, nil)
	for most := 1; most <= limit; most++ {
		s := pushed(t, most, upTo(0, most)...)
		are(t, s, most, 0)
		for v := most; v > 0; v-- {
			if got, ok := s.Back(-v); got != v || !ok {
				t.Fatalf("of %d: %d, %t, not %d", most, got, ok, v)
			}
		}
		back(t, s, 7, 7, false, 0, most)
	}
}

// P16.2: Push behind some Back takes the future away, and not what is left of the past, however many these are.
func TestPushWithAFuture(t *testing.T) {
	for most := 1; most <= 7; most++ {
		for n := 1; n <= most; n++ {
			for b := 1; b <= n; b++ {
				s := pushed(t, most, upTo(1, n)...)
				for i := range b {
					s.Back(100 + i)
				}
				are(t, s, n-b, b)
				s.Push(50)
				holds(t, s, append(upTo(1, n-b), 50), nil)
				again(t, s, 60, 60, false, n-b+1, 0)
				s.Push(51)
				holds(t, s, append(upTo(1, n-b), 50, 51)[max(0, n-b+2-most):], nil)
			}
		}
	}
}

// P16.2: as that, where the past is full: all but the Backs' is left, and nothing goes for want of room.
func TestPushWithAFutureOntoAFullOne(t *testing.T) {
	for _, b := range []int{1, 2, 3, limit / 2, limit - 1, limit} {
		s := pushed(t, limit, upTo(1, limit+5)...)
		for i := range b {
			s.Back(-i)
		}
		s.Push(9999)
		holds(t, s, append(upTo(6, limit+5-b), 9999), nil)
		for v := range b {
			s.Push(v)
		}
		holds(t, s, slices.Concat(upTo(6, limit+5-b), []int{9999}, upTo(0, b-1))[1:], nil)
	}
}

// P16.2: a stack that keeps one alone.
func TestMostIsOne(t *testing.T) {
	s := pushed(t, 1, 5)
	s.Push(6)
	are(t, s, 1, 0)
	back(t, s, 7, 6, true, 0, 1)
	back(t, s, 6, 6, false, 0, 1)
	again(t, s, 8, 7, true, 1, 0)
	again(t, s, 9, 9, false, 1, 0)
	back(t, s, 10, 8, true, 0, 1)
	s.Push(11)
	are(t, s, 1, 0)
	again(t, s, 12, 12, false, 1, 0)
	s.Push(13)
	back(t, s, 14, 13, true, 0, 1)
	back(t, s, 15, 15, false, 0, 1)
	s.Clear()
	s.Push(16)
	s.Push(17)
	holds(t, s, []int{17}, nil)
}

// P16.2: Back without a past, with one, down to the beginning, and once more, which changes nothing.
func TestBack(t *testing.T) {
	s := of[int](t, 9)
	back(t, s, 4, 4, false, 0, 0)
	s.Push(1)
	back(t, s, 2, 1, true, 0, 1)
	back(t, s, 3, 3, false, 0, 1)
	again(t, s, 1, 2, true, 1, 0)
	s = pushed(t, 9, 1, 2, 3)
	back(t, s, 14, 3, true, 2, 1)
	back(t, s, 13, 2, true, 1, 2)
	back(t, s, 12, 1, true, 0, 3)
	for v := range 5 {
		back(t, s, v, v, false, 0, 3)
	}
	again(t, s, 21, 12, true, 1, 2)
	again(t, s, 22, 13, true, 2, 1)
	again(t, s, 23, 14, true, 3, 0)
	holds(t, s, []int{21, 22, 23}, nil)
}

// P16.2: Again without a future, with one, up to the end, and once more, which changes nothing.
func TestAgain(t *testing.T) {
	s := of[int](t, 9)
	again(t, s, 4, 4, false, 0, 0)
	s.Push(1)
	again(t, s, 4, 4, false, 1, 0)
	back(t, s, 2, 1, true, 0, 1)
	again(t, s, 5, 2, true, 1, 0)
	again(t, s, 6, 6, false, 1, 0)
	back(t, s, 7, 5, true, 0, 1)
	s = pushed(t, 9, 1, 2, 3)
	for v := 10; v > 7; v-- {
		s.Back(v)
	}
	again(t, s, 20, 8, true, 1, 2)
	again(t, s, 21, 9, true, 2, 1)
	again(t, s, 22, 10, true, 3, 0)
	for v := range 5 {
		again(t, s, v, v, false, 3, 0)
	}
	back(t, s, 30, 22, true, 2, 1)
	back(t, s, 31, 21, true, 1, 2)
	back(t, s, 32, 20, true, 0, 3)
	holds(t, s, nil, []int{32, 31, 30})
}

// P16.2: Again, where the past is as long as it may be, and where it becomes so: none of it goes.
func TestAgainWhereThePastIsFull(t *testing.T) {
	for _, most := range []int{1, 2, 3, 10, limit - 1, limit} {
		s := pushed(t, most, upTo(1, most+1)...)
		again(t, s, 7, 7, false, most, 0)
		holds(t, s, upTo(2, most+1), nil)
		back(t, s, -1, most+1, true, most-1, 1)
		again(t, s, -2, -1, true, most, 0)
		again(t, s, 7, 7, false, most, 0)
		holds(t, s, append(upTo(2, most), -2), nil)
		for range most {
			s.Back(-3)
		}
		for v := range most {
			again(t, s, v, -3, true, v+1, most-v-1)
		}
		again(t, s, 7, 7, false, most, 0)
		holds(t, s, upTo(0, most-1), nil)
	}
}

// P16.2: Back and Again in turn, anywhere in a stack.
func TestInTurn(t *testing.T) {
	for n := 1; n <= 6; n++ {
		for b := range n {
			s := pushed(t, n, upTo(1, n)...)
			for i := range b {
				s.Back(100 + i)
			}
			now := 0
			for i := range 5 {
				v, ok := s.Back(now)
				if want := n - b; i == 0 && v != want || i > 0 && v != -i || !ok {
					t.Fatalf("of %d, %d back: %d, %t", n, b, v, ok)
				}
				are(t, s, n-b-1, b+1)
				if v, ok := s.Again(-i - 1); v != now || !ok {
					t.Fatalf("of %d, %d back: %d, %t", n, b, v, ok)
				}
				are(t, s, n-b, b)
				now += 1000
			}
		}
	}
}

// P16.2: Clear of nothing, of a past alone, of a future alone, and of both; and what Push, Back and Again do behind it.
func TestClear(t *testing.T) {
	for n := range 6 {
		for b := range n + 1 {
			s := pushed(t, 5, upTo(1, n)...)
			for i := range b {
				s.Back(100 + i)
			}
			are(t, s, n-b, b)
			for range 2 {
				s.Clear()
				are(t, s, 0, 0)
			}
			back(t, s, 7, 7, false, 0, 0)
			again(t, s, 8, 8, false, 0, 0)
			s.Push(50)
			holds(t, s, []int{50}, nil)
			back(t, s, 51, 50, true, 0, 1)
			back(t, s, 7, 7, false, 0, 1)
			again(t, s, 52, 51, true, 1, 0)
			again(t, s, 8, 8, false, 1, 0)
			for v := range 9 {
				s.Push(v)
			}
			holds(t, s, upTo(4, 8), nil)
		}
	}
	s := pushed(t, limit, upTo(0, 2*limit)...)
	s.Clear()
	are(t, s, 0, 0)
	for _, v := range upTo(0, 2*limit) {
		s.Push(v)
	}
	holds(t, s, upTo(limit+1, 2*limit), nil)
}

// ofNil makes every call of a nil stack, and looks whether nothing happens.
func ofNil[T comparable](t *testing.T, values ...T) {
	t.Helper()
	var s *Stack[T]
	for range 2 {
		for _, v := range values {
			s.Push(v)
			are(t, s, 0, 0)
			if got, ok := s.Back(v); got != v || ok {
				t.Errorf("Back(%v): %v, %t", v, got, ok)
			}
			are(t, s, 0, 0)
			if got, ok := s.Again(v); got != v || ok {
				t.Errorf("Again(%v): %v, %t", v, got, ok)
			}
			are(t, s, 0, 0)
		}
		s.Clear()
		are(t, s, 0, 0)
	}
	if s != nil {
		t.Error(s)
	}
}

// P16.2: of a nil stack nothing, now and false, 0.
func TestNil(t *testing.T) {
	x := 3
	ofNil(t, 1, 0, -5)
	ofNil(t, "a", "", "b")
	ofNil(t, api.Span{From: 1, To: 2}, api.Span{})
	ofNil(t, &x, nil)
	ofNil[any](t, 1, nil, "a")
	var s *Stack[[]int]
	l := []int{1, 2}
	s.Push(l)
	if got, ok := s.Back(l); &got[0] != &l[0] || len(got) != 2 || ok {
		t.Error(got, ok)
	}
	if got, ok := s.Again(nil); got != nil || ok {
		t.Error(got, ok)
	}
}

// Rule "Ends": no call of a stack that was not made panics.
func TestZeroEnds(t *testing.T) {
	for calls := range 5 * 5 * 5 * 5 * 5 * 5 {
		var s Stack[int]
		for range 6 {
			switch calls % 5 {
			case 0:
				s.Push(1)
			case 1:
				s.Back(2)
			case 2:
				s.Again(3)
			case 3:
				s.Clear()
			}
			if s.Past() < 0 || s.Future() < 0 {
				t.Fatal(s.Past(), s.Future())
			}
			calls /= 5
		}
	}
}

// words is a stack in the chapter's words: a past, whose last one is at its end, and a future, whose next one is at its beginning.
type words struct {
	most         int
	past, future []int
}

func (w *words) push(was int) {
	w.past = append(w.past, was)
	if len(w.past) > w.most {
		w.past = w.past[1:]
	}
	w.future = nil
}

func (w *words) back(now int) (int, bool) {
	if len(w.past) == 0 {
		return now, false
	}
	last := w.past[len(w.past)-1]
	w.past = w.past[:len(w.past)-1]
	w.future = slices.Concat([]int{now}, w.future)
	return last, true
}

func (w *words) again(now int) (int, bool) {
	if len(w.future) == 0 {
		return now, false
	}
	next := w.future[0]
	w.future = slices.Clone(w.future[1:])
	w.past = append(w.past, now)
	return next, true
}

// What a step calls.
const (
	push = iota
	goBack
	goAgain
	clearAll
	calls
)

// step makes a call of a stack and of the words for it, and tells whether both tell the same, and have as many behind it.
func step(s *Stack[int], w *words, call, v int) bool {
	same := true
	both := func(a int, ok bool) func(b int, is bool) {
		return func(b int, is bool) { same = a == b && ok == is }
	}
	switch call {
	case push:
		s.Push(v)
		w.push(v)
	case goBack:
		both(s.Back(v))(w.back(v))
	case goAgain:
		both(s.Again(v))(w.again(v))
	case clearAll:
		s.Clear()
		w.past, w.future = nil, nil
	}
	return same && s.Past() == len(w.past) && s.Future() == len(w.future)
}

// walked makes a new stack, goes through a list of calls, and looks at all that it has behind them.
func walked(t *testing.T, most int, list []int) {
	t.Helper()
	s, w := of[int](t, most), &words{most: most}
	for i, call := range list {
		if !step(s, w, call, i+1) {
			t.Fatalf("of %d behind %v: %d and %d, not %v and %v", most, list[:i+1], s.Past(), s.Future(), w.past, w.future)
		}
	}
	for range len(w.past) + 1 {
		if !step(s, w, goBack, -1) {
			t.Fatalf("of %d behind %v, gone back", most, list)
		}
	}
	for range len(w.future) + 1 {
		if !step(s, w, goAgain, -2) {
			t.Fatalf("of %d behind %v, gone on again", most, list)
		}
	}
}

// P16.2: all lists of up to eight calls, of stacks that keep few, against the chapter's words.
func TestAllShortLists(t *testing.T) {
	const longest = 8
	for most := 1; most <= 4; most++ {
		var grow func(list []int)
		grow = func(list []int) {
			if len(list) == longest {
				walked(t, most, list)
				return
			}
			for call := range calls {
				grow(append(list, call))
			}
		}
		grow(make([]int, 0, longest))
	}
}

// P16.2: long walks, of stacks that keep few and many, against the chapter's words.
func TestLongWalks(t *testing.T) {
	for _, most := range []int{1, 2, 3, 5, 8, 30, limit - 1, limit} {
		s, w := of[int](t, most), &words{most: most}
		seed := uint32(most)
		next := func(n int) int {
			seed = seed*1664525 + 1013904223
			return int(seed>>16) % n
		}
		for i := 0; i < 20000; {
			call := next(calls)
			if call == clearAll && next(20) > 0 {
				continue
			}
			// Calls come in rows of one kind, so that the ends are come to, and gone beyond.
			for range 1 + next(most*3/2+2) {
				i++
				if !step(s, w, call, i) {
					t.Fatalf("of %d, %d calls: %d and %d, not %d and %d", most, i, s.Past(), s.Future(), len(w.past), len(w.future))
				}
			}
		}
	}
}

// kept looks whether values come back as they were handed in, where same tells whether two are the same one.
func kept[T any](t *testing.T, name string, same func(a, b T) bool, values ...T) {
	t.Helper()
	s := of[T](t, len(values))
	var none T
	s.Push(none)
	for _, v := range values {
		s.Push(v)
	}
	told := func(call string, i int, v T, ok bool) {
		t.Helper()
		if !ok || !same(v, values[i]) {
			t.Errorf("%s: %s tells %v, %t, not %v", name, call, v, ok, values[i])
		}
	}
	for i := len(values) - 1; i >= 0; i-- {
		v, ok := s.Back(values[i])
		told("Back", i, v, ok)
	}
	for i, now := range values {
		if v, ok := s.Back(now); ok || !same(v, now) {
			t.Errorf("%s: Back without a past tells %v, %t, not %v", name, v, ok, values[i])
		}
	}
	for i := range values {
		v, ok := s.Again(values[i])
		told("Again", i, v, ok)
	}
	for i, now := range values {
		if v, ok := s.Again(now); ok || !same(v, now) {
			t.Errorf("%s: Again without a future tells %v, %t, not %v", name, v, ok, values[i])
		}
	}
	for i := len(values) - 1; i >= 0; i-- {
		v, ok := s.Back(none)
		told("Back", i, v, ok)
	}
	are(t, s, 0, len(values))
}

// equal is whether two values are the same one.
func equal[T comparable](a, b T) bool { return a == b }

// here is whether two lists lie in the same memory.
func here[T any](a, b []T) bool {
	return len(a) == len(b) && cap(a) == cap(b) && (a == nil) == (b == nil) && (cap(a) == 0 || &a[:1][0] == &b[:1][0])
}

// P16.2: values of several kinds are handed out as they were handed in.
func TestKinds(t *testing.T) {
	x, y := 1, 1
	room := make([]byte, 3, 9)
	m, c, g := map[int]int{1: 2}, make(chan int), 0
	kept(t, "numbers", equal, 3, 0, -1, math.MaxInt, math.MinInt, 3)
	kept(t, "bytes", equal[byte], 0, 255, 7)
	kept(t, "floats", equal, 0.5, math.Inf(1), -1)
	kept(t, "floats that are not themselves", func(a, b float64) bool { return a == b || a != a && b != b }, math.NaN(), 1, math.NaN())
	kept(t, "truths", equal, true, false, false, true)
	kept(t, "texts", equal, "a", "", "a\x00b", "a")
	kept(t, "arrays", equal, [3]int{1, 2, 3}, [3]int{}, [3]int{1, 2, 4})
	kept(t, "spans", equal, api.Span{From: 1, To: 2}, api.Span{}, api.Span{From: 2, To: 1})
	kept(t, "nothings", equal, struct{}{}, struct{}{}, struct{}{})
	kept(t, "pointers", equal, &x, nil, &y, &x)
	kept[any](t, "anything", equal, 1, nil, "a", &x, 1.5, struct{}{})
	kept[error](t, "errors", equal, api.ErrRange, nil, api.ErrLimit)
	kept(t, "channels", equal, c, nil, make(chan int))
	kept(t, "lists", here[byte], room, nil, []byte{}, room[:2], room[1:], []byte("abc"), room[:0])
	kept(t, "lists of lists", here[[]int], [][]int{{1}, nil}, nil, [][]int{{1}, nil})
	kept(t, "maps", func(a, b map[int]int) bool { return (a == nil) == (b == nil) && len(a) == len(b) && a[1] == b[1] }, m, nil, map[int]int{})
	kept(t, "functions", func(a, b func()) bool {
		g = 0
		a()
		n := g
		g = 0
		b()
		return n == g
	}, func() { g++ }, func() { g += 2 }, func() { g-- })
	kept(t, "records", func(a, b api.Saved) bool { return here(a.Text, b.Text) && here(a.Runs, b.Runs) && a.W == b.W }, api.Saved{Text: room, W: 1}, api.Saved{}, api.Saved{Text: room, Runs: []api.Run{{Len: 1}}, W: 1})
}

// Memory: a list that is handed in is not changed, its spare room included, and the caller's own list may grow and shrink meanwhile.
func TestMemory(t *testing.T) {
	whole := []int{1, 2, 3, 4, 5}
	was := slices.Clone(whole)
	s := of[[]int](t, 2)
	for range 3 {
		s.Push(whole[:2])
		s.Push(whole[1:3])
		s.Back(whole[2:4])
		s.Back(whole[:0])
		s.Again(whole[3:])
		s.Again(nil)
	}
	s.Push(whole)
	s.Clear()
	if !slices.Equal(whole, was) {
		t.Error(whole)
	}
}

// P16.1: two stacks know nothing of one another, neither those that were made alike, nor those of another most or kind.
func TestApart(t *testing.T) {
	a, b, c, d := of[int](t, 3), of[int](t, 3), of[int](t, 1), of[string](t, 3)
	for v := range 5 {
		a.Push(v)
		are(t, b, 0, 0)
		are(t, c, 0, 0)
		are(t, d, 0, 0)
	}
	b.Push(10)
	b.Push(11)
	c.Push(20)
	d.Push("x")
	back(t, a, 9, 4, true, 2, 1)
	are(t, b, 2, 0)
	back(t, b, 12, 11, true, 1, 1)
	back(t, c, 21, 20, true, 0, 1)
	again(t, b, 13, 12, true, 2, 0)
	are(t, d, 1, 0)
	a.Clear()
	holds(t, a, nil, nil)
	holds(t, b, []int{10, 13}, nil)
	holds(t, c, nil, []int{21})
	if v, ok := d.Back("y"); v != "x" || !ok {
		t.Error(v, ok)
	}
	a.Push(1)
	b.Clear()
	holds(t, a, []int{1}, nil)
	holds(t, c, nil, []int{21})
	are(t, d, 0, 1)
}

// P16.3: as many Again as Back tell in reverse order what was handed in, from anywhere, and lead back there.
func TestAsManyAgainAsBack(t *testing.T) {
	for _, most := range []int{1, 2, 3, 6, limit} {
		s := pushed(t, most, upTo(1, most+2)...)
		for _, first := range []int{0, 1, most / 3, most - 1} {
			for range first {
				s.Back(-1)
			}
			past, future := s.Past(), s.Future()
			for _, n := range []int{0, 1, 2, past / 2, past} {
				n = min(n, past)
				var in, told []int
				now := 5000
				for range n {
					in = append(in, now)
					v, ok := s.Back(now)
					if !ok {
						t.Fatal(most, first, n)
					}
					told = append(told, v)
					now += 7
				}
				are(t, s, past-n, future+n)
				for i := n - 1; i >= 0; i-- {
					if v, ok := s.Again(told[i]); v != in[i] || !ok {
						t.Fatalf("of %d, the %d. of %d: %d, %t, not %d", most, i, n, v, ok, in[i])
					}
				}
				are(t, s, past, future)
			}
			for s.Future() > 0 {
				s.Again(-2)
			}
		}
	}
}

// P16.3: past and future are as many together, whatever of Back and Again is done.
func TestAsManyTogether(t *testing.T) {
	for n := range 5 {
		for list := range 1 << 10 {
			s := pushed(t, 4, upTo(1, n)...)
			for i := range 10 {
				if list>>i&1 == 0 {
					s.Back(i)
				} else {
					s.Again(i)
				}
				if s.Past() < 0 || s.Future() < 0 || s.Past()+s.Future() != n {
					t.Fatalf("of %d: %d and %d", n, s.Past(), s.Future())
				}
			}
		}
	}
}

// big is a value whose memory can be seen to go.
type big struct{ _ [64]int }

// watched makes a value, hands it to do, and tells whether it is still there.
func watched(do func(b *big)) func() bool {
	b := new(big)
	w := weak.Make(b)
	do(b)
	return func() bool {
		runtime.GC()
		return w.Value() != nil
	}
}

// Rule "what is kept": what went, and what was handed out, is no longer held.
func TestWhatWentIsNotHeld(t *testing.T) {
	full := func() *Stack[*big] {
		s := of[*big](t, 4)
		for range 4 {
			s.Push(nil)
		}
		return s
	}
	for name, do := range map[string]func(s *Stack[*big], b *big){
		"pushed out": func(s *Stack[*big], b *big) {
			s.Clear()
			s.Push(b)
			s.Push(nil)
			s.Push(nil)
			s.Push(nil)
			s.Push(nil)
		},
		"handed out by Back":      func(s *Stack[*big], b *big) { s.Push(b); s.Back(nil) },
		"handed out by Again":     func(s *Stack[*big], b *big) { s.Back(b); s.Again(nil) },
		"of a future, by Push":    func(s *Stack[*big], b *big) { s.Back(nil); s.Back(b); s.Back(nil); s.Push(nil) },
		"next, by Push":           func(s *Stack[*big], b *big) { s.Back(nil); s.Back(b); s.Push(nil) },
		"of a past, by Clear":     func(s *Stack[*big], b *big) { s.Push(b); s.Push(nil); s.Clear(); s.Push(nil) },
		"of a future, by Clear":   func(s *Stack[*big], b *big) { s.Back(b); s.Back(nil); s.Clear(); s.Push(nil) },
		"handed to an empty Back": func(s *Stack[*big], b *big) { s.Clear(); s.Back(b) },
		"handed to a last Again":  func(s *Stack[*big], b *big) { s.Again(b) },
	} {
		s := full()
		if there := watched(func(b *big) { do(s, b) }); there() {
			t.Errorf("%s: it is still held", name)
		}
		runtime.KeepAlive(s)
	}
	s := full()
	there := watched(func(b *big) { s.Push(b); s.Back(nil); s.Again(b); s.Push(nil) })
	if !there() {
		t.Error("what is of the past is not held")
	}
	if v, ok := s.Back(nil); v != nil || !ok || !there() {
		t.Error(v, ok)
	}
	if v, ok := s.Back(nil); v == nil || !ok {
		t.Error(v, ok)
	}
}
