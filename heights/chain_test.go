package heights

import (
	"slices"
	"testing"

	"scrivener/api"
)

// chained holds a chain against a list: what it tells, and that none of its Seqs is empty, wrong, or has more than room.
func chained(t *testing.T, c *chain, l []api.Tall, room int) {
	t.Helper()
	n := 0
	for _, s := range c.parts {
		if s.Len() == 0 || s.Len() > room || !s.Check() {
			t.Fatalf("a Seq of %d, where there is room for %d", s.Len(), room)
		}
		n += s.Len()
	}
	if n != len(l) || c.size() != len(l) {
		t.Fatalf("%d, %d, want %d", n, c.size(), len(l))
	}
	lines := open(l...)
	for _, i := range around(len(l)) {
		var want api.Tall
		has := i >= 0 && i < len(l)
		if has {
			want = l[i]
		}
		if got, ok := c.get(i); got != want || ok != has {
			t.Fatalf("%v: the %d-th: %v, %v", l, i, got, ok)
		}
		if got := c.sum(i); got != counts(lines[:min(max(i, 0), len(l))]) {
			t.Fatalf("%v: the first %d: %v", l, i, got)
		}
	}
	for _, y := range around(counts(lines).High) {
		want, ahead := lies(lines, y)
		if i, top := c.find(y); i != want || top != ahead {
			t.Fatalf("%v: %d lies in %d, %d, want %d, %d", l, y, i, top, want, ahead)
		}
		in := y >= 0 && y < counts(lines).High
		if i, ok := c.pick(y); ok != in || in && i != want || !in && i != 0 {
			t.Fatalf("%v: %d lies in %d, %v", l, y, i, ok)
		}
	}
}

// P21.1, P21.2: long ways of a chain whose Seqs have little room, so that there are many of them.
func TestManySeqs(t *testing.T) {
	for room := 2; room < 12; room++ {
		x := chance(room)
		c, l := &chain{}, []api.Tall(nil)
		for step := range 150 {
			i := x.below(len(l) + 1)
			n := min(x.below(4)*x.below(5), len(l)-i)
			in := some(step, x.below(4)*x.below(6))
			if len(l) > 50 {
				in = nil
			}
			c.splice(i, i+n, in, room)
			l = slices.Concat(l[:i], in, l[i+n:])
			chained(t, c, l, room)
			if i < len(l) {
				l[i] = tall(x.below(4), x.below(5))
				told(t, c.set(i, l[i]), api.OK)
				chained(t, c, l, room)
			}
			told(t, c.set(len(l), tall(1, 1)), api.ErrRange)
			told(t, c.set(-1, tall(1, 1)), api.ErrRange)
		}
	}
}

// P21.2: heights without High that fill whole Seqs: at the beginning, between others, at the end, and all.
func TestSeqsOfNothing(t *testing.T) {
	nothing := make([]api.Tall, 9)
	for room := 2; room < 6; room++ {
		for _, l := range [][]api.Tall{
			nothing,
			slices.Concat(nothing, some(1, 5)),
			slices.Concat(some(1, 5), nothing),
			slices.Concat(some(1, 5), nothing, some(2, 5)),
			slices.Concat(nothing, some(1, 5), nothing, some(2, 5), nothing),
		} {
			c := &chain{}
			c.splice(0, 0, l, room)
			chained(t, c, l, room)
		}
	}
}

// P21.1: a chain has few Seqs, however often it was changed: mostly a single one, and none that stays behind without heights.
func TestFewSeqs(t *testing.T) {
	c := &chain{}
	for range 50 {
		c.splice(0, 0, some(0, 10), 20)
		c.splice(0, 10, nil, 20)
		if len(c.parts) != 0 {
			t.Fatal(len(c.parts))
		}
	}
	for range 19 {
		c.splice(0, 0, some(0, 1), 20)
		c.splice(c.size(), c.size(), some(0, 1), 20)
		c.splice(0, 1, nil, 20)
	}
	if len(c.parts) != 1 {
		t.Error(len(c.parts))
	}
}
