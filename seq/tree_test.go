package seq

import (
	"slices"
	"testing"

	"scrivener/api"
)

// shape is how a tree is made: of two parts, or, nil, of a leaf.
type shape struct{ left, right *shape }

// evens are all shapes of even trees of so many levels.
func evens(levels int) []*shape {
	if levels == 1 {
		return []*shape{nil}
	}
	high := evens(levels - 1)
	l := pairs(high, high)
	if levels > 2 {
		low := evens(levels - 2)
		l = slices.Concat(l, pairs(high, low), pairs(low, high))
	}
	return l
}

// pairs are the shapes of one of a beside one of b.
func pairs(a, b []*shape) []*shape {
	var l []*shape
	for _, x := range a {
		for _, y := range b {
			l = append(l, &shape{x, y})
		}
	}
	return l
}

// leaf is a leaf of l.
func leaf(l ...api.Tall) *node {
	return noted(node{leaf: l})
}

// grow is a tree of a shape, whose leaves have so many heights each, all of them other ones, from the number first on; and the number behind them.
func grow(s *shape, many, first int) (*node, int) {
	if s == nil {
		var l []api.Tall
		for i := first; i < first+many; i++ {
			l = append(l, tall(i+1, 2*i+1))
		}
		return leaf(l...), first + many
	}
	left, next := grow(s.left, many, first)
	right, next := grow(s.right, many, next)
	return tie(left, right), next
}

// plain is a full tree of so many levels.
func plain(levels int) *node {
	if levels == 1 {
		return leaf(tall(1, 2))
	}
	return tie(plain(levels-1), plain(levels-1))
}

// nodes are all nodes of a part of the tree, each behind those below it.
func nodes(n *node) []*node {
	if n == nil {
		return nil
	}
	return slices.Concat(nodes(n.left), nodes(n.right), []*node{n})
}

// right looks whether a tree has the heights l, is even, and has nothing wrong noted in it.
func right(t *testing.T, n *node, l []api.Tall) {
	t.Helper()
	got, levels, even := tree(n)
	if !slices.Equal(got, l) || !even {
		t.Fatalf("%v, want %v; %d levels, even: %v", got, l, levels, even)
	}
	if !n.sound() || n != nil && n.notes.levels != levels {
		t.Fatalf("noted are %v, of %d levels", n.notes, levels)
	}
}

// P20.4: Check of a Seq with nothing wrong in it, and of none.
func TestCheck(t *testing.T) {
	for n := range 3 * room {
		if s := made(t, some(n, n)...); !s.Check() {
			t.Errorf("Check of %d", n)
		}
	}
	if (*Seq)(nil).Check() {
		t.Error("Check of a nil Seq")
	}
}

// P20.4: Check tells whatever is noted wrong, in whichever node.
func TestCheckOfWrongNotes(t *testing.T) {
	for name, damage := range map[string]func(n *node){
		"one more noted":    func(n *node) { n.notes.counts[byOne]++ },
		"one less noted":    func(n *node) { n.notes.counts[byOne]-- },
		"a row more noted":  func(n *node) { n.notes.counts[byRows]++ },
		"a row less noted":  func(n *node) { n.notes.counts[byRows]-- },
		"noted too high":    func(n *node) { n.notes.counts[byHigh]++ },
		"noted too low":     func(n *node) { n.notes.counts[byHigh]-- },
		"a level more":      func(n *node) { n.notes.levels++ },
		"a level less":      func(n *node) { n.notes.levels-- },
		"nothing noted":     func(n *node) { n.notes = notes{} },
		"both sums swapped": func(n *node) { c := &n.notes.counts; c[byRows], c[byHigh] = c[byHigh], c[byRows] },
	} {
		for i := range 15 {
			root, _ := grow(evens(4)[0], 3, 0)
			s := &Seq{root: root}
			if !s.Check() {
				t.Fatal("Check of what is right")
			}
			damage(nodes(root)[i])
			if s.Check() {
				t.Errorf("%s in the node %d: Check is true", name, i)
			}
		}
	}
}

// P20.4: Check tells a height that is another one than was noted, one that is gone, and one too many.
func TestCheckOfOtherHeights(t *testing.T) {
	for name, damage := range map[string]func(n *node){
		"more rows":    func(n *node) { n.leaf[1].Rows++ },
		"less high":    func(n *node) { n.leaf[1].High-- },
		"one is gone":  func(n *node) { n.leaf = n.leaf[1:] },
		"all are gone": func(n *node) { n.leaf = nil },
		"one too many": func(n *node) { n.leaf = append(n.leaf, tall(0, 0)) },
	} {
		for i, n := range nodes(plain(4)) {
			if n.left != nil {
				continue
			}
			root, _ := grow(evens(4)[0], 3, 0)
			damage(nodes(root)[i])
			if (&Seq{root: root}).Check() {
				t.Errorf("%s in the node %d: Check is true", name, i)
			}
		}
	}
}

// P20.4: of two parts neither may be more than one level deeper than the other one, at the top and further down.
func TestCheckOfUnevenTrees(t *testing.T) {
	for left := 1; left < 7; left++ {
		for right := 1; right < 7; right++ {
			want := left-right <= 1 && right-left <= 1
			n := tie(plain(left), plain(right))
			if (&Seq{root: n}).Check() != want {
				t.Errorf("%d levels beside %d: Check is %v", left, right, !want)
			}
			beside := plain(n.notes.levels)
			for _, top := range []*node{tie(n, beside), tie(beside, n)} {
				if (&Seq{root: top}).Check() != want {
					t.Errorf("%d levels beside %d, further down: Check is %v", left, right, !want)
				}
			}
		}
	}
}

// P20.4: whichever even trees stand side by side, what comes of them is even, and at most one level deeper than both.
func TestJoinsAreEven(t *testing.T) {
	var all []*shape
	for levels := 1; levels <= 5; levels++ {
		all = append(all, evens(levels)...)
	}
	for _, a := range all {
		for _, b := range all {
			x, next := grow(a, 1, 0)
			y, end := grow(b, 1, next)
			n := join(x, y)
			right(t, n, numbers(0, end))
			if deep := max(x.notes.levels, y.notes.levels); n.notes.levels < deep || n.notes.levels > deep+1 {
				t.Fatalf("%d levels and %d: %d", x.notes.levels, y.notes.levels, n.notes.levels)
			}
		}
	}
	if join(nil, nil) != nil || len(all) != 335 {
		t.Error(len(all))
	}
	one := leaf(tall(1, 1))
	if join(nil, one) != one || join(one, nil) != one {
		t.Error("one and none")
	}
}

// numbers are the heights that grow makes of the numbers from first on, ahead of end.
func numbers(first, end int) []api.Tall {
	var l []api.Tall
	for i := first; i < end; i++ {
		l = append(l, tall(i+1, 2*i+1))
	}
	return l
}

// P20.4: trees as lean as may be, and full ones, deep and flat, side by side.
func TestDeepJoins(t *testing.T) {
	lean := func(left bool) []*shape {
		l := []*shape{nil, {}}
		for i := 2; i < 11; i++ {
			if left {
				l = append(l, &shape{l[i-1], l[i-2]})
			} else {
				l = append(l, &shape{l[i-2], l[i-1]})
			}
		}
		return l
	}
	full := []*shape{nil}
	for i := range 9 {
		full = append(full, &shape{full[i], full[i]})
	}
	all := slices.Concat(lean(true), lean(false), full)
	for _, a := range all {
		for _, b := range all {
			x, next := grow(a, 1, 0)
			y, end := grow(b, 1, next)
			right(t, join(x, y), numbers(0, end))
		}
	}
}

// P20.2, P20.4: whichever span of whichever even tree goes, and whatever comes in its place, what comes of it is right.
func TestSplices(t *testing.T) {
	for levels := 1; levels <= 4; levels++ {
		for _, s := range evens(levels) {
			for many := 1; many <= 2; many++ {
				_, end := grow(s, many, 0)
				for from := range end + 1 {
					for to := from; to <= end; to++ {
						for _, l := range [][]api.Tall{nil, some(2, 1), some(5, room), some(1, 4*room)} {
							n, _ := grow(s, many, 0)
							right(t, n.splice(from, to, l), slices.Concat(numbers(0, from), l, numbers(to, end)))
							right(t, n, numbers(0, end))
						}
					}
				}
			}
		}
	}
}

// P20.4: as many heights as may be in as few leaves: a tree of many has few levels, however it came to be.
func TestFewLevels(t *testing.T) {
	for n := 1; n < 5000; n += 7 {
		l := some(0, n)
		root := build(l)
		right(t, root, l)
		if most := 1 << (root.notes.levels - 1) * room; most < n || most >= 2*n && most > room {
			t.Fatalf("%d heights: %d levels", n, root.notes.levels)
		}
	}
	for name, at := range places {
		s := made(t)
		for range 20000 {
			told(t, s.Insert(at(s.Len()), tall(1, 9)), api.OK)
		}
		if all := nodes(s.root); s.root.notes.levels > 16 || len(all) > 2*20000/(room/2) || s.Len() != 20000 || !s.Check() {
			t.Errorf("%s: %d levels, %d nodes", name, s.root.notes.levels, len(all))
		}
	}
}

// P20.1: Set of each height of whichever even tree.
func TestSetInTrees(t *testing.T) {
	for levels := 1; levels <= 4; levels++ {
		for _, s := range evens(levels) {
			_, end := grow(s, 2, 0)
			for i := range end {
				n, _ := grow(s, 2, 0)
				n.set(i, tall(i, 1000))
				l := numbers(0, end)
				l[i] = tall(i, 1000)
				right(t, n, l)
			}
		}
	}
}

// P20.3: what lies where, in whichever even tree.
func TestSeekInTrees(t *testing.T) {
	for levels := 1; levels <= 4; levels++ {
		for _, s := range evens(levels) {
			root, end := grow(s, 2, 0)
			holds(t, &Seq{root: root}, numbers(0, end))
		}
	}
}
