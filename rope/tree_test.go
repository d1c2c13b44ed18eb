package rope

import (
	"slices"
	"testing"

	"scrivener/api"
)

// nodes are all nodes of a part of the tree, from the left.
func nodes(n *node) []*node {
	if n == nil {
		return nil
	}
	return slices.Concat(nodes(n.left), []*node{n}, nodes(n.right))
}

// one is a piece of one byte.
func one() piece {
	return pieceOf([]byte{'x'})
}

// chain is so many levels, each a piece with nothing but the next one beside it.
func chain(levels int, left bool) *node {
	var n *node
	for range levels {
		if left {
			n = tie(n, one(), nil)
		} else {
			n = tie(nil, one(), n)
		}
	}
	return n
}

// full is a part of the tree with so many levels, all of them full.
func full(levels int) *node {
	if levels == 0 {
		return nil
	}
	half := full(levels - 1)
	return tie(half, one(), half)
}

// P11.4: the pieces are what came in, and that is never moved: what is cut shares its memory, and has no room behind it.
func TestNothingIsMoved(t *testing.T) {
	r := made(t, "abcdefghij", most)
	first := r.root.piece.b
	put(t, r, 5, "12\n456")
	second := nodes(r.root)[1].piece.b
	put(t, r, 7, "x")
	put(t, r, 2, "y")
	take(t, r, 4, 2)
	put(t, r, 10, "\n\n")
	want := []struct {
		b     string
		whole []byte
		at    int
	}{
		{"ab", first, 0}, {"y", nil, 0}, {"c", first, 2}, {"12", second, 0}, {"x", nil, 0}, {"\n45", second, 2}, {"\n\n", nil, 0}, {"6", second, 5}, {"fghij", first, 5},
	}
	l := nodes(r.root)
	if len(l) != len(want) || r.Pieces() != len(want) {
		t.Fatalf("%d pieces, told as %d", len(l), r.Pieces())
	}
	for i, w := range want {
		p := l[i].piece
		if string(p.b) != w.b {
			t.Fatalf("piece %d is %q, want %q", i, p.b, w.b)
		}
		if cap(p.b) != len(p.b) || cap(p.feeds) != len(p.feeds) {
			t.Errorf("piece %d, %q, has room behind it", i, p.b)
		}
		if w.whole != nil && &p.b[0] != &w.whole[w.at] {
			t.Errorf("piece %d, %q, was moved", i, p.b)
		}
	}
}

// P11.4: at least one piece, if there are bytes; at most 2 more by each Insert, 1 more by each Delete.
func TestPieces(t *testing.T) {
	if n := made(t, "", most).Pieces(); n != 0 {
		t.Errorf("no bytes: %d pieces", n)
	}
	r := made(t, "abcdefgh", most)
	for i, step := range []struct {
		at, out int
		in      string
		pieces  int
	}{
		{4, 0, "x", 3}, {4, 0, "y", 4}, {0, 0, "z", 5}, {11, 0, "w", 6}, {1, 0, "", 6}, {5, 0, "", 6}, {3, 0, "", 6}, {3, 1, "", 7}, {3, 0, "", 7}, {0, 1, "", 6}, {0, 10, "", 0}, {0, 0, "", 0}, {0, 0, "ab", 1},
	} {
		if step.out > 0 {
			take(t, r, step.at, step.out)
		} else {
			put(t, r, step.at, step.in)
		}
		if n := r.Pieces(); n != step.pieces || !r.Check() {
			t.Errorf("step %d: %d pieces, want %d", i, n, step.pieces)
		}
	}
	put(t, r, 1, "cd")
	n := r.Pieces()
	for at := range r.Len() + 1 {
		take(t, r, at, 0)
		put(t, r, at, "")
	}
	if r.Pieces() != n {
		t.Errorf("%d pieces of %d, and no byte more or less", r.Pieces(), n)
	}
}

// P11.4: Check of a text with nothing wrong in it, and of no text.
func TestCheck(t *testing.T) {
	for _, b := range []string{"", "a", "\n", "a\nb\n"} {
		if r := made(t, b, most); !r.Check() {
			t.Errorf("Check of %q", b)
		}
	}
	if (*Rope)(nil).Check() {
		t.Error("Check of a nil rope")
	}
}

// P11.4: Check tells whatever is noted wrong, in whichever node.
func TestCheckOfWrongNotes(t *testing.T) {
	for name, wrong := range map[string]func(n *node){
		"a byte more noted":        func(n *node) { n.sums.bytes++ },
		"a byte less noted":        func(n *node) { n.sums.bytes-- },
		"a line feed more noted":   func(n *node) { n.sums.feeds++ },
		"a line feed less noted":   func(n *node) { n.sums.feeds-- },
		"a piece more noted":       func(n *node) { n.sums.pieces++ },
		"a level more noted":       func(n *node) { n.sums.levels++ },
		"a level less noted":       func(n *node) { n.sums.levels-- },
		"a byte of the piece gone": func(n *node) { n.piece.b = n.piece.b[1:] },
		"all of the piece gone":    func(n *node) { n.piece = piece{} },
		"a byte is a line feed":    func(n *node) { n.piece.b[0] = '\n' },
		"a line feed is a byte":    func(n *node) { n.piece.b[1] = 'x' },
		"the line feed elsewhere":  func(n *node) { n.piece.b[0], n.piece.b[1] = '\n', 'x' },
		"noted beside it":          func(n *node) { n.piece.feeds[0]-- },
		"noted ahead of all":       func(n *node) { n.piece.feeds[0] -= 2 },
		"noted behind all":         func(n *node) { n.piece.feeds[0] += 2 },
		"noted far behind":         func(n *node) { n.piece.feeds[0] += 1 << 30 },
		"noted far ahead":          func(n *node) { n.piece.feeds[0] -= 1 << 30 },
		"the piece elsewhere":      func(n *node) { n.piece.base++ },
	} {
		for i := range 7 {
			r := made(t, "", most)
			for range 7 {
				put(t, r, r.Len()/2, "a\nb")
			}
			for _, n := range nodes(r.root) {
				n.piece = pieceOf([]byte("a\nb"))
			}
			for _, n := range byLevels(r.root) {
				n.sums = sumsOf(n.left, n.piece, n.right)
			}
			if !r.Check() {
				t.Fatal("Check of what is right")
			}
			wrong(nodes(r.root)[i])
			if r.Check() {
				t.Errorf("%s in the node %d: Check is true", name, i)
			}
		}
	}
}

// byLevels are all nodes of a part of the tree, each behind those below it.
func byLevels(n *node) []*node {
	if n == nil {
		return nil
	}
	return slices.Concat(byLevels(n.left), byLevels(n.right), []*node{n})
}

// P11.4: Check tells one line feed that is noted twice in place of two.
func TestCheckOfLineFeedsNotedTwice(t *testing.T) {
	for _, at := range []int32{0, 1, 2} {
		r := made(t, "\n\nx", most)
		r.root.piece.feeds[0], r.root.piece.feeds[1] = at, at
		if r.Check() {
			t.Errorf("both noted at %d: Check is true", at)
		}
	}
	r := made(t, "\n\nx", most)
	r.root.piece.feeds[0], r.root.piece.feeds[1] = 1, 0
	if r.Check() {
		t.Error("noted the wrong way round: Check is true")
	}
}

// P11.4: a piece of no bytes is none, though all sums about it are right.
func TestCheckOfEmptyPieces(t *testing.T) {
	for _, n := range []*node{tie(nil, piece{}, nil), tie(full(1), piece{}, nil), tie(tie(nil, piece{}, nil), one(), full(1))} {
		if (&Rope{root: n, most: most}).Check() {
			t.Errorf("%d pieces, one of no bytes: Check is true", n.sums.pieces)
		}
	}
}

// P11.4: of two parts neither may be more than two levels deeper than the other one, at the top and further down.
func TestCheckOfUnevenTrees(t *testing.T) {
	for left := range 7 {
		for right := range 7 {
			want := left-right <= 2 && right-left <= 2
			n := tie(full(left), one(), full(right))
			r := &Rope{root: n, most: most}
			if r.Check() != want {
				t.Errorf("%d levels beside %d: Check is %v", left, right, !want)
			}
			levels := n.noted().levels
			for _, top := range []*node{tie(n, one(), full(levels)), tie(full(levels), one(), n)} {
				if r.root = top; r.Check() != want {
					t.Errorf("%d levels beside %d, further down: Check is %v", left, right, !want)
				}
			}
		}
	}
	for levels := range 6 {
		for _, left := range []bool{true, false} {
			r := &Rope{root: chain(levels, left), most: most}
			if r.Check() != (levels <= 3) {
				t.Errorf("a chain of %d: Check is %v", levels, r.Check())
			}
		}
	}
}

// evens are even trees of so many levels, lean and full, with what hangs on either side.
func evens(levels int) []*node {
	if levels == 0 {
		return []*node{nil}
	}
	var l []*node
	for less := range min(3, levels) {
		for _, n := range lean(levels - 1 - less) {
			high := full(levels - 1)
			l = append(l, tie(n, one(), high), tie(high, one(), n))
		}
	}
	return append(l, lean(levels)...)
}

// lean are trees of so many levels with as few pieces as may be, leaning to the left and to the right.
func lean(levels int) []*node {
	if levels <= 0 {
		return []*node{nil}
	}
	var l []*node
	for _, high := range lean(levels - 1) {
		low := lean(levels - 3)[0]
		l = append(l, tie(high, one(), low), tie(low, one(), high))
	}
	return l
}

// P11.4: whatever stands side by side, what comes of it is even.
func TestJoinsAreEven(t *testing.T) {
	for left := range 7 {
		for right := range 7 {
			for _, a := range evens(left) {
				for _, b := range evens(right) {
					ap, al, ae := tree(a)
					bp, bl, be := tree(b)
					if !ae || !be || al != left || bl != right {
						t.Fatal("a test's tree")
					}
					joined, met := join(a, one(), b), meet(a, b)
					if p, l, even := tree(joined); p != ap+bp+1 || !even || !joined.sound() || l > 1+max(al, bl) {
						t.Fatalf("%d levels and %d joined: %d pieces, %d levels, %v", left, right, p, l, even)
					}
					if p, l, even := tree(met); p != ap+bp || !even || !met.sound() || l > 1+max(al, bl) {
						t.Fatalf("%d levels and %d met: %d pieces, %d levels, %v", left, right, p, l, even)
					}
				}
			}
		}
	}
}

// P11.4: however many pieces, few levels: else no call would be quick.
func TestFewLevels(t *testing.T) {
	r := made(t, "", most)
	for range 20000 {
		put(t, r, r.Len(), "x")
	}
	pieces, levels, even := tree(r.root)
	if pieces != 20000 || levels > 26 || !even || !r.Check() || r.Len() != 20000 {
		t.Errorf("%d pieces, %d levels, %v", pieces, levels, even)
	}
}

// The codes beside a tree's notes: a rope that is full stays as it is, node by node.
func TestRefusedIsUntouched(t *testing.T) {
	r := made(t, "ab", 3)
	put(t, r, 1, "\n")
	root := r.root
	if c := r.Insert(1, []byte("x")); c != api.ErrLimit || r.root != root {
		t.Error(c)
	}
	if _, c := r.Delete(1, 3); c != api.ErrRange || r.root != root {
		t.Error(c)
	}
}
