package rope

import "scrivener/calc"

// slack is by how many levels one part of the tree may be deeper than the part beside it.
const slack = 2

// node is a part of the tree: a piece, the part ahead of it, and the part behind it. A node is never changed: where the tree changes, the nodes on the way there are made anew.
type node struct {
	left, right *node
	piece       piece
	sums        sums
}

// sums is what is noted of a part of the tree.
type sums struct{ bytes, feeds, pieces, levels int }

// noted is what is noted of n; noughts of none.
func (n *node) noted() sums {
	if n == nil {
		return sums{}
	}
	return n.sums
}

// sumsOf is what is to be noted of a piece between two parts.
func sumsOf(left *node, p piece, right *node) sums {
	l, r := left.noted(), right.noted()
	return sums{
		bytes:  l.bytes + len(p.b) + r.bytes,
		feeds:  l.feeds + len(p.feeds) + r.feeds,
		pieces: l.pieces + 1 + r.pieces,
		levels: 1 + max(l.levels, r.levels),
	}
}

// tie is a piece between two parts that are even enough.
func tie(left *node, p piece, right *node) *node {
	return &node{left: left, right: right, piece: p, sums: sumsOf(left, p, right)}
}

// deeper is whether a is too deep to stand beside b.
func deeper(a, b *node) bool {
	return a.noted().levels > b.noted().levels+slack
}

// even is a piece between two parts, of which one may be one level too deep.
func even(left *node, p piece, right *node) *node {
	switch {
	case deeper(left, right):
		return turnRight(left, p, right)
	case deeper(right, left):
		return turnLeft(left, p, right)
	}
	return tie(left, p, right)
}

// turnRight is a piece between two parts, of which the left one is too deep.
func turnRight(left *node, p piece, right *node) *node {
	outer, inner := left.left, left.right
	if outer.noted().levels >= inner.noted().levels {
		return tie(outer, left.piece, tie(inner, p, right))
	}
	return tie(tie(outer, left.piece, inner.left), inner.piece, tie(inner.right, p, right))
}

// turnLeft is a piece between two parts, of which the right one is too deep.
func turnLeft(left *node, p piece, right *node) *node {
	inner, outer := right.left, right.right
	if outer.noted().levels >= inner.noted().levels {
		return tie(tie(left, p, inner), right.piece, outer)
	}
	return tie(tie(left, p, inner.left), inner.piece, tie(inner.right, right.piece, outer))
}

// join is a piece between two parts, however deep each is.
func join(left *node, p piece, right *node) *node {
	switch {
	case deeper(left, right):
		return even(left.left, left.piece, join(left.right, p, right))
	case deeper(right, left):
		return even(join(left, p, right.left), right.piece, right.right)
	}
	return tie(left, p, right)
}

// meet is two parts side by side, with nothing between them.
func meet(left, right *node) *node {
	if left == nil {
		return right
	}
	rest, p := left.last()
	return join(rest, p, right)
}

// last is the last piece of n, and what of n is ahead of it.
func (n *node) last() (*node, piece) {
	if n.right == nil {
		return n.left, n.piece
	}
	rest, p := n.right.last()
	return even(n.left, n.piece, rest), p
}

// split is what of n lies ahead of its place at, and what lies behind.
func (n *node) split(at int) (ahead, behind *node) {
	if n == nil {
		return nil, nil
	}
	start, end := n.ends()
	switch {
	case at <= start:
		ahead, behind = n.left.split(at)
		return ahead, join(behind, n.piece, n.right)
	case at >= end:
		ahead, behind = n.right.split(at - end)
		return join(n.left, n.piece, ahead), behind
	}
	in := at - start
	return join(n.left, n.piece.cut(0, in), nil), join(nil, n.piece.cut(in, end-start), n.right)
}

// ends is where in n its own piece begins, and where that ends.
func (n *node) ends() (start, end int) {
	start = n.left.noted().bytes
	return start, start + len(n.piece.b)
}

// each calls do, piece by piece, with the bytes of n from from on, ahead of to.
func (n *node) each(from, to int, do func(b []byte)) {
	if n == nil || from >= n.sums.bytes || to <= 0 {
		return
	}
	start, end := n.ends()
	n.left.each(from, to, do)
	if i, j := calc.Clamp(from, start, end), calc.Clamp(to, start, end); i < j {
		do(n.piece.b[i-start : j-start])
	}
	n.right.each(from-end, to-end, do)
}

// sound is whether all that is noted in n is right, and n is even.
func (n *node) sound() bool {
	if n == nil {
		return true
	}
	return n.piece.sound() && n.sums == sumsOf(n.left, n.piece, n.right) &&
		!deeper(n.left, n.right) && !deeper(n.right, n.left) &&
		n.left.sound() && n.right.sound()
}
