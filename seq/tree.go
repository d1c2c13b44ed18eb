package seq

import (
	"slices"

	"scrivener/api"
)

// What heights are counted by: each as one, by its rows, by how high it is.
const (
	byOne = iota
	byRows
	byHigh
	ways
)

// counts is how much heights are together, by each of these.
type counts [ways]int

// countsOf is how much one height is.
func countsOf(t api.Tall) counts {
	return counts{byOne: 1, byRows: t.Rows, byHigh: t.High}
}

// and is how much c and d are together.
func (c counts) and(d counts) counts {
	for what := range ways {
		c[what] += d[what]
	}
	return c
}

const (
	// room is how many heights a leaf has at most: so a tree of many takes up not much more than they do.
	room = 32
	// slack is by how many levels one part of the tree may be deeper than the part beside it.
	slack = 1
)

// node is a part of the tree: two parts, one behind the other, or, where there are none, a leaf of heights. What lies in a node lies in no other tree, so that a height is set where it stands.
type node struct {
	left, right *node
	leaf        []api.Tall
	notes       notes
}

// notes is what is noted of a part of the tree.
type notes struct {
	counts counts
	levels int
}

// reckoned is what is to be noted of n.
func (n *node) reckoned() notes {
	if n.left == nil {
		all := counts{}
		for _, t := range n.leaf {
			all = all.and(countsOf(t))
		}
		return notes{counts: all, levels: 1}
	}
	l, r := n.left.notes, n.right.notes
	return notes{counts: l.counts.and(r.counts), levels: 1 + max(l.levels, r.levels)}
}

// noted is n, with what is to be noted of it.
func noted(n node) *node {
	n.notes = n.reckoned()
	return &n
}

// tie is two parts that are even enough, one behind the other.
func tie(left, right *node) *node {
	return noted(node{left: left, right: right})
}

// build is a tree of the heights l, as even as may be; none of none.
func build(l []api.Tall) *node {
	switch half := len(l) / 2; {
	case len(l) == 0:
		return nil
	case len(l) <= room:
		return noted(node{leaf: slices.Clone(l)})
	default:
		return tie(build(l[:half]), build(l[half:]))
	}
}

// deeper is whether a is too deep to stand beside b.
func deeper(a, b *node) bool {
	return a.notes.levels > b.notes.levels+slack
}

// even is two parts, one behind the other, of which one may be one level too deep.
func even(left, right *node) *node {
	switch {
	case deeper(left, right):
		return turnRight(left, right)
	case deeper(right, left):
		return turnLeft(left, right)
	}
	return tie(left, right)
}

// turnRight is two parts, one behind the other, of which the left one is too deep.
func turnRight(left, right *node) *node {
	outer, inner := left.left, left.right
	if outer.notes.levels >= inner.notes.levels {
		return tie(outer, tie(inner, right))
	}
	return tie(tie(outer, inner.left), tie(inner.right, right))
}

// turnLeft is two parts, one behind the other, of which the right one is too deep.
func turnLeft(left, right *node) *node {
	inner, outer := right.left, right.right
	if outer.notes.levels >= inner.notes.levels {
		return tie(tie(left, inner), outer)
	}
	return tie(tie(left, inner.left), tie(inner.right, outer))
}

// join is two parts, one behind the other, however deep each is.
func join(left, right *node) *node {
	switch {
	case left == nil:
		return right
	case right == nil:
		return left
	case deeper(left, right):
		return even(left.left, join(left.right, right))
	case deeper(right, left):
		return even(join(left, right.left), right.right)
	}
	return tie(left, right)
}

// ahead is what of n lies ahead of its i-th height: all whole leaves but the last one, and the heights behind these.
func (n *node) ahead(i int) (*node, []api.Tall) {
	switch {
	case n == nil:
		return nil, nil
	case n.left == nil:
		return nil, n.leaf[:i]
	}
	behind := i - n.left.notes.counts[byOne]
	if behind <= 0 {
		return n.left.ahead(i)
	}
	rest, l := n.right.ahead(behind)
	return join(n.left, rest), l
}

// behind is what of n lies behind that, from its i-th height on, the other way round.
func (n *node) behind(i int) ([]api.Tall, *node) {
	switch {
	case n == nil:
		return nil, nil
	case n.left == nil:
		return n.leaf[i:], nil
	}
	behind := i - n.left.notes.counts[byOne]
	if behind >= 0 {
		return n.right.behind(behind)
	}
	l, rest := n.left.behind(i)
	return l, join(rest, n.right)
}

// splice is n with l in place of its heights from from on, ahead of to. The leaves to both sides are made anew with l, so that small ones do not add up.
func (n *node) splice(from, to int, l []api.Tall) *node {
	ahead, first := n.ahead(from)
	last, behind := n.behind(to)
	return join(join(ahead, build(slices.Concat(first, l, last))), behind)
}

// set makes the i-th height of n t.
func (n *node) set(i int, t api.Tall) {
	if n.left == nil {
		n.leaf[i] = t
	} else if behind := i - n.left.notes.counts[byOne]; behind < 0 {
		n.left.set(i, t)
	} else {
		n.right.set(behind, t)
	}
	n.notes = n.reckoned()
}

// seek is the height of n in which at lies, counted by what, and how much all of n ahead of it are. It lies in one: at is from 0 on, below all.
func (n *node) seek(at, what int) (api.Tall, counts) {
	ahead := counts{}
	for n.left != nil {
		if next := ahead.and(n.left.notes.counts); at < next[what] {
			n = n.left
		} else {
			n, ahead = n.right, next
		}
	}
	i := slices.IndexFunc(n.leaf, func(t api.Tall) bool {
		next := ahead.and(countsOf(t))
		if at < next[what] {
			return true
		}
		ahead = next
		return false
	})
	return n.leaf[i], ahead
}

// sound is whether all that is noted in n is right, and n is even.
func (n *node) sound() bool {
	switch {
	case n == nil:
		return true
	case n.left == nil:
		return n.notes == n.reckoned()
	}
	return n.notes == n.reckoned() &&
		!deeper(n.left, n.right) && !deeper(n.right, n.left) &&
		n.left.sound() && n.right.sound()
}
