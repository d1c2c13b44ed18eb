package heights

import (
	"slices"

	"scrivener/api"
	"scrivener/seq"
)

// chain is heights in Seqs one behind the other, mostly in a single one. It takes several where there are more than a Seq holds: a text has one line more than line feeds.
type chain struct{ parts []*seq.Seq }

// size is how many heights there are.
func (c chain) size() int {
	n := 0
	for _, s := range c.parts {
		n += s.Len()
	}
	return n
}

// within is the Seq in which the i-th height lies, and which one of its own that is; nil, in which none lies, if there is no i-th.
func (c chain) within(i int) (*seq.Seq, int) {
	for _, s := range c.parts {
		if i < s.Len() {
			return s, i
		}
		i -= s.Len()
	}
	return nil, 0
}

// get is the i-th height, and whether there is one.
func (c chain) get(i int) (api.Tall, bool) {
	s, k := c.within(i)
	return s.Get(k)
}

// set makes the i-th height t.
func (c chain) set(i int, t api.Tall) api.Code {
	s, k := c.within(i)
	return s.Set(k, t)
}

// sum is how much the first i heights are together.
func (c chain) sum(i int) api.Tall {
	all := api.Tall{}
	for _, s := range c.parts {
		ahead := s.Sum(i)
		all.Rows += ahead.Rows
		all.High += ahead.High
		// Of an i below 0 nothing is ahead in any of the Seqs.
		i -= min(i, s.Len())
	}
	return all
}

// find is the height in which y lies, and how high all ahead of it are, as a Seq says it.
func (c chain) find(y int) (i, top int) {
	i = -1
	at, ahead := 0, 0
	y = max(y, 0)
	for _, s := range c.parts {
		k, first := s.Find(y - ahead)
		// What lies behind y is not asked for; a Seq without a High has nothing to tell.
		if k >= 0 && ahead <= y {
			i, top = at+k, ahead+first
		}
		at += s.Len()
		ahead += s.Sum(s.Len()).High
	}
	return i, top
}

// pick is the height in which y lies, and whether it lies in one.
func (c chain) pick(y int) (int, bool) {
	if y < 0 || y >= c.sum(c.size()).High {
		return 0, false
	}
	i, _ := c.find(y)
	return i, true
}

// splice puts l in place of the heights from from on, ahead of to. No Seq gets more than room (at least two).
func (c *chain) splice(from, to int, l []api.Tall, room int) {
	c.cut(from, to-from)
	// Any half of a Seq has place for half of room.
	for piece := range slices.Chunk(l, room/2) {
		c.put(from, piece, room)
		from += len(piece)
	}
}

// cut takes n heights from the i-th on away.
func (c *chain) cut(i, n int) {
	for _, s := range c.parts {
		long := s.Len()
		if i < long {
			gone := min(n, long-i)
			s.Delete(i, gone)
			n -= gone
		}
		i -= min(i, long)
	}
	c.parts = slices.DeleteFunc(c.parts, func(s *seq.Seq) bool { return s.Len() == 0 })
}

// put puts l ahead of the i-th height.
func (c *chain) put(i int, l []api.Tall, room int) {
	if i == c.size() {
		c.add(l, room)
		return
	}
	s, k := c.within(i)
	if s.Len()+len(l) > room {
		c.halve(s)
		s, k = c.within(i)
	}
	s.Insert(k, l...)
}

// add puts l behind all heights.
func (c *chain) add(l []api.Tall, room int) {
	last := len(c.parts) - 1
	if last < 0 || c.parts[last].Len()+len(l) > room {
		s, _ := seq.New(l...)
		c.parts = append(c.parts, s)
		return
	}
	c.parts[last].Insert(c.parts[last].Len(), l...)
}

// halve makes two Seqs of s, one behind the other.
func (c *chain) halve(s *seq.Seq) {
	half := s.Len() / 2
	var l []api.Tall
	for i := half; i < s.Len(); i++ {
		t, _ := s.Get(i)
		l = append(l, t)
	}
	s.Delete(half, len(l))
	behind, _ := seq.New(l...)
	c.parts = slices.Insert(c.parts, slices.Index(c.parts, s)+1, behind)
}
