package rope

import (
	"bytes"
	"slices"
)

// feed is a line feed.
const feed = 0x0a

// piece is bytes that came in by one call and lie side by side in the text. They stay where they are: what is cut of a piece shares them.
type piece struct {
	b []byte
	// feeds tells where the line feeds of b stand, reckoned in all bytes that came in with it, of which b begins at base: so a piece is cut without a look at its bytes. A text is short enough for 32 bits.
	feeds []int32
	base  int
}

// pieceOf is a copy of b as one piece.
func pieceOf(b []byte) piece {
	p := piece{b: bytes.Clone(b), feeds: make([]int32, 0, countFeeds(b))}
	for i, c := range b {
		if c == feed {
			p.feeds = append(p.feeds, int32(i))
		}
	}
	return p.cut(0, len(b))
}

// countFeeds is how many line feeds are in b.
func countFeeds(b []byte) int {
	return bytes.Count(b, []byte{feed})
}

// cut is the piece from from on, ahead of to. No room is left behind it, as that is other pieces' bytes.
func (p piece) cut(from, to int) piece {
	i, j := p.ahead(from), p.ahead(to)
	return piece{b: p.b[from:to:to], feeds: p.feeds[i:j:j], base: p.base + from}
}

// ahead is how many line feeds of the piece stand ahead of its place at.
func (p piece) ahead(at int) int {
	k, _ := slices.BinarySearch(p.feeds, int32(p.base+at))
	return k
}

// place is where in the piece its k-th line feed stands.
func (p piece) place(k int) int {
	return int(p.feeds[k]) - p.base
}

// sound is whether the piece has bytes, and its line feeds stand where they are noted.
func (p piece) sound() bool {
	past := -1
	for k := range p.feeds {
		at := p.place(k)
		if at <= past || at >= len(p.b) || p.b[at] != feed {
			return false
		}
		past = at
	}
	return len(p.b) > 0 && len(p.feeds) == countFeeds(p.b)
}
