package scene

import (
	"slices"

	"scrivener/api"
	"scrivener/runs"
)

// styles is the styles of a text's bytes: good runs, and where each of them ends, so that those of a line are found without a look at all others.
type styles struct {
	runs []api.Run
	ends []int
}

// stylesOf is the styles that good runs are, which are kept.
func stylesOf(l []api.Run) styles {
	ends, end := make([]int, len(l)), 0
	for i, r := range l {
		end += r.Len
		ends[i] = end
	}
	return styles{runs: l, ends: ends}
}

// part is the runs of the bytes from from on, ahead of to, which are all there.
func (s styles) part(from, to int) []api.Run {
	i, _ := slices.BinarySearch(s.ends, from+1)
	var l []api.Run
	for ; from < to; i++ {
		end := min(to, s.ends[i])
		l = append(l, api.Run{Len: end - from, Style: s.runs[i].Style})
		from = end
	}
	return l
}

// edit is the styles behind an edit that may be done.
func (s styles) edit(at, out, in int) styles {
	l, _ := runs.Delete(s.runs, at, out)
	l, _ = runs.Insert(l, at, in)
	return stylesOf(l)
}

// other is the first byte whose style is another one in a than in b, which are good and have as many bytes, the last such byte, and whether there is one.
func other(a, b []api.Run) (first, last int, ok bool) {
	all := runs.Len(a)
	first = alike(a, b)
	if first == all {
		return 0, 0, false
	}
	return first, all - 1 - alike(turned(a), turned(b)), true
}

// alike is with how many bytes of the same styles a and b begin, which are good and have as many bytes.
func alike(a, b []api.Run) int {
	n := 0
	for i := range min(len(a), len(b)) {
		if a[i].Style != b[i].Style {
			return n
		}
		n += min(a[i].Len, b[i].Len)
		// Behind the end of one of both the styles are not the same, as no two runs side by side have the same one.
		if a[i].Len != b[i].Len {
			return n
		}
	}
	return n
}

// turned is runs in reverse order.
func turned(l []api.Run) []api.Run {
	l = slices.Clone(l)
	slices.Reverse(l)
	return l
}
