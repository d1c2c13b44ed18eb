package scene

import (
	"slices"
	"testing"

	"scrivener/api"
	"scrivener/runs"
)

// everyStyles are all styles, of few kinds, of n bytes.
func everyStyles(n int) [][]int {
	all := [][]int{nil}
	for range n {
		var more [][]int
		for _, l := range all {
			for style := range 3 {
				more = append(more, append(slices.Clone(l), style))
			}
		}
		all = more
	}
	return all
}

// P23.1: the styles of each part of some bytes are those that 10.2 tells of that part.
func TestPart(t *testing.T) {
	for n := range 6 {
		for _, l := range everyStyles(n) {
			all := (&model{styles: l}).runs()
			for from := range n + 1 {
				for to := from; to <= n; to++ {
					if got, want := stylesOf(all).part(from, to), runs.Part(all, from, to); !slices.Equal(got, want) {
						t.Fatalf("%v from %d to %d: %v, want %v", l, from, to, got, want)
					}
				}
			}
		}
	}
}

// P23.3: the first byte whose style is another one, and the last one, of all pairs of few styles.
func TestOther(t *testing.T) {
	for n := range 5 {
		for _, a := range everyStyles(n) {
			for _, b := range everyStyles(n) {
				first, last, ok := 0, 0, false
				for i := range a {
					if a[i] != b[i] {
						last = i
						if !ok {
							first, ok = i, true
						}
					}
				}
				x, y, there := other((&model{styles: a}).runs(), (&model{styles: b}).runs())
				if x != first || y != last || there != ok {
					t.Fatalf("%v, %v: %d, %d, %v", a, b, x, y, there)
				}
			}
		}
	}
}

// P23.2: what an edit is told of leaves the styles as they are that it was asked of.
func TestEditOfStyles(t *testing.T) {
	s := stylesOf(dressed(3, 1, 2, 2))
	for _, c := range []struct {
		at, out, in int
		want        []api.Run
	}{{0, 0, 2, dressed(5, 1, 2, 2)}, {3, 0, 2, dressed(5, 1, 2, 2)}, {0, 3, 2, dressed(4, 2)}, {0, 5, 2, dressed(2, 0)}, {5, 0, 1, dressed(3, 1, 3, 2)}, {1, 4, 0, dressed(1, 1)}} {
		if got := s.edit(c.at, c.out, c.in); !slices.Equal(got.runs, c.want) {
			t.Errorf("%d %d %d: %v", c.at, c.out, c.in, got.runs)
		}
		if !slices.Equal(s.runs, dressed(3, 1, 2, 2)) || !slices.Equal(s.ends, []int{3, 5}) {
			t.Fatal(s)
		}
	}
}
