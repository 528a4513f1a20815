package ring_test

import (
	"slices"
	"testing"

	"deemster/api"
	"deemster/part"
	"deemster/ring"
	"deemster/sample"
	"deemster/topo"
)

func TestLeast(t *testing.T) {
	for _, c := range []struct {
		n    int
		l    []api.Edge
		want []int
		e    api.Errno
	}{
		{0, nil, nil, api.ErrNone},
		{3, sample.Edges(0, 1, 1, 2, 0, 2), nil, api.ErrNone},
		{3, sample.Edges(0, 1, 1, 2, 2, 0, 2, 1), []int{1, 2}, api.OK},
		{3, sample.Edges(0, 1, 1, 0, 2, 2), []int{2}, api.OK},
		{3, sample.Edges(2, 2, 1, 1), []int{1}, api.OK},
		{3, sample.Edges(0, 2, 2, 1, 1, 0), []int{0, 2, 1}, api.OK},
		{5, sample.Edges(0, 4, 4, 3, 3, 0, 0, 2, 2, 1, 1, 0), []int{0, 2, 1}, api.OK},
		{5, sample.Edges(0, 1, 1, 4, 1, 3, 4, 0, 3, 0), []int{0, 1, 3}, api.OK},
		{5, sample.Edges(0, 3, 3, 4, 4, 0, 1, 2, 2, 4, 4, 1, 0, 1), []int{0, 3, 4}, api.OK},
		{4, sample.Edges(3, 2, 2, 3, 1, 2, 2, 1, 0, 1), []int{1, 2}, api.OK},
		{-1, nil, nil, api.ErrArg},
		{api.MaxNodes + 1, nil, nil, api.ErrArg},
		{2, sample.Edges(0, 1, 1, 0, 2, 0), nil, api.ErrArg},
	} {
		if got, e := ring.Least(c.n, c.l...); !slices.Equal(got, c.want) || e != c.e {
			t.Errorf("Least(%d, %v): %v %v, want %v %v", c.n, c.l, got, e, c.want, c.e)
		}
	}
}

func TestIs(t *testing.T) {
	l := sample.Edges(0, 1, 1, 2, 2, 0, 1, 0, 2, 2, 3, 0)
	for _, right := range [][]int{{0, 1, 2}, {0, 1}, {2}} {
		if !ring.Is(4, right, l...) {
			t.Errorf("%v is a ring", right)
		}
	}
	for _, wrong := range [][]int{nil, {0}, {1, 0}, {1, 2, 0}, {0, 2, 1}, {0, 1, 0, 1}, {2, 2}, {0, 1, 2, 2}, {0, 3}, {3}, {4}, {-1}, {0, 1, -1}, {1 << 62}, {0, 1, 2, 0, 1, 2}} {
		if ring.Is(4, wrong, l...) {
			t.Errorf("%v is no ring", wrong)
		}
	}
	if ring.Is(-1, []int{0}, l...) || ring.Is(3, []int{0, 1}, l...) || ring.Is(api.MaxNodes+1, []int{2}, l...) {
		t.Error("there is no such graph")
	}
}

// rings tells all rings of a small graph, those of fewer nodes first, then by their first unlike node.
func rings(n int, l []api.Edge) [][]int {
	var found [][]int
	var grow func(way []int)
	grow = func(way []int) {
		last := way[len(way)-1]
		if slices.Contains(l, api.Edge{A: last, B: way[0]}) {
			found = append(found, way)
		}
		for v := way[0] + 1; v < n; v++ {
			if slices.Contains(l, api.Edge{A: last, B: v}) && !slices.Contains(way, v) {
				grow(append(slices.Clone(way), v))
			}
		}
	}
	for v := range n {
		grow([]int{v})
	}
	slices.SortFunc(found, func(a, b []int) int {
		if len(a) != len(b) {
			return len(a) - len(b)
		}
		return slices.Compare(a, b)
	})
	return found
}

func TestAgainstAllRings(t *testing.T) {
	for seed := range 3000 {
		n := 1 + seed%6
		var l []api.Edge
		for i := range seed % 14 {
			x := api.Edge{A: (seed*7 + i*i*3) / 5 % n, B: (seed/3 + i*5 + i/3) % n}
			if x.A != x.B || seed%11 == 0 {
				l = append(l, x)
			}
		}
		all := rings(n, l)
		got, e := ring.Least(n, l...)
		round, _ := part.Round(n, l...)
		if (e == api.ErrNone) != (len(all) == 0) || round != (len(all) > 0) || len(all) > 0 && !slices.Equal(got, all[0]) {
			t.Fatalf("%d nodes, %v: %v %v, want of %v", n, l, got, e, all)
		}
		for _, r := range all {
			if !ring.Is(n, r, l...) {
				t.Fatalf("%d nodes, %v: %v is a ring", n, l, r)
			}
		}
		if _, none := topo.Least(n, l...); (none == api.OK) == (e == api.OK) {
			t.Fatalf("%d nodes, %v: an order and a ring", n, l)
		}
	}
}

func TestLong(t *testing.T) {
	var l []api.Edge
	var want []int
	for i := range api.MaxNodes {
		l = append(l, api.Edge{A: i, B: (i + 1) % api.MaxNodes})
		want = append(want, i)
	}
	if got, e := ring.Least(api.MaxNodes, l...); !slices.Equal(got, want) || e != api.OK {
		t.Errorf("%d nodes, %v", len(got), e)
	}
	if !ring.Is(api.MaxNodes, want, l...) || ring.Is(api.MaxNodes, want[1:], l...) {
		t.Error("Is of a long ring")
	}
	l = nil
	for a := range api.MaxNodes {
		for b := a + 1; b < api.MaxNodes; b++ {
			l = append(l, api.Edge{A: a, B: b})
		}
	}
	if got, e := ring.Least(api.MaxNodes, l...); len(got) > 0 || e != api.ErrNone {
		t.Errorf("%v %v", got, e)
	}
}
