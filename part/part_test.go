package part_test

import (
	"reflect"
	"slices"
	"testing"

	"deemster/api"
	"deemster/part"
	"deemster/sample"
)

func TestExamples(t *testing.T) {
	for _, c := range []struct {
		n     int
		l     []api.Edge
		parts [][]int
		which []int
		round bool
	}{
		{0, nil, nil, nil, false},
		{1, nil, [][]int{{0}}, []int{0}, false},
		{1, sample.Edges(0, 0), [][]int{{0}}, []int{0}, true},
		{3, sample.Edges(0, 1, 1, 0, 1, 2), [][]int{{0, 1}, {2}}, []int{0, 0, 1}, true},
		{3, sample.Edges(2, 1, 1, 0, 2, 0), [][]int{{0}, {1}, {2}}, []int{0, 1, 2}, false},
		{5, sample.Edges(4, 0, 0, 4, 3, 1, 1, 3, 0, 1, 2, 2), [][]int{{0, 4}, {1, 3}, {2}}, []int{0, 1, 2, 1, 0}, true},
		{4, sample.Edges(3, 2, 2, 1, 1, 3, 1, 0), [][]int{{0}, {1, 2, 3}}, []int{0, 1, 1, 1}, true},
	} {
		parts, e := part.Of(c.n, c.l...)
		if len(parts) != len(c.parts) || len(parts) > 0 && !reflect.DeepEqual(parts, c.parts) || e != api.OK {
			t.Errorf("Of(%d, %v): %v %v", c.n, c.l, parts, e)
		}
		if which, e := part.Which(c.n, c.l...); !slices.Equal(which, c.which) || e != api.OK {
			t.Errorf("Which(%d, %v): %v %v", c.n, c.l, which, e)
		}
		if round, e := part.Round(c.n, c.l...); round != c.round || e != api.OK {
			t.Errorf("Round(%d, %v): %v %v", c.n, c.l, round, e)
		}
	}
}

func TestWrong(t *testing.T) {
	for _, c := range []struct {
		n int
		l []api.Edge
	}{{-1, nil}, {api.MaxNodes + 1, nil}, {2, sample.Edges(0, 2)}, {2, sample.Edges(0, 1, 1, 0, -1, 0)}, {0, sample.Edges(0, 0)}, {-1 << 63, sample.Edges(0, 0)}} {
		if parts, e := part.Of(c.n, c.l...); len(parts) > 0 || e != api.ErrArg {
			t.Errorf("Of(%d, %v): %v %v", c.n, c.l, parts, e)
		}
		if which, e := part.Which(c.n, c.l...); len(which) > 0 || e != api.ErrArg {
			t.Errorf("Which(%d, %v): %v %v", c.n, c.l, which, e)
		}
		if round, e := part.Round(c.n, c.l...); round || e != api.ErrArg {
			t.Errorf("Round(%d, %v): %v %v", c.n, c.l, round, e)
		}
	}
}

// ways tells from where to where ways of edges lead.
func ways(n int, l []api.Edge) [6][6]int {
	var r [6][6]int
	for _, x := range l {
		r[x.A][x.B] = 1
	}
	for k := range n {
		for i := range n {
			for j := range n {
				r[i][j] |= r[i][k] & r[k][j]
			}
		}
	}
	return r
}

func TestAgainstWays(t *testing.T) {
	for seed := range 2000 {
		n := 1 + seed%6
		var l []api.Edge
		for i := range seed % 9 {
			l = append(l, api.Edge{A: (seed*7 + i*i*3) / 5 % n, B: (seed/3 + i*5) % n})
		}
		r := ways(n, l)
		which, _ := part.Which(n, l...)
		parts, _ := part.Of(n, l...)
		round, _ := part.Round(n, l...)
		goes := false
		for a := range n {
			goes = goes || r[a][a] == 1
			for b := range n {
				if (which[a] == which[b]) != (a == b || r[a][b]&r[b][a] == 1) {
					t.Fatalf("%d nodes, %v: %d and %d: %v", n, l, a, b, which)
				}
			}
			if !slices.Contains(parts[which[a]], a) {
				t.Fatalf("%d nodes, %v: %v, %v", n, l, parts, which)
			}
		}
		if round != goes {
			t.Fatalf("%d nodes, %v: Round %v", n, l, round)
		}
		nodes := 0
		for i, p := range parts {
			nodes += len(p)
			if !slices.IsSorted(p) || i > 0 && parts[i-1][0] >= p[0] {
				t.Fatalf("%d nodes, %v: %v is not in order", n, l, parts)
			}
		}
		var between []api.Edge
		for _, x := range l {
			if which[x.A] != which[x.B] {
				between = append(between, x)
			}
		}
		if round, _ := part.Round(n, between...); round || nodes != n {
			t.Fatalf("%d nodes, %v: goes round between parts, or %d nodes in all", n, l, nodes)
		}
	}
}

func TestLong(t *testing.T) {
	var l []api.Edge
	for i := range api.MaxNodes - 1 {
		l = append(l, api.Edge{A: i, B: i + 1})
	}
	if parts, _ := part.Of(api.MaxNodes, l...); len(parts) != api.MaxNodes {
		t.Errorf("%d parts of a long way", len(parts))
	}
	l = append(l, api.Edge{A: api.MaxNodes - 1, B: 0})
	if parts, _ := part.Of(api.MaxNodes, l...); len(parts) != 1 || len(parts[0]) != api.MaxNodes {
		t.Errorf("%d parts of a long ring", len(parts))
	}
}
