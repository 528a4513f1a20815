package close_test

import (
	"slices"
	"testing"

	"deemster/api"
	"deemster/close"
	"deemster/sample"
)

func TestOf(t *testing.T) {
	for _, c := range []struct {
		n       int
		l, want []api.Edge
	}{
		{0, nil, nil},
		{2, nil, nil},
		{3, sample.Edges(0, 1, 1, 2), sample.Edges(0, 1, 0, 2, 1, 2)},
		{3, sample.Edges(1, 2, 1, 2, 0, 1), sample.Edges(0, 1, 0, 2, 1, 2)},
		{2, sample.Edges(1, 1), sample.Edges(1, 1)},
		{3, sample.Edges(2, 0, 0, 2), sample.Edges(0, 0, 0, 2, 2, 0, 2, 2)},
	} {
		if got, e := close.Of(c.n, c.l...); !slices.Equal(got, c.want) || e != api.OK {
			t.Errorf("Of(%d, %v): %v %v", c.n, c.l, got, e)
		}
	}
}

func TestFrom(t *testing.T) {
	l := sample.Edges(0, 1, 1, 2, 2, 1, 3, 0, 4, 4)
	for a, want := range [][]int{{1, 2}, {1, 2}, {1, 2}, {0, 1, 2}, {4}, nil} {
		if got, e := close.From(6, a, l...); !slices.Equal(got, want) || e != api.OK {
			t.Errorf("From %d: %v %v", a, got, e)
		}
	}
	for _, a := range []int{-1, 6, 1 << 62, -1 << 63} {
		if got, e := close.From(6, a, l...); len(got) > 0 || e != api.ErrArg {
			t.Errorf("From %d: %v %v", a, got, e)
		}
	}
}

func TestThin(t *testing.T) {
	for _, c := range []struct {
		n       int
		l, want []api.Edge
	}{
		{0, nil, nil},
		{3, sample.Edges(0, 2, 1, 2, 0, 1, 0, 1), sample.Edges(0, 1, 1, 2)},
		{4, sample.Edges(3, 0, 3, 1, 1, 2, 3, 2, 0, 2), sample.Edges(0, 2, 1, 2, 3, 0, 3, 1)},
		{4, sample.Edges(0, 1, 1, 2, 2, 3, 0, 3, 0, 2, 1, 3), sample.Edges(0, 1, 1, 2, 2, 3)},
		{3, sample.Edges(1, 2, 0, 1, 0, 2, 2, 2, 0, 1), sample.Edges(0, 1, 0, 2, 1, 2, 2, 2)},
		{3, sample.Edges(1, 0, 0, 1, 1, 2, 0, 2, 0, 2), sample.Edges(0, 1, 0, 2, 1, 0, 1, 2)},
	} {
		if got, e := close.Thin(c.n, c.l...); !slices.Equal(got, c.want) || e != api.OK {
			t.Errorf("Thin(%d, %v): %v %v", c.n, c.l, got, e)
		}
	}
}

func TestWrong(t *testing.T) {
	for _, c := range []struct {
		n int
		l []api.Edge
	}{{-1, nil}, {api.MaxNodes + 1, nil}, {2, sample.Edges(0, 1, 0, 2)}, {2, sample.Edges(-1, 0)}, {0, sample.Edges(0, 0)}} {
		if got, e := close.Of(c.n, c.l...); len(got) > 0 || e != api.ErrArg {
			t.Errorf("Of(%d, %v): %v %v", c.n, c.l, got, e)
		}
		if got, e := close.Thin(c.n, c.l...); len(got) > 0 || e != api.ErrArg {
			t.Errorf("Thin(%d, %v): %v %v", c.n, c.l, got, e)
		}
		if got, e := close.From(c.n, 0, c.l...); len(got) > 0 || e != api.ErrArg {
			t.Errorf("From(%d, 0, %v): %v %v", c.n, c.l, got, e)
		}
	}
}

// some tells edges of a graph of n nodes with a number; those that do not rise are left out of a graph that shall not go round.
func some(seed, n int, rising bool) []api.Edge {
	var l []api.Edge
	for i := range seed % 13 {
		x := api.Edge{A: (seed*7 + i*i*3) / 5 % n, B: (seed/3 + i*5 + seed/17) % n}
		if !rising || x.A < x.B {
			l = append(l, x)
		}
	}
	return l
}

func TestTheClosureIsClosed(t *testing.T) {
	for seed := range 3000 {
		n := 1 + seed%7
		l := some(seed, n, seed%2 == 0)
		all, _ := close.Of(n, l...)
		again, _ := close.Of(n, all...)
		thin, _ := close.Thin(n, l...)
		same, _ := close.Of(n, thin...)
		if !slices.Equal(all, again) || !slices.Equal(all, same) {
			t.Fatalf("%d nodes, %v: %v, again %v, of what is thin %v", n, l, all, again, same)
		}
		for _, x := range l {
			if !slices.Contains(all, x) {
				t.Fatalf("%d nodes, %v: %v has not %v", n, l, all, x)
			}
		}
		for _, x := range all {
			over := slices.ContainsFunc(l, func(y api.Edge) bool {
				return y.A == x.A && (y.B == x.B || slices.Contains(all, api.Edge{A: y.B, B: x.B}))
			})
			if from, _ := close.From(n, x.A, l...); !over || !slices.Contains(from, x.B) {
				t.Fatalf("%d nodes, %v: %v is of no way", n, l, x)
			}
		}
		if seed%2 == 0 {
			for i := range thin {
				less := slices.Delete(slices.Clone(thin), i, i+1)
				if c, _ := close.Of(n, less...); slices.Equal(c, all) || !slices.Contains(l, thin[i]) {
					t.Fatalf("%d nodes, %v: %v is not thin", n, l, thin)
				}
			}
		}
	}
}

func TestFull(t *testing.T) {
	var l []api.Edge
	for i := range api.MaxNodes - 1 {
		l = append(l, api.Edge{A: i, B: i + 1})
	}
	all, _ := close.Of(api.MaxNodes, l...)
	if len(all) != api.MaxNodes*(api.MaxNodes-1)/2 {
		t.Errorf("%d edges", len(all))
	}
	if thin, _ := close.Thin(api.MaxNodes, all...); !slices.Equal(thin, l) {
		t.Errorf("%d edges are left", len(thin))
	}
}
