package topo_test

import (
	"slices"
	"testing"

	"deemster/api"
	"deemster/part"
	"deemster/sample"
	"deemster/topo"
)

func TestLeast(t *testing.T) {
	for _, c := range []struct {
		n    int
		l    []api.Edge
		want []int
		e    api.Errno
	}{
		{0, nil, nil, api.OK},
		{3, nil, []int{0, 1, 2}, api.OK},
		{3, sample.Edges(2, 0), []int{1, 2, 0}, api.OK},
		{4, sample.Edges(3, 0, 3, 0, 0, 2), []int{1, 3, 0, 2}, api.OK},
		{5, sample.Edges(4, 1, 1, 0), []int{2, 3, 4, 1, 0}, api.OK},
		{1, sample.Edges(0, 0), nil, api.ErrNone},
		{3, sample.Edges(1, 2, 2, 1), nil, api.ErrNone},
		{-1, nil, nil, api.ErrArg},
		{api.MaxNodes + 1, nil, nil, api.ErrArg},
		{2, sample.Edges(0, 0, 0, 2), nil, api.ErrArg},
	} {
		if got, e := topo.Least(c.n, c.l...); !slices.Equal(got, c.want) || e != c.e {
			t.Errorf("Least(%d, %v): %v %v", c.n, c.l, got, e)
		}
	}
}

func TestIs(t *testing.T) {
	for _, c := range []struct {
		order []int
		l     []api.Edge
		want  bool
	}{
		{nil, nil, true},
		{[]int{0}, nil, true},
		{[]int{1, 2, 0}, sample.Edges(2, 0), true},
		{[]int{2, 1, 0}, sample.Edges(2, 0, 2, 0, 1, 0), true},
		{[]int{0, 1, 2}, sample.Edges(2, 0), false},
		{[]int{0}, sample.Edges(0, 0), false},
		{[]int{0, 0}, nil, false},
		{[]int{0, 2}, nil, false},
		{[]int{0, -1}, nil, false},
		{[]int{1}, nil, false},
		{[]int{0, 1}, sample.Edges(0, 2), false},
		{[]int{0, 1}, sample.Edges(-1, 0), false},
		{nil, sample.Edges(0, 0), false},
		{[]int{0, 1 << 62}, nil, false},
		{make([]int, api.MaxNodes+1), nil, false},
	} {
		if got := topo.Is(c.order, c.l...); got != c.want {
			t.Errorf("Is(%v, %v): %v", c.order, c.l, got)
		}
	}
	long := make([]int, api.MaxNodes+1)
	for i := range long {
		long[i] = i
	}
	if topo.Is(long) || !topo.Is(long[:api.MaxNodes]) {
		t.Error("there is no graph of so many nodes")
	}
}

func TestCount(t *testing.T) {
	line := sample.Edges(0, 1, 1, 2, 2, 3, 3, 4, 4, 5, 5, 6, 6, 7, 7, 8, 8, 9, 9, 10, 10, 11)
	for _, c := range []struct {
		n    int
		l    []api.Edge
		want int
		e    api.Errno
	}{
		{0, nil, 1, api.OK},
		{3, sample.Edges(2, 0), 3, api.OK},
		{4, nil, 24, api.OK},
		{9, nil, 362880, api.OK},
		{10, nil, 1_000_000, api.OK},
		{12, nil, 1_000_000, api.OK},
		{12, line, 1, api.OK},
		{12, line[1:], 12, api.OK},
		{12, append(sample.Edges(11, 0), line...), 0, api.OK},
		{2, sample.Edges(1, 1), 0, api.OK},
		{13, nil, 0, api.ErrNone},
		{13, sample.Edges(0, 13), 0, api.ErrArg},
		{-1, nil, 0, api.ErrArg},
		{api.MaxNodes + 1, nil, 0, api.ErrArg},
		{api.MaxNodes, nil, 0, api.ErrNone},
	} {
		if got, e := topo.Count(c.n, c.l...); got != c.want || e != c.e {
			t.Errorf("Count(%d, %v): %d %v, want %d %v", c.n, c.l, got, e, c.want, c.e)
		}
	}
}

// numbers tells those from 0 to n - 1.
func numbers(n int) []int {
	var l []int
	for i := range n {
		l = append(l, i)
	}
	return l
}

func TestAgainstAllLists(t *testing.T) {
	for seed := range 1500 {
		n := seed % 6
		var l []api.Edge
		for i := range seed % 8 {
			if n > 0 {
				l = append(l, api.Edge{A: (seed*7 + i*i*3) / 5 % n, B: (seed/3 + i*5) % n})
			}
		}
		var orders [][]int
		for _, o := range sample.Orders(numbers(n)) {
			fits := !slices.ContainsFunc(l, func(x api.Edge) bool { return slices.Index(o, x.A) >= slices.Index(o, x.B) })
			if topo.Is(o, l...) != fits {
				t.Fatalf("%v: Is of %v: %v", l, o, !fits)
			}
			if fits {
				orders = append(orders, o)
			}
		}
		least, e := topo.Least(n, l...)
		round, _ := part.Round(n, l...)
		if (e == api.ErrNone) != (len(orders) == 0) || round != (len(orders) == 0) || len(orders) > 0 && !slices.Equal(least, orders[0]) {
			t.Fatalf("%d nodes, %v: least %v %v, round %v, orders %v", n, l, least, e, round, orders)
		}
		if got, _ := topo.Count(n, l...); got != len(orders) {
			t.Fatalf("%d nodes, %v: Count %d, want %d", n, l, got, len(orders))
		}
	}
}
