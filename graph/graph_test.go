package graph_test

import (
	"slices"
	"testing"

	"deemster/api"
	"deemster/graph"
	"deemster/sample"
)

func TestNew(t *testing.T) {
	for n, want := range map[int]api.Errno{0: api.OK, 1: api.OK, 7: api.OK, api.MaxNodes: api.OK, api.MaxNodes + 1: api.ErrArg, -1: api.ErrArg, 1 << 62: api.ErrArg, -1 << 63: api.ErrArg} {
		g, e := graph.New(n)
		if e != want || (g == nil) != (e != api.OK) || e == api.OK && (g.Len() != n || g.Mark() != 0 || len(g.Edges()) > 0) {
			t.Errorf("New(%d): %v", n, e)
		}
	}
}

func TestOf(t *testing.T) {
	in := sample.Edges(2, 0, 0, 1, 0, 1, 0, 0, 2, 0, 1, 2)
	g, e := graph.Of(3, in...)
	if e != api.OK || !slices.Equal(g.Edges(), sample.Edges(0, 0, 0, 1, 1, 2, 2, 0)) || g.Mark() != 4 || g.Len() != 3 {
		t.Errorf("%v %v", g.Edges(), e)
	}
	g.Undo(2) // they were put in order
	if !slices.Equal(g.Edges(), sample.Edges(0, 1, 2, 0)) {
		t.Errorf("%v", g.Edges())
	}
	for _, l := range [][]api.Edge{sample.Edges(0, 3), sample.Edges(3, 0), sample.Edges(0, 1, -1, 0), sample.Edges(0, 1, 0, -1), sample.Edges(1<<62, 0)} {
		if g, e := graph.Of(3, l...); g != nil || e != api.ErrArg {
			t.Errorf("Of(3, %v): %v", l, e)
		}
	}
	for _, n := range []int{-1, api.MaxNodes + 1} {
		if g, e := graph.Of(n); g != nil || e != api.ErrArg {
			t.Errorf("Of(%d): %v", n, e)
		}
	}
	if g, e := graph.Of(0); g == nil || e != api.OK || g.Len() != 0 {
		t.Errorf("Of(0): %v", e)
	}
}

func TestPutHasNextBack(t *testing.T) {
	g, _ := graph.New(4)
	for _, c := range []struct {
		a, b int
		news bool
		e    api.Errno
	}{
		{0, 1, true, api.OK}, {0, 1, false, api.OK}, {3, 1, true, api.OK}, {0, 3, true, api.OK}, {2, 2, true, api.OK}, {0, 0, true, api.OK},
		{4, 0, false, api.ErrArg}, {0, 4, false, api.ErrArg}, {-1, 0, false, api.ErrArg}, {0, -1 << 63, false, api.ErrArg},
	} {
		if news, e := g.Put(c.a, c.b); news != c.news || e != c.e {
			t.Errorf("Put(%d, %d): %v %v", c.a, c.b, news, e)
		}
	}
	if g.Mark() != 5 || !slices.Equal(g.Edges(), sample.Edges(0, 0, 0, 1, 0, 3, 2, 2, 3, 1)) {
		t.Errorf("%d: %v", g.Mark(), g.Edges())
	}
	for a := -2; a < 6; a++ {
		var next, back []int
		for b := -2; b < 6; b++ {
			if got := g.Has(a, b); got != slices.Contains(g.Edges(), api.Edge{A: a, B: b}) {
				t.Errorf("Has(%d, %d): %v", a, b, got)
			}
			if g.Has(a, b) {
				next = append(next, b)
			}
			if g.Has(b, a) {
				back = append(back, b)
			}
		}
		if !slices.Equal(g.Next(a), next) || !slices.Equal(g.Back(a), back) {
			t.Errorf("Next(%d) %v, Back %v", a, g.Next(a), g.Back(a))
		}
	}
	if len(g.Next(1<<62))+len(g.Back(-1<<63)) > 0 {
		t.Error("there are no such nodes")
	}
}

func TestUndo(t *testing.T) {
	g, _ := graph.New(3)
	g.Put(0, 1)
	mark := g.Mark()
	g.Put(1, 0)
	g.Put(0, 1) // not new: not of its history
	g.Put(1, 2)
	for _, wrong := range []int{-1, 4, 1 << 62, -1 << 63} {
		if e := g.Undo(wrong); e != api.ErrArg || g.Mark() != 3 {
			t.Errorf("Undo(%d): %v", wrong, e)
		}
	}
	if e := g.Undo(3); e != api.OK || g.Mark() != 3 {
		t.Errorf("Undo of nothing: %v", e)
	}
	if e := g.Undo(mark); e != api.OK || !slices.Equal(g.Edges(), sample.Edges(0, 1)) || g.Mark() != 1 || g.Has(1, 0) || len(g.Back(0)) > 0 || len(g.Next(1)) > 0 {
		t.Errorf("%v %v", e, g.Edges())
	}
	if news, e := g.Put(1, 0); !news || e != api.OK {
		t.Errorf("put again: %v %v", news, e)
	}
	if e := g.Undo(0); e != api.OK || len(g.Edges()) > 0 {
		t.Errorf("%v %v", e, g.Edges())
	}
}

func TestNone(t *testing.T) {
	for _, g := range []*graph.Graph{nil, {}} {
		if news, e := g.Put(0, 0); news || e != api.ErrForm {
			t.Errorf("Put: %v %v", news, e)
		}
		if e := g.Undo(0); e != api.ErrForm {
			t.Errorf("Undo: %v", e)
		}
		if e := g.Undo(-1); e != api.ErrForm {
			t.Errorf("ErrForm is told ahead of ErrArg: %v", e)
		}
		if g.Has(0, 0) || g.Mark() != 0 || g.Len() != 0 || len(g.Next(0))+len(g.Back(0))+len(g.Edges()) > 0 {
			t.Error("it has nothing")
		}
	}
}

func TestWhatWasPutBehindAMarkIsUndone(t *testing.T) {
	g, _ := graph.New(9)
	var was [][]api.Edge
	var marks []int
	for i := range 60 {
		was, marks = append(was, g.Edges()), append(marks, g.Mark())
		for k := range 5 {
			g.Put((i*k+i)%9, (i*i+k)%9)
		}
	}
	for i := len(marks) - 1; i >= 0; i-- {
		if e := g.Undo(marks[i]); e != api.OK || !slices.Equal(g.Edges(), was[i]) {
			t.Fatalf("mark %d: %v, want %v", marks[i], g.Edges(), was[i])
		}
	}
}
