package satur_test

import (
	"slices"
	"testing"

	"deemster/api"
	"deemster/axiom"
	"deemster/inner"
	"deemster/part"
	"deemster/ring"
	"deemster/sample"
	"deemster/satur"
	"deemster/whole"
	"deemster/wr"
)

func TestExamples(t *testing.T) {
	for _, c := range []struct {
		what, text  string
		level       int
		m           []int
		edges       []api.Edge
		order, ring []int
	}{
		{"nothing", "", api.RC, nil, nil, nil, nil},
		{"one that failed", "begin s, fail s", api.CC, nil, nil, nil, nil},
		{"a session goes on", "begin s, ok s, begin t, ok t, begin s, fail s, begin s, ok s, begin s, ok s", api.RC, nil,
			sample.Edges(0, 3, 0, 4, 3, 4, 5, 0, 5, 1, 5, 3, 5, 4), []int{0, 1, 3, 4}, nil},
		{"two that read one another's writes", "begin s, write s x 1, read s y 1, ok s, begin t, write t y 1, read t x 1, ok t", api.RC, []int{1, 0},
			sample.Edges(0, 1, 1, 0, 2, 0, 2, 1), nil, []int{0, 1}},
		{"the least order", "begin s, read s x 1, ok s, begin t, ok t, begin u, write u x 1, ok u", api.CC, []int{2},
			sample.Edges(2, 0, 3, 0, 3, 1, 3, 2), []int{1, 2, 0}, nil},
		{"nil behind a write, by RC", "begin s, write s x 1, ok s, begin s, read s x nil, ok s", api.RC, []int{-1}, sample.Edges(0, 1, 2, 0, 2, 1), []int{0, 1}, nil},
		{"nil behind a write, by CC", "begin s, write s x 1, ok s, begin s, read s x nil, ok s", api.CC, []int{-1}, sample.Edges(0, 1, 0, 2, 2, 0, 2, 1), nil, []int{0, 2}},
		{"reads of two, by RC", "begin s, write s x 1, ok s, begin t, write t x 2, write t y 2, ok t, begin u, read u y 2, read u x 1, ok u", api.RC, []int{1, 0},
			sample.Edges(0, 2, 1, 0, 1, 2, 3, 0, 3, 1, 3, 2), []int{1, 0, 2}, nil},
		{"reads of two, the other way, by RC", "begin s, write s x 1, ok s, begin t, write t x 2, write t y 2, ok t, begin u, read u x 1, read u y 2, ok u", api.RC, []int{0, 1},
			sample.Edges(0, 2, 1, 2, 3, 0, 3, 1, 3, 2), []int{0, 1, 2}, nil},
		{"reads of two, the other way, by CC", "begin s, write s x 1, ok s, begin t, write t x 2, write t y 2, ok t, begin u, read u x 1, read u y 2, ok u", api.CC, []int{0, 1},
			sample.Edges(0, 2, 1, 0, 1, 2, 3, 0, 3, 1, 3, 2), []int{1, 0, 2}, nil},
		{"a bad read counts nothing", "begin s, write s x 1, read s x 2, ok s", api.CC, nil, sample.Edges(1, 0), []int{0}, nil},
	} {
		h := sample.Of(c.text)
		if got, e := satur.Edges(c.level, h, c.m); !slices.Equal(got, c.edges) || e != api.OK {
			t.Errorf("%s: edges %v %v, want %v", c.what, got, e, c.edges)
		}
		wantOrder, wantRing := api.OK, api.ErrNone
		if c.ring != nil {
			wantOrder, wantRing = api.ErrNone, api.OK
		}
		if got, e := satur.Order(c.level, h, c.m); !slices.Equal(got, c.order) || e != wantOrder {
			t.Errorf("%s: order %v %v", c.what, got, e)
		}
		if got, e := satur.Ring(c.level, h, c.m); !slices.Equal(got, c.ring) || e != wantRing {
			t.Errorf("%s: ring %v %v", c.what, got, e)
		}
	}
}

func TestWrong(t *testing.T) {
	h := sample.Of("begin a, write a x 1, ok a, begin b, read b x 1, ok b")
	partial := sample.Of("begin a, write a x 1, ok a, begin b, read b x ?, ok b")
	for _, c := range []struct {
		level int
		h     api.History
		m     []int
		want  api.Errno
	}{
		{api.SER, h, []int{0}, api.ErrArg}, {0, h, []int{0}, api.ErrArg}, {-1, h, []int{0}, api.ErrArg}, {api.RC, h, nil, api.ErrArg}, {api.CC, h, []int{-1}, api.ErrArg},
		{api.CC, h, []int{0, 0}, api.ErrArg}, {api.RC, partial, []int{0}, api.ErrForm}, {api.SER, partial, nil, api.ErrForm}, {7, api.History{Keys: []string{"x"}}, nil, api.ErrForm},
	} {
		if got, e := satur.Edges(c.level, c.h, c.m); len(got) > 0 || e != c.want {
			t.Errorf("Edges(%d, %v): %v %v", c.level, c.m, got, e)
		}
		if got, e := satur.Order(c.level, c.h, c.m); len(got) > 0 || e != c.want {
			t.Errorf("Order(%d, %v): %v %v", c.level, c.m, got, e)
		}
		if got, e := satur.Ring(c.level, c.h, c.m); len(got) > 0 || e != c.want {
			t.Errorf("Ring(%d, %v): %v %v", c.level, c.m, got, e)
		}
	}
}

// has tells whether an order has all edges, the beginning's node being ahead of all.
func has(o []int, start int, l []api.Edge) bool {
	o = append([]int{start}, o...)
	return !slices.ContainsFunc(l, func(x api.Edge) bool { return slices.Index(o, x.A) >= slices.Index(o, x.B) })
}

func TestTheLevelHoldsByTheOrdersThatHaveAll(t *testing.T) {
	none := 0
	for n := range 700 {
		h := sample.History(n, sample.Shape{Sessions: 3, Keys: 2, Txns: 5, Ops: 4, Values: 2})
		committed := whole.Committed(h)
		fair := !slices.ContainsFunc(committed, func(i int) bool { return len(inner.Bad(h, i)) > 0 })
		m, e := wr.First(h)
		for is := e == api.OK; is; m, is = wr.Next(h, m) {
			for _, level := range []int{api.RC, api.CC} {
				all, _ := satur.Edges(level, h, m)
				var right [][]int
				for _, o := range sample.Orders(committed) {
					is := has(o, len(h.L), all)
					if is {
						right = append(right, o)
					}
					if holds, _ := axiom.Holds(level, h, m, o); fair && holds != is {
						t.Fatalf("%v by %v and %v: level %d holds: %v", h, m, o, level, holds)
					}
				}
				got, e := satur.Order(level, h, m)
				if (e == api.OK) != (len(right) > 0) || len(right) > 0 && !slices.Equal(got, right[0]) {
					t.Fatalf("%v by %v: level %d: order %v %v", h, m, level, got, e)
				}
				round, _ := part.Round(len(h.L)+1, all...)
				least, _ := ring.Least(len(h.L)+1, all...)
				if got, f := satur.Ring(level, h, m); (f == api.OK) == (e == api.OK) || round != (f == api.OK) || !slices.Equal(got, least) {
					t.Fatalf("%v by %v: level %d: ring %v %v", h, m, level, got, f)
				}
				if e != api.OK {
					none++
				}
			}
		}
	}
	if none == 0 {
		t.Error("nothing went round")
	}
}
