package cell_test

import (
	"math"
	"runtime"
	"testing"

	"deemster/api"
	"deemster/cell"
)

func number(n int64) api.Value { return api.Value{Kind: api.VInt, N: n} }

// fair has values in the order of their cells.
var fair = []api.Value{{Kind: api.VNil}, number(math.MinInt64), number(-1), number(0), number(1), number(math.MaxInt64), {Kind: api.VLost}}

var unfair = []cell.Cell{cell.OfInt(0), cell.OfInt(5), cell.OfText(""), cell.OfText("nil"), cell.OfText("5")}

func TestBack(t *testing.T) {
	for _, v := range fair {
		if got, e := cell.Back(cell.Of(v)); got != v || e != api.OK {
			t.Errorf("Back(Of(%v)): %v %v", v, got, e)
		}
	}
	for _, c := range unfair {
		if got, e := cell.Back(c); got != (api.Value{}) || e != api.ErrType {
			t.Errorf("Back(%v): %v %v", c, got, e)
		}
	}
	if got, e := cell.Back(cell.Cell{}); got != (api.Value{}) || e != api.OK {
		t.Errorf("Back of the zero cell: %v %v", got, e)
	}
}

func TestOfStrangeValues(t *testing.T) {
	for _, c := range []struct{ v, want api.Value }{
		{api.Value{Kind: api.VNil, N: 7}, api.Value{}},
		{api.Value{Kind: api.VLost, N: 7}, api.Value{Kind: api.VLost}},
		{api.Value{Kind: 3, N: 7}, api.Value{}},
		{api.Value{Kind: -1, N: 7}, api.Value{}},
	} {
		if got, e := cell.Back(cell.Of(c.v)); got != c.want || e != api.OK {
			t.Errorf("Back(Of(%v)): %v %v", c.v, got, e)
		}
		if !cell.Same(cell.Of(c.v), cell.Of(c.want)) {
			t.Errorf("%v has the cell of %v", c.v, c.want)
		}
	}
}

func TestInt(t *testing.T) {
	for _, n := range []int64{0, 5, -5, math.MinInt64, math.MaxInt64} {
		if got, e := cell.Int(cell.Of(number(n))); got != n || e != api.OK {
			t.Errorf("Int of the int64 %d: %d %v", n, got, e)
		}
		if got, e := cell.Int(cell.OfInt(int(n))); got != n || e != api.OK {
			t.Errorf("Int of the int %d: %d %v", n, got, e)
		}
	}
	for _, c := range []cell.Cell{{}, cell.Of(api.Value{Kind: api.VLost, N: 4}), cell.OfText("5")} {
		if got, e := cell.Int(c); got != 0 || e != api.ErrType {
			t.Errorf("Int(%v): %d %v", c, got, e)
		}
	}
}

func TestMust(t *testing.T) {
	for _, n := range []int64{0, 5, math.MinInt64, math.MaxInt64} {
		if got := cell.Must(cell.Of(number(n))); got != n {
			t.Errorf("Must of %d: %d", n, got)
		}
	}
	for _, c := range append([]cell.Cell{{}, cell.Of(api.Value{Kind: api.VLost})}, unfair...) {
		if _, ok := caught(func() { cell.Must(c) }).(*runtime.TypeAssertionError); !ok {
			t.Errorf("Must(%v) panics with the error of a type assertion", c)
		}
	}
}

// caught tells what a call panics with.
func caught(f func()) (what any) {
	defer func() { what = recover() }()
	f()
	return nil
}

func TestSameAndLess(t *testing.T) {
	for i, a := range fair {
		for k, b := range fair {
			if got := cell.Same(cell.Of(a), cell.Of(b)); got != (i == k) {
				t.Errorf("Same of %v and %v: %v", a, b, got)
			}
			if got := cell.Less(cell.Of(a), cell.Of(b)); got != (i < k) {
				t.Errorf("Less of %v and %v: %v", a, b, got)
			}
		}
		for _, c := range unfair {
			if x := cell.Of(a); cell.Same(x, c) || cell.Same(c, x) || cell.Less(x, c) || cell.Less(c, x) {
				t.Errorf("%v is not fair", c)
			}
		}
	}
	for _, a := range unfair {
		for _, b := range unfair {
			if cell.Same(a, b) || cell.Less(a, b) {
				t.Errorf("%v and %v are not fair", a, b)
			}
		}
	}
}
