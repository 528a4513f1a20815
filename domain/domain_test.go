package domain_test

import (
	"slices"
	"testing"

	"deemster/api"
	"deemster/domain"
)

func numbers(n int) []int {
	var l []int
	for i := range n {
		l = append(l, i)
	}
	return l
}

func TestNew(t *testing.T) {
	d, e := domain.New(1, 60, 2)
	if e != api.OK || !slices.Equal(d.Left(0), []int{0}) || !slices.Equal(d.Left(1), numbers(60)) || !slices.Equal(d.Left(2), []int{0, 1}) || !slices.Equal(d.Open(), []int{1, 2}) {
		t.Errorf("%v %v", d, e)
	}
	for _, sizes := range [][]int{{0}, {61}, {-1}, {2, 2, 0}, {1 << 62}, slices.Repeat([]int{1}, 201)} {
		if d, e := domain.New(sizes...); d != nil || e != api.ErrArg {
			t.Errorf("New of %d sizes: %v", len(sizes), e)
		}
	}
	if d, e := domain.New(slices.Repeat([]int{60}, 200)...); e != api.OK || len(d.Open()) != 200 {
		t.Errorf("200 variables: %v", e)
	}
	if d, e := domain.New(); e != api.OK || d == nil || len(d.Open()) > 0 {
		t.Errorf("no variables: %v", e)
	}
	sizes := []int{3}
	d, _ = domain.New(sizes...)
	sizes[0] = 1
	if len(d.Left(0)) != 3 {
		t.Error("what was handed in is kept")
	}
}

func TestDrop(t *testing.T) {
	d, _ := domain.New(2, 60)
	if k, is := d.Fixed(0); k != 0 || is {
		t.Errorf("Fixed: %d %v", k, is)
	}
	if e := d.Drop(0, 0); e != api.OK || !slices.Equal(d.Left(0), []int{1}) {
		t.Errorf("Drop: %v %v", e, d.Left(0))
	}
	if k, is := d.Fixed(0); k != 1 || !is {
		t.Errorf("Fixed: %d %v", k, is)
	}
	if e := d.Drop(0, 0); e != api.OK || !slices.Equal(d.Left(0), []int{1}) {
		t.Errorf("Drop of what is not left: %v %v", e, d.Left(0))
	}
	if e := d.Drop(0, 1); e != api.ErrNone || !slices.Equal(d.Left(0), []int{1}) {
		t.Errorf("Drop of the only one: %v %v", e, d.Left(0))
	}
	for k := range 59 {
		d.Drop(1, k)
	}
	if k, is := d.Fixed(1); k != 59 || !is || len(d.Open()) > 0 {
		t.Errorf("Fixed: %d %v", k, is)
	}
}

func TestOnly(t *testing.T) {
	d, _ := domain.New(4, 60)
	d.Drop(0, 1)
	if e := d.Only(0, 1); e != api.ErrNone || !slices.Equal(d.Left(0), []int{0, 2, 3}) {
		t.Errorf("Only of what is not left: %v %v", e, d.Left(0))
	}
	if e := d.Only(0, 2); e != api.OK || !slices.Equal(d.Left(0), []int{2}) {
		t.Errorf("Only: %v %v", e, d.Left(0))
	}
	if e := d.Only(0, 2); e != api.OK || d.Only(0, 3) != api.ErrNone || !slices.Equal(d.Left(0), []int{2}) {
		t.Errorf("Only again: %v %v", e, d.Left(0))
	}
	if e := d.Only(1, 59); e != api.OK || !slices.Equal(d.Left(1), []int{59}) || len(d.Open()) > 0 {
		t.Errorf("Only: %v %v", e, d.Left(1))
	}
}

func TestWrong(t *testing.T) {
	d, _ := domain.New(2, 3)
	for _, c := range [][2]int{{-1, 0}, {2, 0}, {0, 2}, {0, -1}, {1, 3}, {1 << 62, 0}, {0, 1 << 62}, {0, 64}, {-1 << 63, -1 << 63}} {
		if e := d.Drop(c[0], c[1]); e != api.ErrArg {
			t.Errorf("Drop of %v: %v", c, e)
		}
		if e := d.Only(c[0], c[1]); e != api.ErrArg {
			t.Errorf("Only of %v: %v", c, e)
		}
	}
	for _, v := range []int{-1, 2, 1 << 62, -1 << 63} {
		if k, is := d.Fixed(v); k != 0 || is || len(d.Left(v)) > 0 {
			t.Errorf("of variable %d", v)
		}
	}
	if !slices.Equal(d.Open(), []int{0, 1}) || d.Undo() != api.ErrNone {
		t.Error("something changed")
	}
	for _, d := range []*domain.Domain{nil, {}} {
		if d.Drop(0, 0) != api.ErrForm || d.Drop(-1, 0) != api.ErrForm || d.Only(0, 0) != api.ErrForm || d.Only(0, -1) != api.ErrForm || d.Begin() != api.ErrForm || d.Undo() != api.ErrForm {
			t.Error("ErrForm")
		}
		if k, is := d.Fixed(0); k != 0 || is || len(d.Left(0))+len(d.Open()) > 0 {
			t.Error("it has nothing")
		}
	}
}

func TestLevels(t *testing.T) {
	d, _ := domain.New(3, 2)
	d.Drop(0, 0)
	d.Begin()
	d.Only(0, 2)
	d.Begin()
	d.Drop(1, 1)
	if len(d.Open()) > 0 {
		t.Errorf("%v", d.Open())
	}
	if e := d.Undo(); e != api.OK || !slices.Equal(d.Left(1), []int{0, 1}) || !slices.Equal(d.Left(0), []int{2}) || !slices.Equal(d.Open(), []int{1}) {
		t.Errorf("%v: %v %v", e, d.Left(0), d.Left(1))
	}
	if e := d.Undo(); e != api.OK || !slices.Equal(d.Left(0), []int{1, 2}) {
		t.Errorf("%v: %v", e, d.Left(0))
	}
	if e := d.Undo(); e != api.ErrNone || !slices.Equal(d.Left(0), []int{1, 2}) {
		t.Errorf("%v: %v", e, d.Left(0))
	}
	for i := range 1000 {
		if e := d.Begin(); e != api.OK {
			t.Fatalf("level %d: %v", i, e)
		}
	}
	if e := d.Begin(); e != api.ErrFull {
		t.Errorf("one level more: %v", e)
	}
}

func TestAVariableAlwaysHasAValueLeft(t *testing.T) {
	d, _ := domain.New(1, 2, 3, 60)
	for i := range 3000 {
		v, k := i%4, i*i%60
		was := d.Left(v)
		switch {
		case i%97 == 0:
			d.Begin()
			continue
		case i%89 == 0:
			d.Undo()
			continue
		case i%5 == 0:
			d.Only(v, k)
		default:
			d.Drop(v, k)
		}
		if l := d.Left(v); len(l) == 0 || len(l) > len(was) || !slices.IsSorted(l) || slices.Contains(d.Open(), v) != (len(l) > 1) {
			t.Fatalf("step %d: %v, and before %v", i, l, was)
		}
	}
}
