package bits_test

import (
	"slices"
	"testing"

	"deemster/api"
	"deemster/bits"
)

const last = api.MaxNodes - 1

var none = []int{-1, api.MaxNodes, api.MaxNodes + 11, 511, 512, 1 << 62, -1 << 63}

func TestNew(t *testing.T) {
	s := bits.New(append([]int{5, 500, 1, last, 64, 63, 0, 5}, none...)...)
	if got := s.All(); !slices.Equal(got, []int{0, 1, 5, 63, 64, last}) || s.Len() != 6 {
		t.Errorf("%v, %d", got, s.Len())
	}
	if s := bits.New(); len(s.All()) != 0 || s.Len() != 0 {
		t.Errorf("of none: %v", s.All())
	}
	if got := bits.New(5, 500, 1).All(); !slices.Equal(got, []int{1, 5}) {
		t.Errorf("%v", got)
	}
}

func TestPutAndDrop(t *testing.T) {
	s := bits.New()
	for n := range api.MaxNodes {
		if s.Has(n) || s.Put(n) != api.OK || !s.Has(n) || s.Len() != n+1 {
			t.Fatalf("Put of %d", n)
		}
	}
	if e := s.Put(3); e != api.OK || s.Len() != api.MaxNodes {
		t.Errorf("Put again: %v", e)
	}
	for n := range api.MaxNodes {
		if e := s.Drop(n); e != api.OK || s.Has(n) || s.Len() != last-n {
			t.Fatalf("Drop of %d: %v", n, e)
		}
	}
	if e := s.Drop(3); e != api.OK || s.Len() != 0 {
		t.Errorf("Drop of what is not there: %v", e)
	}
	for _, n := range none {
		if e := s.Put(n); e != api.ErrArg || s.Has(n) || s.Len() != 0 {
			t.Errorf("Put of %d: %v", n, e)
		}
		if e := s.Drop(n); e != api.ErrArg {
			t.Errorf("Drop of %d: %v", n, e)
		}
	}
}

func TestNil(t *testing.T) {
	var s *bits.Set
	o := bits.New(1)
	if s.Put(1) != api.ErrForm || s.Put(-1) != api.ErrForm || s.Drop(1) != api.ErrForm || s.Drop(1000) != api.ErrForm {
		t.Error("ErrForm, ahead of ErrArg")
	}
	if s.Has(0) || s.Join(o) || s.Meets(o) || s.Join(nil) || s.Meets(nil) || s.Len() != 0 || len(s.All()) > 0 || s.Copy() != nil {
		t.Error("nil has nothing")
	}
	if o.Join(nil) || o.Meets(nil) || !slices.Equal(o.All(), []int{1}) {
		t.Error("a nil other one has nothing")
	}
}

func TestJoinAndMeets(t *testing.T) {
	for _, c := range []struct {
		a, b, all   []int
		news, meets bool
	}{
		{nil, nil, nil, false, false},
		{[]int{1}, nil, []int{1}, false, false},
		{nil, []int{last}, []int{last}, true, false},
		{[]int{1, 64}, []int{64}, []int{1, 64}, false, true},
		{[]int{0, last}, []int{64, last}, []int{0, 64, last}, true, true},
		{[]int{2}, []int{66, 130}, []int{2, 66, 130}, true, false},
	} {
		a, b := bits.New(c.a...), bits.New(c.b...)
		if a.Meets(b) != c.meets || b.Meets(a) != c.meets {
			t.Errorf("%v meets %v: %v", c.a, c.b, !c.meets)
		}
		if got := a.Join(b); got != c.news || !slices.Equal(a.All(), c.all) || !slices.Equal(b.All(), c.b) {
			t.Errorf("%v joined with %v: %v %v", c.a, c.b, got, a.All())
		}
		if a.Join(b) || a.Join(a) || a.Meets(a) != (len(c.all) > 0) {
			t.Errorf("%v joined once more", c.all)
		}
	}
}

func TestCopyGoesItsOwnWay(t *testing.T) {
	s := bits.New(1, 2)
	c := s.Copy()
	s.Put(3)
	c.Drop(1)
	if !slices.Equal(s.All(), []int{1, 2, 3}) || !slices.Equal(c.All(), []int{2}) {
		t.Errorf("%v, and the copy %v", s.All(), c.All())
	}
	all := s.All()
	all[0] = 9
	if s.Has(9) || !s.Has(1) {
		t.Error("All shares the set's memory")
	}
}

func TestNothingElseChanges(t *testing.T) {
	s := bits.New()
	in := map[int]int{}
	for i := range 5000 {
		n := i * i * 31 % 617
		if i%3 == 0 {
			s.Drop(n)
			delete(in, n)
		} else if s.Put(n) == api.OK {
			in[n] = 1
		}
		if s.Len() != len(in) {
			t.Fatalf("step %d: %d, want %d", i, s.Len(), len(in))
		}
	}
	for n := -5; n < 600; n++ {
		if s.Has(n) != (in[n] == 1) {
			t.Errorf("Has(%d): %v", n, s.Has(n))
		}
	}
}
