package fuel_test

import (
	"testing"

	"deemster/api"
	"deemster/fuel"
)

func TestNew(t *testing.T) {
	for _, limit := range []int{0, 1, 100000, 1<<63 - 1} {
		f, e := fuel.New(limit)
		if e != api.OK || f.Left() != limit || f.Used() != 0 || f.Spent() {
			t.Errorf("New(%d): %v", limit, e)
		}
	}
	for _, limit := range []int{-1, -1 << 63} {
		if f, e := fuel.New(limit); f != nil || e != api.ErrArg {
			t.Errorf("New(%d): %v", limit, e)
		}
	}
}

func TestTake(t *testing.T) {
	const most = 1<<63 - 1
	type step struct {
		n          int
		e          api.Errno
		left, used int
		spent      bool
	}
	for limit, steps := range map[int][]step{
		3:    {{2, api.OK, 1, 2, false}, {2, api.ErrSpent, 0, 3, true}, {0, api.ErrSpent, 0, 3, true}, {-1, api.ErrArg, 0, 3, true}, {1, api.ErrSpent, 0, 3, true}},
		5:    {{-1, api.ErrArg, 5, 0, false}, {0, api.OK, 5, 0, false}, {5, api.OK, 0, 5, false}, {0, api.OK, 0, 5, false}, {1, api.ErrSpent, 0, 5, true}, {0, api.ErrSpent, 0, 5, true}},
		0:    {{0, api.OK, 0, 0, false}, {1, api.ErrSpent, 0, 0, true}},
		7:    {{6, api.OK, 1, 6, false}, {most, api.ErrSpent, 0, 7, true}, {-1 << 63, api.ErrArg, 0, 7, true}},
		most: {{most - 1, api.OK, 1, most - 1, false}, {most, api.ErrSpent, 0, most, true}},
	} {
		f, _ := fuel.New(limit)
		for i, s := range steps {
			if e := f.Take(s.n); e != s.e || f.Left() != s.left || f.Used() != s.used || f.Spent() != s.spent {
				t.Errorf("limit %d, step %d: %v, %d left, %d used, %v", limit, i, e, f.Left(), f.Used(), f.Spent())
			}
		}
	}
}

func TestNone(t *testing.T) {
	for _, f := range []*fuel.Fuel{nil, {}} {
		if f.Take(0) != api.ErrForm || f.Take(-1) != api.ErrForm || f.Left() != 0 || f.Used() != 0 || !f.Spent() {
			t.Error("of none")
		}
	}
}

func TestLeftAndUsedAreTheLimit(t *testing.T) {
	for limit := range 40 {
		f, _ := fuel.New(limit)
		more, _ := fuel.New(limit + 1)
		for i := range 12 {
			e, with := f.Take(i%5), more.Take(i%5)
			if f.Left()+f.Used() != limit || (e == api.ErrSpent) != f.Spent() {
				t.Fatalf("limit %d: %d left, %d used", limit, f.Left(), f.Used())
			}
			if e == api.OK && with != api.OK {
				t.Fatalf("what went with %d goes with more", limit)
			}
		}
	}
}
