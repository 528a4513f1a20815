package axiom_test

import (
	"slices"
	"testing"

	"deemster/api"
	"deemster/axiom"
	"deemster/sample"
	"deemster/whole"
	"deemster/wr"
)

var levels = []int{api.RC, api.CC, api.SER}

func TestOrder(t *testing.T) {
	h := sample.Of("begin a, ok a, begin a, fail a, begin b, write b x 1, ok b, begin a, ok a")
	for _, right := range [][]int{{0, 2, 3}, {3, 2, 0}, {2, 0, 3}} {
		was := slices.Clone(right)
		if !axiom.Order(h, right) || !slices.Equal(right, was) {
			t.Errorf("%v is an order", was)
		}
	}
	for _, wrong := range [][]int{nil, {0, 2}, {0, 1, 2, 3}, {0, 2, 2}, {0, 2, 3, 3}, {0, 2, 4}, {-1, 0, 2}, {-1, 0, 2, 3}, {0, 2, 1}, {0, 2, 1 << 62}} {
		if axiom.Order(h, wrong) {
			t.Errorf("%v is no order", wrong)
		}
	}
	if !axiom.Order(api.History{}, nil) || axiom.Order(sample.Of("begin a, info a"), nil) || axiom.Order(api.History{Sessions: []string{"a"}}, nil) {
		t.Error("of the empty history, and of those that are not whole")
	}
}

func TestWrong(t *testing.T) {
	h := sample.Of("begin a, write a x 1, ok a, begin b, read b x 1, ok b")
	partial := sample.Of("begin a, write a x 1, info a, begin b, read b x 1, ok b")
	for _, c := range []struct {
		level    int
		h        api.History
		m, order []int
		read     int
		holds    api.Errno
		seen     api.Errno
	}{
		{api.RC, h, []int{0}, []int{0, 1}, 0, api.OK, api.OK},
		{api.RC, h, []int{0}, []int{0, 1}, 1, api.OK, api.ErrNone},
		{api.SER, h, []int{0}, []int{0, 1}, -1, api.OK, api.ErrNone},
		{api.CC, h, []int{0}, []int{0, 1}, 1 << 62, api.OK, api.ErrNone},
		{0, h, []int{0}, []int{0, 1}, 9, api.ErrArg, api.ErrArg},
		{4, h, []int{0}, []int{0, 1}, 0, api.ErrArg, api.ErrArg},
		{api.CC, h, []int{-1}, []int{0, 1}, 0, api.ErrArg, api.ErrArg},
		{api.CC, h, nil, []int{0, 1}, 9, api.ErrArg, api.ErrArg},
		{api.CC, h, []int{0}, []int{0}, 0, api.ErrArg, api.ErrArg},
		{api.CC, h, []int{0}, []int{0, 1, 1}, 0, api.ErrArg, api.ErrArg},
		{api.SER, partial, []int{0}, []int{0, 1}, 0, api.ErrForm, api.ErrForm},
		{9, partial, nil, nil, 9, api.ErrForm, api.ErrForm},
		{9, api.History{Keys: []string{"x"}}, nil, nil, 9, api.ErrForm, api.ErrForm},
	} {
		if is, e := axiom.Holds(c.level, c.h, c.m, c.order); e != c.holds || e != api.OK && is {
			t.Errorf("Holds(%d, %v, %v): %v %v", c.level, c.m, c.order, is, e)
		}
		if l, e := axiom.Seen(c.level, c.h, c.m, c.order, c.read); e != c.seen || e != api.OK && len(l) > 0 {
			t.Errorf("Seen(%d, %v, %v, %d): %v %v", c.level, c.m, c.order, c.read, l, e)
		}
	}
}

func TestHolds(t *testing.T) {
	for _, c := range []struct {
		what, text string
		m, order   []int
		want       [3]bool // by RC, CC, SER
	}{
		{"nothing", "", nil, nil, [3]bool{true, true, true}},
		{"a read of nil behind a write of its session", "begin s, write s x 1, ok s, begin s, read s x nil, ok s", []int{-1}, []int{0, 1}, [3]bool{true, false, false}},
		{"sessions go on", "begin s, ok s, begin s, ok s", nil, []int{1, 0}, [3]bool{}},
		{"the writer is ahead", "begin s, write s x 1, ok s, begin t, read t x 1, ok t", []int{0}, []int{1, 0}, [3]bool{}},
		{"a bad read", "begin s, write s x 1, read s x 2, ok s", nil, []int{0}, [3]bool{}},
		{"a bad read that failed", "begin s, write s x 1, read s x 2, fail s", nil, nil, [3]bool{true, true, true}},
		{"two that read the same", "begin s, read s x nil, write s x 1, ok s, begin t, read t x nil, write t x 2, ok t", []int{-1, -1}, []int{0, 1}, [3]bool{true, true, false}},
		{"a read of two, back in time", "begin s, write s x 1, write s y 1, ok s, begin t, read t x 1, read t y nil, ok t", []int{0, -1}, []int{0, 1}, [3]bool{}},
		{"the first read sees nothing by RC", "begin s, write s x 1, write s y 1, ok s, begin t, read t y nil, read t x 1, ok t", []int{-1, 0}, []int{0, 1}, [3]bool{true, false, false}},
		{"what does not leave the key counts nothing", "begin s, write s x 1, ok s, begin t, read t x 1, read t y nil, ok t", []int{0, -1}, []int{0, 1}, [3]bool{true, true, true}},
		{"a later writer by SER", "begin s, write s x 1, ok s, begin t, write t x 2, ok t, begin u, read u x 1, ok u", []int{0}, []int{0, 1, 2}, [3]bool{true, true, false}},
		{"the same in another order", "begin s, write s x 1, ok s, begin t, write t x 2, ok t, begin u, read u x 1, ok u", []int{0}, []int{1, 0, 2}, [3]bool{true, true, true}},
		{"seen over three", "begin s, write s x 1, ok s, begin s, write s y 1, ok s, begin t, read t y 1, write t z 1, ok t, begin u, read u z 1, read u x nil, ok u", []int{1, 2, -1}, []int{0, 1, 2, 3}, [3]bool{true, false, false}},
		{"who failed is no step", "begin s, write s x 1, fail s, begin s, write s y 1, ok s, begin t, read t y 1, read t x nil, ok t", []int{1, -1}, []int{1, 2}, [3]bool{true, true, true}},
	} {
		for i, level := range levels {
			if got, e := axiom.Holds(level, sample.Of(c.text), c.m, c.order); got != c.want[i] || e != api.OK {
				t.Errorf("%s, level %d: %v %v", c.what, level, got, e)
			}
		}
	}
}

func TestSeen(t *testing.T) {
	h := sample.Of("begin s, write s x 1, ok s, begin s, write s y 1, ok s, begin t, read t y 1, write t z 1, ok t, begin v, ok v, begin u, read u z 1, read u x 1, read u y nil, ok u, begin t, fail t")
	m, order := []int{1, 2, 0, -1}, []int{3, 0, 1, 2, 4}
	for _, c := range []struct {
		level, read int
		want        []int
	}{
		{api.RC, 0, nil}, {api.RC, 1, nil}, {api.RC, 2, []int{2}}, {api.RC, 3, []int{0, 2}},
		{api.CC, 0, []int{0, 1}}, {api.CC, 1, []int{0, 1, 2}}, {api.CC, 2, []int{0, 1, 2}}, {api.CC, 3, []int{0, 1, 2}},
		{api.SER, 0, []int{0, 1, 3}}, {api.SER, 1, []int{0, 1, 2, 3}}, {api.SER, 3, []int{0, 1, 2, 3}},
	} {
		if got, e := axiom.Seen(c.level, h, m, order, c.read); !slices.Equal(got, c.want) || e != api.OK {
			t.Errorf("level %d, read %d: %v %v", c.level, c.read, got, e)
		}
	}
	round := sample.Of("begin s, write s x 1, read s y 2, ok s, begin t, write t y 2, read t x 1, ok t")
	if got, e := axiom.Seen(api.CC, round, []int{1, 0}, []int{0, 1}, 0); !slices.Equal(got, []int{0, 1}) || e != api.OK {
		t.Errorf("one that comes to itself: %v %v", got, e)
	}
}

func TestGreaterLevelsAskMore(t *testing.T) {
	held := map[int]int{}
	for n := range 400 {
		h := sample.History(n, sample.Shape{Sessions: 3, Keys: 2, Txns: 4, Ops: 3, Values: 2})
		m, e := wr.First(h)
		for is := e == api.OK; is; m, is = wr.Next(h, m) {
			for _, o := range sample.Orders(whole.Committed(h)) {
				was := true
				for _, level := range levels {
					got, e := axiom.Holds(level, h, m, o)
					if e != api.OK || got && !was {
						t.Fatalf("%v by %v and %v: level %d %v", h, m, o, level, e)
					}
					was = got
					if got {
						held[level]++
					}
					for i, p := range wr.Reads(h) {
						seen, _ := axiom.Seen(level, h, m, o, i)
						if slices.Contains(seen, -1) || !slices.IsSorted(seen) || got && slices.Contains(seen, p.Txn) {
							t.Fatalf("%v by %v and %v: read %d sees %v", h, m, o, i, seen)
						}
					}
				}
			}
		}
	}
	if held[api.SER] == 0 || held[api.CC] <= held[api.SER] || held[api.RC] <= held[api.CC] {
		t.Errorf("the levels were not told apart: %v", held)
	}
}
