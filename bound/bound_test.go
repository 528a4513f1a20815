package bound_test

import (
	"strings"
	"testing"

	"deemster/api"
	"deemster/bound"
	"deemster/judge"
	"deemster/sample"
)

func TestOf(t *testing.T) {
	for _, c := range []struct {
		log         string
		keep, erase int
	}{
		{"", 1, 1},
		{"begin s, ok s", 4, 4},
		{"begin s, info s", 8, 8},
		{"begin s, fail s, begin s, info s, begin s, info s", 4 * 24 * 4, 4 * 24 * 4},
		{"begin s, read s x nil, ok s", 4, 4},
		{"begin s, read s x ?, ok s", 2 * 4, 4},
		{"begin s, write s x 1, ok s, begin t, read t x 1, read t x 2, fail t", 2 * 2 * 6 * 3, 2 * 2 * 6 * 3},
		{"begin s, write s x 1, info s, begin t, write t x 1, ok t, begin u, write u x 1, fail u, begin v, read v x ?, read v x 1, read v y ?, ok v", 2 * 4 * 4 * 3 * 3 * 3 * 120 * 5, 2 * 3 * 120 * 5},
	} {
		h := sample.Of(c.log)
		if n, e := bound.Of(h, api.Keep); n != c.keep || e != api.OK {
			t.Errorf("%q, kept: %d %v, want %d", c.log, n, e, c.keep)
		}
		if n, e := bound.Of(h, api.Erase); n != c.erase || e != api.OK {
			t.Errorf("%q, erased: %d %v, want %d", c.log, n, e, c.erase)
		}
	}
}

func TestOfWrong(t *testing.T) {
	h, bad := sample.Of("begin s, info s"), api.History{Sessions: []string{"s"}}
	for _, c := range []struct {
		h      api.History
		policy int
		want   api.Errno
	}{{h, 0, api.ErrArg}, {h, 3, api.ErrArg}, {h, -1, api.ErrArg}, {bad, api.Keep, api.ErrForm}, {bad, 0, api.ErrForm}} {
		if n, e := bound.Of(c.h, c.policy); n != 0 || e != c.want {
			t.Errorf("policy %d: %d %v", c.policy, n, e)
		}
	}
	// 18 transactions: 19! times 19 is a little more than 2 to the power of 61.
	ok := strings.Repeat("begin s,ok s,", 16)
	if n, e := bound.Of(sample.Of(ok+"begin s,ok s,begin s,ok s"), api.Keep); n != 19*121645100408832000 || e != api.OK {
		t.Errorf("none of unknown fate: %d %v", n, e)
	}
	if n, e := bound.Of(sample.Of(ok+"begin s,ok s,begin s,info s"), api.Keep); n != 0 || e != api.ErrLong {
		t.Errorf("one of unknown fate: %d %v", n, e)
	}
	lost := sample.Of(ok + "begin s,read s x ?,ok s,begin s,read s x ?,ok s")
	if n, e := bound.Of(lost, api.Keep); n != 0 || e != api.ErrLong {
		t.Errorf("kept: %d %v", n, e)
	}
	if n, e := bound.Of(lost, api.Erase); n != 19*121645100408832000 || e != api.OK {
		t.Errorf("erased: %d %v", n, e)
	}
}

func TestProduct(t *testing.T) {
	const most = 1 << 62
	for _, c := range []struct {
		l    []int
		want int
		e    api.Errno
	}{
		{nil, 1, api.OK}, {[]int{0}, 0, api.OK}, {[]int{7}, 7, api.OK}, {[]int{2, 3, 4}, 24, api.OK}, {[]int{5, 0, 9}, 0, api.OK},
		{[]int{most}, most, api.OK}, {[]int{1 << 31, 1 << 31}, most, api.OK}, {[]int{most, 1, 1}, most, api.OK},
		{[]int{most + 1}, 0, api.ErrLong}, {[]int{most, 2}, 0, api.ErrLong}, {[]int{most, 2, 0}, 0, api.ErrLong}, {[]int{most + 1, 0}, 0, api.ErrLong}, {[]int{1<<31 + 1, 1 << 31}, 0, api.ErrLong}, {[]int{3, most}, 0, api.ErrLong},
		{[]int{1<<63 - 1, 1<<63 - 1}, 0, api.ErrLong}, {[]int{1 << 32, 1 << 32}, 0, api.ErrLong}, {[]int{1 << 32, 1 << 32, 0, 0}, 0, api.ErrLong},
		{[]int{0, most, most}, 0, api.OK}, {[]int{0, 1<<63 - 1}, 0, api.OK},
		{[]int{-1}, 0, api.ErrArg}, {[]int{most, 2, -1}, 0, api.ErrArg}, {[]int{0, -1 << 63}, 0, api.ErrArg},
	} {
		if n, e := bound.Product(c.l...); n != c.want || e != c.e {
			t.Errorf("Product(%v): %d %v, want %d %v", c.l, n, e, c.want, c.e)
		}
	}
}

func TestEnoughIsEnough(t *testing.T) {
	for n := range 300 {
		h := sample.History(n, sample.Shape{Sessions: 3, Keys: 2, Txns: 4, Ops: 3, Values: 2, Open: true})
		for _, policy := range []int{api.Keep, api.Erase} {
			enough, e := bound.Of(h, policy)
			if e != api.OK {
				t.Fatal(e)
			}
			for _, level := range []int{api.RC, api.CC, api.SER} {
				if j, e := judge.Judge(level, policy, h, enough); e != api.OK || j.Nodes > enough {
					t.Fatalf("%v: level %d, policy %d: %d nodes are enough: %v", h, level, policy, enough, e)
				}
			}
		}
	}
}
