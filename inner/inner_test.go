package inner_test

import (
	"slices"
	"testing"

	"deemster/api"
	"deemster/inner"
	"deemster/sample"
)

func number(n int64) api.Value { return api.Value{Kind: api.VInt, N: n} }

// small has keys x 0, y 1, z 2.
var small = sample.Of("begin s, read s x 1, write s x 1, read s x 1, read s x 2, write s y 5, write s x 2, read s x ?, read s x nil, write s x 2, read s z ?, info s," +
	"begin t, write t y 1, write t y 7, read t x 1, fail t, begin t, ok t, begin t, write t y 9, ok t")

func TestOwnAndOuter(t *testing.T) {
	own := map[api.Place]int64{{Op: 2}: 1, {Op: 3}: 1, {Op: 5}: 1, {Op: 6}: 2, {Op: 7}: 2, {Op: 8}: 2, {Txn: 1, Op: 1}: 1}
	outer := []api.Place{{Op: 0}, {Op: 9}, {Txn: 1, Op: 2}}
	for txn := -2; txn < 6; txn++ {
		for op := -2; op < 13; op++ {
			p := api.Place{Txn: txn, Op: op}
			want, is := own[p]
			wantV := api.Value{}
			if is {
				wantV = number(want)
			}
			if v, got := inner.Own(small, p); v != wantV || got != is {
				t.Errorf("Own at %v: %v %v", p, v, got)
			}
			if got := inner.Outer(small, p); got != slices.Contains(outer, p) {
				t.Errorf("Outer at %v: %v", p, got)
			}
		}
	}
}

func TestLeaves(t *testing.T) {
	leaves := map[[2]int]int64{{0, 0}: 2, {0, 1}: 5, {1, 1}: 7, {3, 1}: 9}
	for txn := -2; txn < 6; txn++ {
		for key := -2; key < 5; key++ {
			want, is := leaves[[2]int{txn, key}]
			wantV := api.Value{}
			if is {
				wantV = number(want)
			}
			if v, got := inner.Leaves(small, txn, key); v != wantV || got != is {
				t.Errorf("Leaves(%d, %d): %v %v", txn, key, v, got)
			}
		}
	}
}

func TestBad(t *testing.T) {
	for txn, want := range map[int][]int{0: {3, 7}, 1: nil, 2: nil, 3: nil, 4: nil, -1: nil, -1 << 63: nil} {
		if got := inner.Bad(small, txn); !slices.Equal(got, want) {
			t.Errorf("Bad(%d): %v", txn, got)
		}
	}
	if got := inner.Bad(sample.Of("begin s, write s x 1, read s x 2, ok s"), 0); !slices.Equal(got, []int{1}) {
		t.Errorf("write x 1, read x 2: %v", got)
	}
	if got := inner.Bad(sample.Of("begin s, write s x 1, write s x 2, read s x 1, fail s"), 0); !slices.Equal(got, []int{2}) {
		t.Errorf("the last write counts: %v", got)
	}
}

func TestWriters(t *testing.T) {
	for key, want := range map[int][]int{0: {0}, 1: {0, 3}, 2: nil, 3: nil, -1: nil, 1<<63 - 1: nil} {
		if got := inner.Writers(small, key); !slices.Equal(got, want) {
			t.Errorf("Writers(%d): %v", key, got)
		}
	}
}

func TestOfWhatMayNotBe(t *testing.T) {
	h := small
	h.L = slices.Clone(h.L)
	h.L[3].Fate = 0
	for txn := range h.L {
		for op := range 10 {
			p := api.Place{Txn: txn, Op: op}
			if v, is := inner.Own(h, p); v != (api.Value{}) || is || inner.Outer(h, p) {
				t.Errorf("something is told at %v", p)
			}
		}
		for key := range h.Keys {
			if v, is := inner.Leaves(h, txn, key); v != (api.Value{}) || is || len(inner.Writers(h, key)) > 0 {
				t.Errorf("something is told of key %d", key)
			}
		}
		if len(inner.Bad(h, txn)) > 0 {
			t.Errorf("a bad read of %d", txn)
		}
	}
}

func TestWhatFollows(t *testing.T) {
	for n := range 300 {
		h := sample.History(n, sample.Shape{Sessions: 3, Keys: 2, Txns: 5, Ops: 6, Values: 3, Open: true})
		for i, txn := range h.L {
			for k, op := range txn.L {
				p := api.Place{Txn: i, Op: k}
				v, is := inner.Own(h, p)
				if got := !op.Write && is && op.V.Kind != api.VLost && op.V != v; got != slices.Contains(inner.Bad(h, i), k) {
					t.Errorf("%v: a bad read at %v: %v", h, p, got)
				}
				if inner.Outer(h, p) != (!op.Write && !is) {
					t.Errorf("%v: outer at %v", h, p)
				}
			}
			for key := range h.Keys {
				_, leaves := inner.Leaves(h, i, key)
				if (leaves && txn.Fate != api.FFail) != slices.Contains(inner.Writers(h, key), i) {
					t.Errorf("%v: %d leaves something of %d: %v", h, i, key, leaves)
				}
			}
		}
	}
}
