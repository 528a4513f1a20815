package writer_test

import (
	"slices"
	"testing"

	"deemster/api"
	"deemster/inner"
	"deemster/sample"
	"deemster/value"
	"deemster/writer"
)

func number(n int64) api.Value { return api.Value{Kind: api.VInt, N: n} }

var initial = api.Value{Kind: api.VNil}

// small has keys x 0, y 1; seven transactions, of which 3 failed.
var small = sample.Of("begin a, write a x 1, ok a, begin b, write b x 2, write b x 1, read b x 1, read b x nil, info b, begin a, write a x 1, write a x 3, ok a," +
	"begin a, write a x 1, write a y 0, fail a," +
	"begin c, read c x 1, read c x nil, read c x 3, read c x ?, read c x 2, read c y nil, read c y ?, write c x 7, read c x 7, read c x ?, info c," +
	"begin d, read d x 1, read d x ?, fail d, begin d, write d y 5, write d y 4, ok d")

func TestOf(t *testing.T) {
	at := func(txn, op int) api.Place { return api.Place{Txn: txn, Op: op} }
	for p, want := range map[api.Place][]int{
		at(4, 0): {0, 1}, at(4, 1): {-1}, at(4, 2): {2}, at(4, 3): {-1, 0, 1, 2}, at(4, 4): nil,
		at(4, 5): {-1}, at(4, 6): {-1, 6}, at(4, 7): nil, at(4, 8): nil, at(4, 9): {-1, 0, 1, 2},
		at(1, 2): {0}, at(1, 3): {-1}, at(1, 0): nil,
		at(5, 0): {0, 1}, at(5, 1): {-1, 0, 1, 2, 4},
		at(0, 0): nil, at(-1, 0): nil, at(7, 0): nil, at(4, -1): nil, at(4, 10): nil, at(1<<62, 0): nil, at(0, -1<<63): nil,
	} {
		if got := writer.Of(small, p); !slices.Equal(got, want) {
			t.Errorf("Of %v: %v, want %v", p, got, want)
		}
	}
	h := sample.Of("begin s, write s x 1, ok s, begin t, write t x 1, info t, begin u, read u x 1, ok u")
	if got := writer.Of(h, at(2, 0)); !slices.Equal(got, []int{0, 1}) {
		t.Errorf("two that write x 1, and a read of it: %v", got)
	}
}

func TestValues(t *testing.T) {
	at := func(txn, op int) api.Place { return api.Place{Txn: txn, Op: op} }
	for p, want := range map[api.Place][]api.Value{
		at(4, 0): {initial, number(1), number(3)}, at(4, 3): {initial, number(1), number(3)}, at(4, 9): {initial, number(1), number(3)},
		at(4, 6): {initial, number(4)}, at(1, 2): {initial, number(1), number(3), number(7)}, at(5, 1): {initial, number(1), number(3), number(7)},
		at(4, 7): nil, at(0, 0): nil, at(7, 0): nil, at(4, -1): nil, at(4, 10): nil, at(-1, 0): nil,
	} {
		if got := writer.Values(small, p); !slices.Equal(got, want) {
			t.Errorf("Values of %v: %v, want %v", p, got, want)
		}
	}
}

func TestFresh(t *testing.T) {
	for key, want := range map[int]api.Value{0: number(0), 1: number(1), 2: {}, -1: {}, 1 << 62: {}} {
		if got := writer.Fresh(small, key); got != want {
			t.Errorf("Fresh of %d: %v, want %v", key, got, want)
		}
	}
	h := sample.Of("begin s, write s x 2, write s x 0, write s x -1, write s x 5, read s x 3, ok s, begin s, write s x 1, fail s")
	if got := writer.Fresh(h, 0); got != number(3) {
		t.Errorf("every write counts, and no read: %v", got)
	}
	if got := writer.Fresh(sample.Of("begin s, read s x 0, ok s"), 0); got != number(0) {
		t.Errorf("without a write: %v", got)
	}
}

func TestMost(t *testing.T) {
	for text, want := range map[string]int{
		"": 0, "begin s, read s x 1, ok s": 0,
		"begin s, write s x 1, write s x 2, ok s":                                                                        1,
		"begin s, write s x 1, ok s, begin s, write s x 2, fail s":                                                       1,
		"begin s, write s x 1, info s, begin s, write s x 1, write s y 1, ok s, begin s, write s y 1, write s z 1, ok s": 2,
	} {
		if got := writer.Most(sample.Of(text)); got != want {
			t.Errorf("Most of %q: %d", text, got)
		}
	}
	if got := writer.Most(small); got != 4 {
		t.Errorf("Most: %d", got)
	}
}

func TestOfWhatMayNotBe(t *testing.T) {
	h := small
	h.Keys = []string{"y", "x"}
	p := api.Place{Txn: 4}
	if len(writer.Of(h, p))+len(writer.Values(h, p)) > 0 || writer.Fresh(h, 0) != (api.Value{}) || writer.Most(h) != 0 {
		t.Error("something is told")
	}
}

func TestWhatFollows(t *testing.T) {
	for n := range 300 {
		h := sample.History(n, sample.Shape{Sessions: 3, Keys: 2, Txns: 6, Ops: 5, Values: 4, Open: true})
		for i, txn := range h.L {
			for k, op := range txn.L {
				if op.Write {
					continue
				}
				p := api.Place{Txn: i, Op: k}
				values := []api.Value{initial}
				all := []int{-1}
				for w, other := range h.L {
					if v, leaves := inner.Leaves(h, w, op.Key); leaves && w != i && other.Fate != api.FFail {
						values, all = append(values, v), append(all, w)
					}
				}
				if got := writer.Values(h, p); !slices.Equal(got, value.Sorted(values...)) {
					t.Fatalf("%v: Values of %v: %v", h, p, got)
				}
				got := writer.Of(h, p)
				for x, w := range all {
					if want := op.V.Kind == api.VLost || op.V == values[x]; want != slices.Contains(got, w) {
						t.Fatalf("%v: Of %v: %v, and %d", h, p, got, w)
					}
				}
				if !slices.IsSorted(got) || len(slices.Compact(got)) != len(got) || slices.Contains(values, writer.Fresh(h, op.Key)) {
					t.Fatalf("%v: Of %v: %v", h, p, got)
				}
			}
		}
	}
}
