package world_test

import (
	"reflect"
	"slices"
	"strings"
	"testing"

	"deemster/api"
	"deemster/hist"
	"deemster/inner"
	"deemster/sample"
	"deemster/world"
	"deemster/writer"
)

func number(n int64) api.Value { return api.Value{Kind: api.VInt, N: n} }

var (
	initial = api.Value{Kind: api.VNil}
	lost    = api.Value{Kind: api.VLost}
)

// small has two transactions of unknown fate (1 and 3), and five lost reads: 0:0, 1:0, 1:2, 2:0 of a failed one, and 0:1 of y.
var small = sample.Of("begin a, read a x ?, read a y ?, ok a, begin b, read b x ?, write b x 1, read b x ?, info b, begin c, read c x ?, fail c, begin a, write a x 0, info a")

func same(a, b api.World) bool {
	return slices.Equal(a.Commit, b.Commit) && slices.Equal(a.Lost, b.Lost)
}

func values(n ...int64) []api.Value {
	l := []api.Value{initial}
	for _, x := range n {
		l = append(l, number(x))
	}
	return l
}

func TestMay(t *testing.T) {
	right := api.World{Commit: []bool{true, false}, Lost: []api.Value{initial, number(99), number(0), number(-1 << 63), initial}}
	if !world.May(small, right) || !world.May(api.History{}, api.World{}) {
		t.Error("it may be")
	}
	for what, w := range map[string]api.World{
		"a fate too few":  {Commit: []bool{true}, Lost: right.Lost},
		"a fate too many": {Commit: []bool{true, true, false}, Lost: right.Lost},
		"a read too few":  {Commit: right.Commit, Lost: right.Lost[:4]},
		"a read too many": {Commit: right.Commit, Lost: append(slices.Clone(right.Lost), initial)},
		"a lost one":      {Commit: right.Commit, Lost: []api.Value{initial, initial, lost, initial, initial}},
		"another kind":    {Commit: right.Commit, Lost: []api.Value{{Kind: 3}, initial, initial, initial, initial}},
		"nil and number":  {Commit: right.Commit, Lost: []api.Value{initial, initial, initial, initial, {Kind: api.VNil, N: 1}}},
		"none":            {},
	} {
		if world.May(small, w) || len(world.Commits(small, w)) > 0 || len(world.Tries(small, w)) > 0 {
			t.Errorf("%s: it may not be", what)
		}
		if n, is := world.Next(small, w); is || !same(n, api.World{}) {
			t.Errorf("%s: Next", what)
		}
	}
	bad := small
	bad.Sessions = []string{"a", "b", "c", "d"}
	if world.May(bad, right) || len(world.Commits(bad, right)) > 0 || len(world.Tries(bad, right)) > 0 || world.Count(bad) != 0 {
		t.Error("of a history that may not be")
	}
	if w, e := world.First(bad); !same(w, api.World{}) || e != api.ErrForm {
		t.Errorf("First: %v %v", w, e)
	}
	if w, is := world.Next(bad, right); !same(w, api.World{}) || is {
		t.Errorf("Next: %v %v", w, is)
	}
}

func TestCommitsAndTries(t *testing.T) {
	w := api.World{Commit: []bool{true, false}, Lost: slices.Repeat([]api.Value{initial}, 5)}
	if got := world.Commits(small, w); !slices.Equal(got, []bool{true, true, false, false}) {
		t.Errorf("Commits: %v", got)
	}
	want := [][]api.Value{values(0, 1, 2), values(0), values(0, 2), {number(1), number(2)}, {initial}}
	if got := world.Tries(small, w); !reflect.DeepEqual(got, want) {
		t.Errorf("Tries: %v, want %v", got, want)
	}
	w.Commit = []bool{false, true}
	if got := world.Commits(small, w); !slices.Equal(got, []bool{true, false, false, true}) {
		t.Errorf("Commits: %v", got)
	}
	want[2], want[3] = []api.Value{initial}, []api.Value{initial}
	if got := world.Tries(small, w); !reflect.DeepEqual(got, want) {
		t.Errorf("Tries: %v, want %v", got, want)
	}
}

func TestFirstAndNext(t *testing.T) {
	w, e := world.First(small)
	if !same(w, api.World{Commit: []bool{false, false}, Lost: slices.Repeat([]api.Value{initial}, 5)}) || e != api.OK {
		t.Errorf("First: %v %v", w, e)
	}
	next := func(commit []bool, lost ...api.Value) (api.World, bool) {
		return world.Next(small, api.World{Commit: commit, Lost: lost})
	}
	no, yes := []bool{false, false}, []bool{true, true}
	if w, is := next(no, initial, initial, initial, initial, initial); !is || !same(w, api.World{Commit: no, Lost: []api.Value{initial, number(0), initial, initial, initial}}) {
		t.Errorf("the last one that can counts first: %v %v", w, is)
	}
	if w, is := next(no, number(0), number(0), initial, initial, initial); !is || !same(w, api.World{Commit: no, Lost: []api.Value{number(1), initial, initial, initial, initial}}) {
		t.Errorf("those behind begin anew: %v %v", w, is)
	}
	if w, is := next(no, number(2), number(0), initial, initial, initial); !is || !same(w, api.World{Commit: []bool{false, true}, Lost: slices.Repeat([]api.Value{initial}, 5)}) {
		t.Errorf("another Commit: %v %v", w, is)
	}
	if w, is := next([]bool{false, true}, number(2), number(0), initial, initial, initial); !is || !same(w, api.World{Commit: []bool{true, false}, Lost: []api.Value{initial, initial, initial, number(1), initial}}) {
		t.Errorf("the own value is the first one: %v %v", w, is)
	}
	if w, is := next(yes, number(2), number(0), number(2), number(2), initial); is || !same(w, api.World{}) {
		t.Errorf("behind the last one: %v %v", w, is)
	}
	for _, lost := range [][]api.Value{
		{number(3), initial, initial, number(1), initial}, {initial, number(1), initial, number(1), initial}, {initial, initial, number(1), number(1), initial},
		{initial, initial, initial, initial, initial}, {initial, initial, initial, number(0), initial}, {initial, initial, initial, number(1), number(0)},
	} {
		if w, is := next(yes, lost...); is || !same(w, api.World{}) {
			t.Errorf("behind %v, which is not tried: %v %v", lost, w, is)
		}
	}
}

func TestCount(t *testing.T) {
	for text, want := range map[string]int{
		"":                                    1,
		"begin s, ok s":                       1,
		"begin s, info s":                     2,
		"begin s, read s x ?, fail s":         1,
		"begin s, read s x ?, ok s":           2,
		"begin s, read s x ?, info s":         3,
		strings.Repeat("begin s,info s,", 19): 1 << 19,
		strings.Repeat("begin s,info s,", 20): 1_000_000,
		strings.Repeat("begin s,info s,", 40): 1_000_000,
		strings.Repeat("begin s,"+strings.Repeat("read s x ?,", 20)+"ok s,", 40): 1_000_000,
	} {
		if got := world.Count(sample.Of(text)); got != want {
			t.Errorf("Count of %.50q: %d, want %d", text, got, want)
		}
	}
	if got := world.Count(small); got != 4*2*(1+3*2)*2 {
		t.Errorf("Count: %d", got)
	}
}

// tried tells all tried worlds in order, by the words alone.
func tried(h api.History) []api.World {
	infos, places := hist.Infos(h), hist.Lost(h)
	var all []api.World
	for n := range 1 << len(infos) {
		commit := make([]bool, len(infos))
		for i := range infos {
			commit[i] = n>>(len(infos)-1-i)&1 == 1
		}
		worlds := []api.World{{Commit: commit}}
		for _, p := range places {
			fate := h.L[p.Txn].Fate
			var choice []api.Value
			own, is := inner.Own(h, p)
			switch {
			case fate == api.FFail || fate == api.FInfo && !commit[slices.Index(infos, p.Txn)]:
				choice = []api.Value{initial}
			case is:
				choice = []api.Value{own, writer.Fresh(h, h.L[p.Txn].L[p.Op].Key)}
			default:
				choice = append(writer.Values(h, p), writer.Fresh(h, h.L[p.Txn].L[p.Op].Key))
			}
			var more []api.World
			for _, w := range worlds {
				for _, v := range choice {
					more = append(more, api.World{Commit: commit, Lost: append(slices.Clone(w.Lost), v)})
				}
			}
			worlds = more
		}
		all = append(all, worlds...)
	}
	return all
}

func TestFromFirstOnComeAll(t *testing.T) {
	for n := range 200 {
		h := sample.History(n, sample.Shape{Sessions: 3, Keys: 2, Txns: 4, Ops: 3, Values: 3, Open: true})
		want := tried(h)
		if got := world.Count(h); got != len(want) {
			t.Fatalf("%v: Count %d, want %d", h, got, len(want))
		}
		w, e := world.First(h)
		for i, x := range want {
			if !same(w, x) || !world.May(h, w) || e != api.OK {
				t.Fatalf("%v: world %d is %v, want %v", h, i, w, x)
			}
			was := api.World{Commit: slices.Clone(w.Commit), Lost: slices.Clone(w.Lost)}
			next, is := world.Next(h, w)
			if is != (i < len(want)-1) || !same(w, was) {
				t.Fatalf("%v: behind world %d: %v", h, i, is)
			}
			w = next
		}
	}
}
