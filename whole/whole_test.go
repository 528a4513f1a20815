package whole_test

import (
	"reflect"
	"slices"
	"testing"

	"deemster/api"
	"deemster/hist"
	"deemster/sample"
	"deemster/whole"
	"deemster/world"
)

func number(n int64) api.Value { return api.Value{Kind: api.VInt, N: n} }

var initial = api.Value{Kind: api.VNil}

const text = "begin s, read s x ?, write s x 1, read s x ?, info s, begin t, read t y ?, ok t, begin t, read t x ?, fail t, begin s, info s, begin t, read t x 1, ok t"

func same(a, b api.World) bool {
	return slices.Equal(a.Commit, b.Commit) && slices.Equal(a.Lost, b.Lost)
}

func TestIs(t *testing.T) {
	for s, want := range map[string]bool{
		"": true, "begin s, ok s": true, "begin s, read s x nil, fail s": true, "begin s, write s x 1, ok s, begin s, read s x 7, ok s": true,
		"begin s, info s": false, "begin s, read s x ?, ok s": false, "begin s, read s x ?, fail s": false, "begin s, ok s, begin t, write t x 1, info t": false,
	} {
		if got := whole.Is(sample.Of(s)); got != want {
			t.Errorf("Is of %q: %v", s, got)
		}
	}
	if whole.Is(api.History{Sessions: []string{"s"}}) {
		t.Error("of a history that may not be")
	}
}

func TestMake(t *testing.T) {
	h := sample.Of(text)
	w := api.World{Commit: []bool{true, false}, Lost: []api.Value{initial, number(1), number(7), initial}}
	want := sample.Of("begin s, read s x nil, write s x 1, read s x 1, ok s, begin t, read t y 7, ok t, begin t, read t x nil, fail t, begin s, fail s, begin t, read t x 1, ok t")
	g, e := whole.Make(h, w)
	if !hist.Same(g, want) || e != api.OK {
		t.Errorf("%v %v, want %v", g, e, want)
	}
	if !hist.Same(h, sample.Of(text)) {
		t.Errorf("what was handed in was changed: %v", h)
	}
	w.Commit = []bool{false, true}
	if g, _ := whole.Make(h, w); g.L[0].Fate != api.FFail || g.L[3].Fate != api.FOk {
		t.Errorf("%v", g)
	}
	g, e = whole.Make(sample.Of("begin s, read s x ?, info s"), api.World{Commit: []bool{true}, Lost: []api.Value{initial}})
	if !hist.Same(g, sample.Of("begin s, read s x nil, ok s")) || e != api.OK {
		t.Errorf("%v %v", g, e)
	}
}

func TestMakeWrong(t *testing.T) {
	h := sample.Of(text)
	right := api.World{Commit: []bool{true, false}, Lost: []api.Value{initial, initial, initial, initial}}
	for _, w := range []api.World{
		{}, {Commit: right.Commit}, {Commit: []bool{true}, Lost: right.Lost}, {Commit: right.Commit, Lost: right.Lost[:3]},
		{Commit: right.Commit, Lost: []api.Value{initial, initial, initial, {Kind: api.VLost}}}, {Commit: right.Commit, Lost: []api.Value{initial, {N: 1}, initial, initial}},
	} {
		if g, e := whole.Make(h, w); !reflect.DeepEqual(g, api.History{}) || e != api.ErrArg {
			t.Errorf("%v: %v %v", w, g, e)
		}
	}
	h.L[0].Fate = 0
	for _, w := range []api.World{{}, right} {
		if g, e := whole.Make(h, w); !reflect.DeepEqual(g, api.History{}) || e != api.ErrForm {
			t.Errorf("%v: %v %v", w, g, e)
		}
	}
}

func TestWorld(t *testing.T) {
	h := sample.Of(text)
	want := api.World{Commit: []bool{false, true}, Lost: []api.Value{number(3), initial, initial, number(9)}} // tried or not
	g, _ := whole.Make(h, want)
	if w, is := whole.World(h, g); !same(w, want) || !is {
		t.Errorf("%v %v", w, is)
	}
	for what, change := range map[string]func(g *api.History){
		"a session's name":     func(g *api.History) { g.Sessions[0] = "a" },
		"a key's name":         func(g *api.History) { g.Keys[0] = "a" },
		"a session":            func(g *api.History) { g.L[0].Session = 1 },
		"a known fate":         func(g *api.History) { g.L[1].Fate = api.FFail },
		"a known fate, too":    func(g *api.History) { g.L[2].Fate = api.FOk },
		"an unknown fate":      func(g *api.History) { g.L[3].Fate = api.FInfo },
		"an unknown read":      func(g *api.History) { g.L[0].L[0].V = api.Value{Kind: api.VLost} },
		"a known read":         func(g *api.History) { g.L[4].L[0].V = number(2) },
		"a known write":        func(g *api.History) { g.L[0].L[1].V = number(2) },
		"a lost one's key":     func(g *api.History) { g.L[0].L[0].Key = 1 },
		"a write for a read":   func(g *api.History) { g.L[0].L[0].Write = true },
		"an op more":           func(g *api.History) { g.L[3].L = []api.Op{{}} },
		"an op less":           func(g *api.History) { g.L[0].L = g.L[0].L[:2] },
		"a transaction less":   func(g *api.History) { g.L = g.L[:4] },
		"a transaction more":   func(g *api.History) { g.L = append(g.L, api.Txn{Fate: api.FOk}) },
		"what may not be":      func(g *api.History) { g.L[0].Session = 9 },
		"a fate that is none":  func(g *api.History) { g.L[0].Fate = 0 },
		"a value that is none": func(g *api.History) { g.L[0].L[0].V.Kind = 9 },
	} {
		g, _ := whole.Make(h, want)
		change(&g)
		if w, is := whole.World(h, g); is || !same(w, api.World{}) {
			t.Errorf("%s: %v %v", what, w, is)
		}
	}
	h.L[0].Session = 9
	if w, is := whole.World(h, g); is || !same(w, api.World{}) {
		t.Errorf("of a history that may not be: %v %v", w, is)
	}
}

func TestCommitted(t *testing.T) {
	if got := whole.Committed(sample.Of("begin s, ok s, begin s, fail s, begin t, write t x 1, ok t")); !slices.Equal(got, []int{0, 2}) {
		t.Errorf("%v", got)
	}
	for _, s := range []string{"", "begin s, fail s", "begin s, ok s, begin s, info s", "begin s, read s x ?, ok s"} {
		if got := whole.Committed(sample.Of(s)); len(got) > 0 {
			t.Errorf("of %q: %v", s, got)
		}
	}
	if got := whole.Committed(api.History{L: []api.Txn{{Fate: api.FOk}}}); len(got) > 0 {
		t.Errorf("of a history that may not be: %v", got)
	}
}

func TestMadeWholeAndBack(t *testing.T) {
	for n := range 200 {
		h := sample.History(n, sample.Shape{Sessions: 3, Keys: 2, Txns: 4, Ops: 3, Values: 3, Open: true})
		w, _ := world.First(h)
		for is := true; is; w, is = world.Next(h, w) {
			g, e := whole.Make(h, w)
			back, agrees := whole.World(h, g)
			if e != api.OK || !whole.Is(g) || !agrees || !same(back, w) {
				t.Fatalf("%v by %v: %v %v, back %v %v", h, w, g, e, back, agrees)
			}
			if again, e := whole.Make(g, api.World{}); !hist.Same(again, g) || e != api.OK {
				t.Fatalf("%v by the empty world: %v %v", g, again, e)
			}
			var commits []int
			for i, is := range world.Commits(h, w) {
				if is {
					commits = append(commits, i)
				}
			}
			if !slices.Equal(whole.Committed(g), commits) {
				t.Fatalf("%v: committed are %v", g, commits)
			}
		}
	}
}
