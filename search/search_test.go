package search_test

import (
	"reflect"
	"slices"
	"strings"
	"testing"

	"deemster/api"
	"deemster/cert"
	"deemster/decide"
	"deemster/hist"
	"deemster/sample"
	"deemster/search"
	"deemster/unit"
	"deemster/whole"
	"deemster/world"
)

var levels = []int{api.RC, api.CC, api.SER}

var initial = api.Value{Kind: api.VNil}

func sameWorld(a, b api.World) bool {
	return slices.Equal(a.Commit, b.Commit) && slices.Equal(a.Lost, b.Lost)
}

func same(a, b search.Found) bool {
	return a.Sat == b.Sat && a.Unsat == b.Unsat && sameWorld(a.SatWorld, b.SatWorld) && sameWorld(a.UnsatWorld, b.UnsatWorld) &&
		slices.Equal(a.SatCert.Wr, b.SatCert.Wr) && slices.Equal(a.SatCert.Co, b.SatCert.Co) && slices.Equal(a.Commits, b.Commits) && slices.Equal(a.Aborts, b.Aborts)
}

func TestExamples(t *testing.T) {
	const behind = "begin s, write s x 1, info s, begin s, read s x nil, ok s"
	no, yes := []bool{false}, []bool{true}
	for _, c := range []struct {
		what, text string
		level      int
		want       search.Found
		nodes      int
	}{
		{"nothing", "", api.SER, search.Found{Sat: true}, 1},
		{"by RC all hold", behind, api.RC, search.Found{Sat: true, SatWorld: api.World{Commit: no}, SatCert: api.Cert{Wr: []int{-1}, Co: []int{1}}, Commits: yes, Aborts: yes}, 2},
		{"by CC one holds", behind, api.CC, search.Found{Sat: true, Unsat: true, SatWorld: api.World{Commit: no}, UnsatWorld: api.World{Commit: yes},
			SatCert: api.Cert{Wr: []int{-1}, Co: []int{1}}, Commits: no, Aborts: yes}, 2},
		{"against what must be", "begin s, write s x 1, info s, begin t, read t x 1, ok t", api.SER, search.Found{Sat: true, Unsat: true, SatWorld: api.World{Commit: yes}, UnsatWorld: api.World{Commit: no},
			SatCert: api.Cert{Wr: []int{0}, Co: []int{0, 1}}, Commits: yes, Aborts: no}, 4},
		{"hopeless", "begin s, read s x 9, ok s, begin t, read t y ?, info t", api.RC, search.Found{Unsat: true, UnsatWorld: api.World{Commit: no, Lost: []api.Value{initial}}, Commits: no, Aborts: no}, 2},
		{"a lost read", "begin s, read s x ?, ok s", api.SER, search.Found{Sat: true, Unsat: true, SatWorld: api.World{Lost: []api.Value{initial}}, UnsatWorld: api.World{Lost: []api.Value{{Kind: api.VInt}}},
			SatCert: api.Cert{Wr: []int{-1}, Co: []int{0}}}, 3},
		{"a lost read of one that may abort", "begin s, read s x ?, info s", api.RC, search.Found{Sat: true, Unsat: true, SatWorld: api.World{Commit: no, Lost: []api.Value{initial}},
			UnsatWorld: api.World{Commit: yes, Lost: []api.Value{{Kind: api.VInt}}}, SatCert: api.Cert{}, Commits: yes, Aborts: yes}, 3},
	} {
		h := sample.Of(c.text)
		got, nodes, e := search.All(c.level, h, 1000)
		if !same(got, c.want) || nodes != c.nodes || e != api.OK {
			t.Errorf("%s: %v %d %v, want %v %d", c.what, got, nodes, e, c.want, c.nodes)
		}
		if f, n, e := search.All(c.level, h, c.nodes); !same(f, c.want) || n != c.nodes || e != api.OK {
			t.Errorf("%s, with just enough nodes: %v %d %v", c.what, f, n, e)
		}
		if f, n, e := search.All(c.level, h, c.nodes-1); !reflect.DeepEqual(f, search.Found{}) || n != c.nodes-1 || e != api.ErrSpent {
			t.Errorf("%s, with a node too few: %v %d %v", c.what, f, n, e)
		}
	}
}

func TestWrong(t *testing.T) {
	h, bad := sample.Of("begin s, info s"), api.History{Sessions: []string{"s"}}
	for _, c := range []struct {
		level int
		h     api.History
		most  int
		want  api.Errno
	}{
		{0, h, 9, api.ErrArg}, {4, h, 0, api.ErrArg}, {api.CC, h, -1, api.ErrArg}, {api.CC, h, -1 << 63, api.ErrArg}, {api.CC, bad, 9, api.ErrForm}, {0, bad, -1, api.ErrForm}, {api.CC, h, 0, api.ErrSpent},
	} {
		if f, nodes, e := search.All(c.level, c.h, c.most); !reflect.DeepEqual(f, search.Found{}) || nodes != 0 || e != c.want {
			t.Errorf("All(%d, .., %d): %v %d %v", c.level, c.most, f, nodes, e)
		}
	}
}

func TestManyFates(t *testing.T) {
	// Against what must be: a node for each of 2 to the power of 12 Commits.
	h := sample.Of("begin a,read a x 5,ok a," + strings.Repeat("begin s,info s,", 12))
	f, nodes, e := search.All(api.RC, h, 1<<20)
	if f.Sat || !f.Unsat || nodes != 1<<12 || e != api.OK {
		t.Errorf("%v %d %v", f, nodes, e)
	}
	if f, nodes, e := search.All(api.SER, sample.Of(strings.Repeat("begin s,info s,", 40)), 5000); !reflect.DeepEqual(f, search.Found{}) || nodes != 5000 || e != api.ErrSpent {
		t.Errorf("%v %d %v", f, nodes, e)
	}
}

func TestSkip(t *testing.T) {
	h := sample.Of("begin s, read s x ?, write s x 1, read s x ?, info s, begin t, read t x ?, info t, begin t, read t x ?, ok t")
	five := api.Value{Kind: api.VInt, N: 5}
	one := api.Value{Kind: api.VInt, N: 1}
	for _, c := range []struct {
		commit, next []bool
		lost         []api.Value
	}{
		{[]bool{false, false}, []bool{false, true}, []api.Value{initial, initial, initial, initial}},
		{[]bool{false, true}, []bool{true, false}, []api.Value{initial, one, initial, initial}},
		{[]bool{true, false}, []bool{true, true}, []api.Value{initial, one, initial, initial}},
	} {
		w := api.World{Commit: c.commit, Lost: []api.Value{five, five, five, initial}} // it need not be tried
		got, is := search.Skip(h, w)
		if !is || !sameWorld(got, api.World{Commit: c.next, Lost: c.lost}) || w.Lost[0] != five || !slices.Equal(w.Commit, c.commit) {
			t.Errorf("behind %v: %v %v", c.commit, got, is)
		}
	}
	for _, w := range []api.World{
		{Commit: []bool{true, true}, Lost: slices.Repeat([]api.Value{initial}, 4)}, {Commit: []bool{false}, Lost: slices.Repeat([]api.Value{initial}, 4)},
		{Commit: []bool{false, false}, Lost: slices.Repeat([]api.Value{initial}, 3)}, {Commit: []bool{false, false}, Lost: slices.Repeat([]api.Value{{Kind: api.VLost}}, 4)}, {},
	} {
		if got, is := search.Skip(h, w); is || !sameWorld(got, api.World{}) {
			t.Errorf("behind %v: %v %v", w, got, is)
		}
	}
	if got, is := search.Skip(api.History{Keys: []string{"x"}}, api.World{}); is || !sameWorld(got, api.World{}) {
		t.Errorf("of a history that may not be: %v", got)
	}
	if got, is := search.Skip(sample.Of("begin s, read s x ?, ok s"), api.World{Lost: []api.Value{initial}}); is || !sameWorld(got, api.World{}) {
		t.Errorf("without any of unknown fate: %v", got)
	}
}

// all tells what is so of all tried worlds, one by one.
func all(level int, h api.History) search.Found {
	n := len(hist.Infos(h))
	f := search.Found{Commits: make([]bool, n), Aborts: make([]bool, n)}
	w, _ := world.First(h)
	for is := true; is; w, is = world.Next(h, w) {
		g, _ := whole.Make(h, w)
		c, holds, _, _ := decide.Level(level, g, 1<<30)
		if !holds {
			if !f.Unsat {
				f.Unsat, f.UnsatWorld = true, w
			}
			continue
		}
		if !f.Sat {
			f.Sat, f.SatWorld, f.SatCert = true, w, c
		}
		for i, commits := range w.Commit {
			f.Commits[i] = f.Commits[i] || commits
			f.Aborts[i] = f.Aborts[i] || !commits
		}
	}
	return f
}

// nodesOf counts the nodes by the words.
func nodesOf(level int, h api.History) int {
	var f search.Found
	n := len(hist.Infos(h))
	f.Commits, f.Aborts = make([]bool, n), make([]bool, n)
	held := map[string]int{}
	nodes := 0
	w, _ := world.First(h)
	for is := true; is; {
		key := commitText(w.Commit)
		done, _ := unit.Against(h, w.Commit)
		holds := false
		if done {
			nodes++
		} else {
			g, _ := whole.Make(h, w)
			_, yes, took, _ := decide.Level(level, g, 1<<30)
			nodes, holds = nodes+took, yes
		}
		f.Sat, f.Unsat = f.Sat || holds, f.Unsat || !holds
		for i, commits := range w.Commit {
			f.Commits[i] = f.Commits[i] || holds && commits
			f.Aborts[i] = f.Aborts[i] || holds && !commits
		}
		if holds {
			held[key] = 1
		}
		if f.Sat && f.Unsat && !slices.Contains(f.Commits, false) && !slices.Contains(f.Aborts, false) {
			return nodes
		}
		done = done || held[key] == 1 && f.Unsat
		for w, is = world.Next(h, w); is && done && commitText(w.Commit) == key; w, is = world.Next(h, w) {
		}
	}
	return nodes
}

func commitText(l []bool) string {
	s := ""
	for _, commits := range l {
		if commits {
			s += "c"
		} else {
			s += "a"
		}
	}
	return s
}

func TestAgainstAllWorlds(t *testing.T) {
	kinds := map[[2]bool]int{}
	for n := range 500 {
		h := sample.History(n, sample.Shape{Sessions: 3, Keys: 2, Txns: 5, Ops: 3, Values: 2, Open: true})
		if world.Count(h) > 400 {
			continue
		}
		for _, level := range levels {
			want, count := all(level, h), nodesOf(level, h)
			got, nodes, e := search.All(level, h, 1<<30)
			if !same(got, want) || nodes != count || e != api.OK {
				t.Fatalf("%v: level %d: %v %d %v, want %v %d", h, level, got, nodes, e, want, count)
			}
			if got.Sat {
				g, _ := whole.Make(h, got.SatWorld)
				if !cert.Right(level, g, got.SatCert) {
					t.Fatalf("%v: level %d: %v is no certificate", h, level, got.SatCert)
				}
			}
			for _, most := range []int{0, nodes / 2, nodes - 1, nodes, nodes + 1} {
				f, took, e := search.All(level, h, most)
				if most < nodes && (e != api.ErrSpent || took != most || !reflect.DeepEqual(f, search.Found{})) || most >= nodes && (e != api.OK || took != nodes || !same(f, want)) {
					t.Fatalf("%v: level %d with %d nodes: %v %d %v", h, level, most, f, took, e)
				}
			}
			kinds[[2]bool{got.Sat, got.Unsat}]++
		}
	}
	for _, kind := range [][2]bool{{true, true}, {true, false}, {false, true}} {
		if kinds[kind] == 0 {
			t.Errorf("%v was never found", kind)
		}
	}
}
