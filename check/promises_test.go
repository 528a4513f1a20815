package check_test

import (
	"reflect"
	"slices"
	"testing"

	"deemster/api"
	"deemster/axiom"
	"deemster/back"
	"deemster/bound"
	"deemster/check"
	"deemster/erase"
	"deemster/hist"
	"deemster/report"
	"deemster/sample"
	"deemster/show"
	"deemster/text"
	"deemster/whole"
	"deemster/world"
	"deemster/wr"
)

// holds tells whether a level holds for a whole history, by some map and some order.
func holds(level int, h api.History) bool {
	m, e := wr.First(h)
	for is := e == api.OK; is; m, is = wr.Next(h, m) {
		for _, o := range sample.Orders(whole.Committed(h)) {
			if yes, _ := axiom.Holds(level, h, m, o); yes {
				return true
			}
		}
	}
	return false
}

// truth is what is so of all completions of a history.
type truth struct {
	holding, failing int
	commits          map[int]int
}

func truthOf(level int, h api.History) truth {
	x := truth{commits: map[int]int{}}
	w, _ := world.First(h)
	for is := true; is; w, is = world.Next(h, w) {
		g, _ := whole.Make(h, w)
		if !holds(level, g) {
			x.failing++
			continue
		}
		x.holding++
		for _, t := range whole.Committed(g) {
			x.commits[t]++
		}
	}
	return x
}

func (x truth) verdict() int {
	switch {
	case x.failing == 0:
		return api.Valid
	case x.holding == 0:
		return api.Violated
	}
	return api.Unknown
}

func (x truth) forced(h api.History) (commits, aborts []int) {
	for _, t := range hist.Infos(h) {
		switch {
		case x.holding == 0:
		case x.commits[t] == x.holding:
			commits = append(commits, t)
		case x.commits[t] == 0:
			aborts = append(aborts, t)
		}
	}
	return commits, aborts
}

// TestPromisesOfTheWhole holds T1 to T7 against all completions, maps and orders of small logs.
func TestPromisesOfTheWhole(t *testing.T) {
	told := map[int]int{}
	for n := range 260 {
		h := sample.History(n, sample.Shape{Sessions: 3, Keys: 2, Txns: 4, Ops: 3, Values: 2, Open: n%5 > 0})
		if world.Count(h) > 200 {
			continue
		}
		s, _ := show.Print(h)
		for _, level := range []int{api.RC, api.CC, api.SER} {
			for _, policy := range []int{api.Keep, api.Erase} {
				g, _ := erase.By(h, policy)
				x := truthOf(level, g)
				enough, e := bound.Of(h, policy)
				o := check.Check(s, level, policy, enough)
				if e != api.OK || o.Kind != check.Done {
					t.Fatalf("%q: level %d, policy %d, %d nodes: %v", s, level, policy, enough, o)
				}
				commits, aborts := x.forced(g)
				if o.R.Verdict != x.verdict() || !slices.Equal(o.R.Commits, commits) || !slices.Equal(o.R.Aborts, aborts) {
					t.Fatalf("%q: level %d, policy %d: %v, want %v %v %v", s, level, policy, o.R, x.verdict(), commits, aborts)
				}
				if whole.Is(h) && (o.R.Verdict == api.Unknown || (o.R.Verdict == api.Valid) != holds(level, h)) {
					t.Fatalf("%q: level %d: a whole log is %d", s, level, o.R.Verdict)
				}
				witnesses(t, level, g, o.R)
				budgets(t, s, level, policy, o)
				told[o.R.Verdict]++
			}
		}
	}
	for v := api.Valid; v <= api.Unknown; v++ {
		if told[v] < 20 {
			t.Errorf("verdict %d was told %d times", v, told[v])
		}
	}
}

// witnesses are completions, and show what they are told for; the report is read back as it was.
func witnesses(t *testing.T, level int, g api.History, r report.Report) {
	t.Helper()
	if r.HasSat {
		_, agrees := whole.World(g, r.Sat)
		if yes, e := axiom.Holds(level, r.Sat, r.Cert.Wr, r.Cert.Co); !agrees || !yes || e != api.OK {
			t.Fatalf("%v: level %d: %v does not show it: %v %v", g, level, r.Sat, yes, e)
		}
	}
	if r.HasUnsat {
		if _, agrees := whole.World(g, r.Unsat); !agrees || holds(level, r.Unsat) {
			t.Fatalf("%v: level %d: %v does not show it", g, level, r.Unsat)
		}
	}
	s, e := text.Print(r)
	if again, f := back.Parse(s); e != api.OK || f != api.OK || !report.Same(again, r) {
		t.Fatalf("%q is read as %v: %v %v", s, again, e, f)
	}
}

// budgets tell the report, or nothing: the same from some budget on.
func budgets(t *testing.T, s string, level, policy int, want check.Outcome) {
	t.Helper()
	done := false
	for most := 0; most < 1<<20 && !done; most = most*3/2 + 1 {
		o := check.Check(s, level, policy, most)
		done = o.Kind == check.Done
		if done && !report.Same(o.R, want.R) || !done && !reflect.DeepEqual(o, check.Outcome{Kind: check.Exhausted}) {
			t.Fatalf("%q: level %d, policy %d, %d nodes: %v, want %v", s, level, policy, most, o, want)
		}
	}
}

// TestSessionsAmongOneAnotherCountNothing: how transactions of unlike sessions stand among one another tells nothing.
func TestSessionsAmongOneAnotherCountNothing(t *testing.T) {
	for n := range 120 {
		h := sample.History(n, sample.Shape{Sessions: 3, Keys: 2, Txns: 5, Ops: 3, Values: 2, Open: true})
		if world.Count(h) > 500 {
			continue
		}
		g := h
		g.L = nil
		for i := len(h.Sessions) - 1; i >= 0; i-- {
			for _, t := range hist.Session(h, i) {
				g.L = append(g.L, h.L[t])
			}
		}
		a, _ := show.Print(h)
		b, _ := show.Print(g)
		for _, level := range []int{api.RC, api.CC, api.SER} {
			x, y := check.Check(a, level, api.Keep, 1<<30).R, check.Check(b, level, api.Keep, 1<<30).R
			if x.Verdict != y.Verdict || len(x.Commits) != len(y.Commits) || len(x.Aborts) != len(y.Aborts) {
				t.Fatalf("%q: %v, and %q: %v", a, x, b, y)
			}
		}
	}
}
