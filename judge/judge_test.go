package judge_test

import (
	"reflect"
	"slices"
	"testing"

	"deemster/api"
	"deemster/decide"
	"deemster/erase"
	"deemster/forced"
	"deemster/hist"
	"deemster/judge"
	"deemster/sample"
	"deemster/search"
	"deemster/whole"
	"deemster/world"
)

var levels = []int{api.RC, api.CC, api.SER}

func TestExamples(t *testing.T) {
	for _, c := range []struct {
		what, text string
		policy     int
		want       [3]int
	}{
		{"nothing", "", api.Keep, [3]int{api.Valid, api.Valid, api.Valid}},
		{"an empty transaction", "begin s, ok s", api.Keep, [3]int{api.Valid, api.Valid, api.Valid}},
		{"read around", "begin s, write s x 1, info s, begin s, read s x nil, ok s", api.Keep, [3]int{api.Valid, api.Unknown, api.Unknown}},
		{"read from", "begin s, write s x 1, info s, begin t, read t x 1, ok t", api.Erase, [3]int{api.Unknown, api.Unknown, api.Unknown}},
		{"nobody wrote it", "begin s, read s x 9, ok s", api.Keep, [3]int{api.Violated, api.Violated, api.Violated}},
		{"a lost read, kept", "begin s, read s x ?, ok s", api.Keep, [3]int{api.Unknown, api.Unknown, api.Unknown}},
		{"a lost read, erased", "begin s, read s x ?, ok s", api.Erase, [3]int{api.Valid, api.Valid, api.Valid}},
		{"a lost read of one that failed", "begin s, read s x ?, fail s", api.Keep, [3]int{api.Valid, api.Valid, api.Valid}},
		{"two that read the same", "begin s, read s x nil, write s x 1, ok s, begin t, read t x nil, write t x 2, ok t", api.Keep, [3]int{api.Valid, api.Valid, api.Violated}},
		{"a bad read", "begin s, write s x 1, read s x 2, ok s", api.Erase, [3]int{api.Violated, api.Violated, api.Violated}},
	} {
		h := sample.Of(c.text)
		for i, level := range levels {
			j, e := judge.Judge(level, c.policy, h, 1000)
			if j.Verdict != c.want[i] || e != api.OK {
				t.Errorf("%s, level %d: %d %v", c.what, level, j.Verdict, e)
			}
			if v, e := judge.Plain(level, c.policy, h); v != c.want[i] || e != api.OK {
				t.Errorf("%s, level %d: Plain %d %v", c.what, level, v, e)
			}
		}
	}
}

func TestJudgement(t *testing.T) {
	h := sample.Of("begin s, read s y ?, write s x 1, info s, begin t, read t x 1, ok t, begin u, info u")
	for _, policy := range []int{api.Keep, api.Erase} {
		g, _ := erase.By(h, policy)
		f, nodes, _ := search.All(api.CC, g, 1000)
		sets, _ := forced.Of(g, f)
		j, e := judge.Judge(api.CC, policy, h, 1000)
		if j.Verdict != api.Unknown || j.Nodes != nodes || !hist.Same(j.H, g) || !reflect.DeepEqual(j.Found, f) || !reflect.DeepEqual(j.Forced, sets) || e != api.OK || !slices.Equal(sets.Commits, []int{0}) {
			t.Errorf("policy %d: %v %v", policy, j, e)
		}
		if j, e := judge.Judge(api.CC, policy, h, nodes-1); !reflect.DeepEqual(j, judge.Judgement{}) || e != api.ErrSpent {
			t.Errorf("policy %d, a node too few: %v %v", policy, j, e)
		}
		if again, e := judge.Judge(api.CC, policy, h, nodes); !reflect.DeepEqual(again, j) || e != api.OK {
			t.Errorf("policy %d, just enough nodes: %v %v", policy, again, e)
		}
	}
	j, _ := judge.Judge(api.CC, api.Keep, sample.Of("begin s, read s x 7, ok s, begin t, info t"), 1000)
	if j.Verdict != api.Violated || len(j.Forced.Commits)+len(j.Forced.Aborts) > 0 {
		t.Errorf("what is violated forces nothing: %v", j)
	}
}

func TestWrong(t *testing.T) {
	h, bad := sample.Of("begin s, info s"), api.History{Sessions: []string{"s"}}
	for _, c := range []struct {
		level, policy int
		h             api.History
		most          int
		want          api.Errno
	}{
		{api.RC, 0, h, 9, api.ErrArg}, {api.RC, 3, h, 9, api.ErrArg}, {0, api.Keep, h, 9, api.ErrArg}, {4, api.Erase, h, 9, api.ErrArg}, {api.RC, api.Keep, h, -1, api.ErrArg}, {api.RC, 7, h, 0, api.ErrArg},
		{api.RC, api.Keep, h, 1, api.ErrSpent}, {api.SER, api.Erase, h, 0, api.ErrSpent}, {api.RC, api.Keep, bad, 9, api.ErrForm}, {0, 0, bad, -1, api.ErrForm},
	} {
		if j, e := judge.Judge(c.level, c.policy, c.h, c.most); !reflect.DeepEqual(j, judge.Judgement{}) || e != c.want {
			t.Errorf("Judge(%d, %d, .., %d): %v %v", c.level, c.policy, c.most, j, e)
		}
		if c.most > 1 {
			if v, e := judge.Plain(c.level, c.policy, c.h); v != 0 || e != c.want {
				t.Errorf("Plain(%d, %d, ..): %v %v", c.level, c.policy, v, e)
			}
		}
	}
}

// verdictOf tells the verdict by all tried worlds, one by one.
func verdictOf(level int, h api.History) int {
	yes, no := false, false
	w, _ := world.First(h)
	for is := true; is; w, is = world.Next(h, w) {
		g, _ := whole.Make(h, w)
		holds, _ := decide.Plain(level, g)
		yes, no = yes || holds, no || !holds
	}
	switch {
	case !no:
		return api.Valid
	case !yes:
		return api.Violated
	}
	return api.Unknown
}

func TestVerdicts(t *testing.T) {
	told := map[int]int{}
	for n := range 400 {
		h := sample.History(n, sample.Shape{Sessions: 3, Keys: 2, Txns: 5, Ops: 3, Values: 2, Open: n%4 > 0})
		if world.Count(h) > 300 {
			continue
		}
		for _, policy := range []int{api.Keep, api.Erase} {
			g, _ := erase.By(h, policy)
			var was int
			for i, level := range levels {
				v, e := judge.Plain(level, policy, h)
				if v != verdictOf(level, g) || e != api.OK {
					t.Fatalf("%v: level %d, policy %d: %d %v", h, level, policy, v, e)
				}
				if i > 0 && (v == api.Valid && was != api.Valid || was == api.Violated && v != api.Violated) {
					t.Fatalf("%v: level %d, policy %d: %d behind %d", h, level, policy, v, was)
				}
				if whole.Is(h) && v == api.Unknown {
					t.Fatalf("%v: level %d: a whole history is unknown", h, level)
				}
				lost := slices.ContainsFunc(hist.Lost(h), func(p api.Place) bool { return h.L[p.Txn].Fate == api.FOk })
				if lost && policy == api.Keep && v == api.Valid {
					t.Fatalf("%v: level %d: valid with a lost read of one that is ok", h, level)
				}
				was = v
				told[v]++
			}
		}
	}
	for v := api.Valid; v <= api.Unknown; v++ {
		if told[v] == 0 {
			t.Errorf("verdict %d was never told", v)
		}
	}
}
