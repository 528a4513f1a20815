package forced_test

import (
	"reflect"
	"slices"
	"testing"

	"deemster/api"
	"deemster/decide"
	"deemster/forced"
	"deemster/hist"
	"deemster/sample"
	"deemster/search"
	"deemster/whole"
	"deemster/world"
)

var levels = []int{api.RC, api.CC, api.SER}

func same(a, b forced.Forced) bool {
	return slices.Equal(a.Commits, b.Commits) && slices.Equal(a.Aborts, b.Aborts)
}

func TestExamples(t *testing.T) {
	for _, c := range []struct {
		what, text string
		level      int
		want       forced.Forced
		free       []int
	}{
		{"nothing", "", api.SER, forced.Forced{}, nil},
		{"read from", "begin s, write s x 1, info s, begin t, read t x 1, ok t", api.RC, forced.Forced{Commits: []int{0}}, nil},
		{"read around", "begin s, write s x 1, info s, begin s, read s x nil, ok s", api.CC, forced.Forced{Aborts: []int{0}}, nil},
		{"read around, by RC", "begin s, write s x 1, info s, begin s, read s x nil, ok s", api.RC, forced.Forced{}, []int{0}},
		{"none holds", "begin s, read s x 9, ok s, begin s, info s", api.RC, forced.Forced{}, nil},
		{"of all kinds", "begin a, ok a, begin a, info a, begin s, write s x 1, info s, begin t, read t x 1, ok t, begin u, read u x 2, info u, begin v, info v", api.SER, forced.Forced{Commits: []int{2}, Aborts: []int{4}}, []int{1, 5}},
	} {
		h := sample.Of(c.text)
		if got, e := forced.Sets(c.level, h, 1000); !same(got, c.want) || e != api.OK {
			t.Errorf("%s: %v %v", c.what, got, e)
		}
		if got, e := forced.Free(c.level, h, 1000); !slices.Equal(got, c.free) || e != api.OK {
			t.Errorf("%s: free %v %v", c.what, got, e)
		}
	}
}

func TestOf(t *testing.T) {
	h := sample.Of("begin s, info s, begin s, ok s, begin s, info s, begin s, info s")
	yes, no := []bool{true, true, true}, []bool{false, false, false}
	for _, c := range []struct {
		f    search.Found
		want forced.Forced
	}{
		{search.Found{Sat: true, Commits: yes, Aborts: yes}, forced.Forced{}},
		{search.Found{Sat: true, Commits: yes, Aborts: no}, forced.Forced{Commits: []int{0, 2, 3}}},
		{search.Found{Sat: true, Commits: []bool{true, false, true}, Aborts: []bool{true, true, false}}, forced.Forced{Commits: []int{3}, Aborts: []int{2}}},
		{search.Found{Unsat: true, Commits: no, Aborts: no}, forced.Forced{}},
		{search.Found{Commits: yes, Aborts: no}, forced.Forced{}},
	} {
		if got, e := forced.Of(h, c.f); !same(got, c.want) || e != api.OK {
			t.Errorf("%v: %v %v", c.f, got, e)
		}
	}
	for _, f := range []search.Found{{}, {Sat: true, Commits: yes}, {Sat: true, Aborts: yes}, {Commits: yes, Aborts: yes[:2]}, {Commits: append(no, true), Aborts: yes}} {
		if got, e := forced.Of(h, f); !reflect.DeepEqual(got, forced.Forced{}) || e != api.ErrForm {
			t.Errorf("%v: %v %v", f, got, e)
		}
	}
	if got, e := forced.Of(api.History{Keys: []string{"x"}}, search.Found{Sat: true}); !same(got, forced.Forced{}) || e != api.ErrForm {
		t.Errorf("of a history that may not be: %v %v", got, e)
	}
}

func TestWrong(t *testing.T) {
	h := sample.Of("begin s, info s")
	for _, c := range []struct {
		level int
		h     api.History
		most  int
		want  api.Errno
	}{
		{0, h, 9, api.ErrArg}, {4, h, 9, api.ErrArg}, {api.RC, h, -1, api.ErrArg}, {api.RC, h, 1, api.ErrSpent}, {api.SER, h, 0, api.ErrSpent}, {0, api.History{Keys: []string{"x"}}, -1, api.ErrForm},
	} {
		if got, e := forced.Sets(c.level, c.h, c.most); !same(got, forced.Forced{}) || e != c.want {
			t.Errorf("Sets(%d, .., %d): %v %v", c.level, c.most, got, e)
		}
		if got, e := forced.Free(c.level, c.h, c.most); len(got) > 0 || e != c.want {
			t.Errorf("Free(%d, .., %d): %v %v", c.level, c.most, got, e)
		}
	}
}

func TestAgainstAllWorlds(t *testing.T) {
	for n := range 300 {
		h := sample.History(n, sample.Shape{Sessions: 3, Keys: 2, Txns: 5, Ops: 3, Values: 2, Open: true})
		if world.Count(h) > 300 {
			continue
		}
		for _, level := range levels {
			holds, commits := 0, make([]int, len(h.L))
			w, _ := world.First(h)
			for is := true; is; w, is = world.Next(h, w) {
				g, _ := whole.Make(h, w)
				if yes, _ := decide.Plain(level, g); yes {
					holds++
					for _, i := range whole.Committed(g) {
						commits[i]++
					}
				}
			}
			var want forced.Forced
			var free []int
			for _, i := range hist.Infos(h) {
				switch {
				case holds == 0:
				case commits[i] == holds:
					want.Commits = append(want.Commits, i)
				case commits[i] == 0:
					want.Aborts = append(want.Aborts, i)
				default:
					free = append(free, i)
				}
			}
			if got, e := forced.Sets(level, h, 1<<30); !same(got, want) || e != api.OK {
				t.Fatalf("%v: level %d: %v %v, want %v", h, level, got, e, want)
			}
			if got, e := forced.Free(level, h, 1<<30); !slices.Equal(got, free) || e != api.OK {
				t.Fatalf("%v: level %d: free %v %v, want %v", h, level, got, e, free)
			}
		}
	}
}
