package table_test

import (
	"slices"
	"testing"

	"deemster/table"
)

func TestMake(t *testing.T) {
	in := []string{"b", "a", "b", "ok", "", "é", "1", "aa", "\xff"}
	if got := table.Make(in...); !slices.Equal(got, []string{"a", "aa", "b", "é"}) {
		t.Errorf("%q", got)
	}
	if in[0] != "b" || in[1] != "a" {
		t.Errorf("what was handed in was changed: %q", in)
	}
	if got := table.Make("b", "a", "b"); !slices.Equal(got, []string{"a", "b"}) {
		t.Errorf("%q", got)
	}
	if got := table.Make(); len(got) != 0 {
		t.Errorf("of none: %q", got)
	}
}

func TestIs(t *testing.T) {
	for _, l := range [][]string{nil, {}, {"a"}, {"Z", "_", "a", "aa", "é"}} {
		if !table.Is(l) {
			t.Errorf("%q is a table", l)
		}
	}
	for _, l := range [][]string{{""}, {"ok"}, {"b", "a"}, {"a", "a"}, {"a", "b", "b"}, {"a", "nil", "z"}, {"a", "é", "z"}, {"\xff"}} {
		if table.Is(l) {
			t.Errorf("%q is no table", l)
		}
	}
}

func TestFind(t *testing.T) {
	l := []string{"Z", "a", "aa", "é"}
	for i, s := range l {
		if n, is := table.Find(l, s); n != i || !is {
			t.Errorf("Find of %q: %d %v", s, n, is)
		}
	}
	for _, s := range []string{"", "b", "ok", "z", "\xff", "A"} {
		if n, is := table.Find(l, s); n != 0 || is {
			t.Errorf("Find of %q: %d %v", s, n, is)
		}
	}
	for _, no := range [][]string{{"b", "a"}, {"a", "a"}, {"a", "ok"}, nil} {
		for _, s := range []string{"a", "b", "ok"} {
			if n, is := table.Find(no, s); n != 0 || is {
				t.Errorf("Find of %q in %q: %d %v", s, no, n, is)
			}
		}
	}
}

func TestPut(t *testing.T) {
	for _, c := range []struct {
		l    []string
		s    string
		want []string
	}{
		{nil, "a", []string{"a"}},
		{nil, "ok", nil},
		{[]string{"a", "c"}, "b", []string{"a", "b", "c"}},
		{[]string{"a", "c"}, "c", []string{"a", "c"}},
		{[]string{"a", "c"}, "1", []string{"a", "c"}},
		{[]string{"c", "", "a", "c"}, "b", []string{"a", "b", "c"}},
	} {
		was := slices.Clone(c.l)
		if got := table.Put(c.l, c.s); !slices.Equal(got, c.want) || !slices.Equal(c.l, was) {
			t.Errorf("Put(%q, %q): %q, want %q", was, c.s, got, c.want)
		}
	}
	room := append(make([]string, 0, 4), "a")
	table.Put(room, "b")
	if room[:2][1] != "" {
		t.Error("Put writes behind the list that was handed in")
	}
	if got := table.Put(room, "b"); got[0] == "a" {
		got[0] = "z"
		if room[0] != "a" {
			t.Error("the answer shares the argument's memory")
		}
	}
}

func TestMap(t *testing.T) {
	to := []string{"a", "b", "c"}
	if got := table.Map([]string{"c", "x", "a", "a", "", "ok"}, to); !slices.Equal(got, []int{2, -1, 0, 0, -1, -1}) {
		t.Errorf("%v", got)
	}
	if got := table.Map([]string{"a", "b"}, []string{"b", "a"}); !slices.Equal(got, []int{-1, -1}) {
		t.Errorf("to no table: %v", got)
	}
	if got := table.Map([]string{"a"}, nil); !slices.Equal(got, []int{-1}) {
		t.Errorf("to the empty table: %v", got)
	}
	if got := table.Map(nil, to); len(got) != 0 {
		t.Errorf("of none: %v", got)
	}
}

func TestWhatWasPutIsFound(t *testing.T) {
	var l []string
	for _, s := range []string{"m", "é", "A", "m", "zz", "z", "_"} {
		l = table.Put(l, s)
		n, is := table.Find(l, s)
		if !is || l[n] != s || !table.Is(l) {
			t.Errorf("%q put: %q, %d %v", s, l, n, is)
		}
	}
}
