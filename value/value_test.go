package value_test

import (
	"math"
	"slices"
	"testing"

	"deemster/api"
	"deemster/value"
)

func number(n int64) api.Value { return api.Value{Kind: api.VInt, N: n} }

var (
	initial = api.Value{Kind: api.VNil}
	lost    = api.Value{Kind: api.VLost}
	// fair has values in order, and texts theirs.
	fair   = []api.Value{initial, number(math.MinInt64), number(-1), number(0), number(12), number(math.MaxInt64), lost}
	texts  = []string{"nil", "-9223372036854775808", "-1", "0", "12", "9223372036854775807", "?"}
	unfair = []api.Value{{Kind: api.VNil, N: 1}, {Kind: api.VLost, N: -1}, {Kind: 3}, {Kind: -1}, {Kind: 3, N: 5}}
)

func TestMay(t *testing.T) {
	for _, v := range fair {
		if !value.May(v) {
			t.Errorf("%v may be", v)
		}
	}
	for _, v := range unfair {
		if value.May(v) {
			t.Errorf("%v may not be", v)
		}
	}
}

func TestPrint(t *testing.T) {
	for i, v := range fair {
		if s, e := value.Print(v); s != texts[i] || e != api.OK {
			t.Errorf("Print(%v): %q %v", v, s, e)
		}
	}
	for _, v := range unfair {
		if s, e := value.Print(v); s != "" || e != api.ErrForm {
			t.Errorf("Print(%v): %q %v", v, s, e)
		}
	}
}

func TestParse(t *testing.T) {
	for i, s := range texts {
		if v, e := value.Parse(s); v != fair[i] || e != api.OK {
			t.Errorf("Parse(%q): %v %v", s, v, e)
		}
	}
	for s, want := range map[string]api.Errno{
		"": api.ErrText, "Nil": api.ErrText, "??": api.ErrText, " ?": api.ErrText, "01": api.ErrText, "-0": api.ErrText, "x": api.ErrText, "\xff": api.ErrText,
		"9223372036854775808": api.ErrRange, "-9223372036854775809": api.ErrRange, "09223372036854775808": api.ErrText,
	} {
		if v, e := value.Parse(s); v != (api.Value{}) || e != want {
			t.Errorf("Parse(%q): %v %v, want %v", s, v, e, want)
		}
	}
}

func TestLess(t *testing.T) {
	for i, a := range fair {
		for k, b := range fair {
			if value.Less(a, b) != (i < k) {
				t.Errorf("Less(%v, %v): %v", a, b, i >= k)
			}
		}
		for _, b := range unfair {
			if value.Less(a, b) || value.Less(b, a) {
				t.Errorf("%v may not be", b)
			}
		}
	}
}

func TestSorted(t *testing.T) {
	l := []api.Value{lost, number(12), {Kind: 3}, number(-1), initial, number(12), number(math.MaxInt64), {Kind: api.VNil, N: 1}, number(0), initial, lost, number(math.MinInt64)}
	was := slices.Clone(l)
	got := value.Sorted(l...)
	if !slices.Equal(got, fair) {
		t.Errorf("%v, want %v", got, fair)
	}
	if !slices.Equal(l, was) {
		t.Errorf("what was handed in was changed: %v", l)
	}
	if got := value.Sorted(); len(got) != 0 {
		t.Errorf("of none: %v", got)
	}
	in := []api.Value{number(1), number(2)}
	value.Sorted(in...)[0] = lost
	if in[0] != number(1) {
		t.Error("the answer shares the argument's memory")
	}
}

func TestUnlikeValuesHaveUnlikeTexts(t *testing.T) {
	seen := map[string]api.Value{}
	for _, v := range fair {
		s, _ := value.Print(v)
		if other, is := seen[s]; is {
			t.Errorf("%v and %v are both %q", v, other, s)
		}
		seen[s] = v
	}
}
