package check_test

import (
	"reflect"
	"strings"
	"testing"

	"deemster/api"
	"deemster/check"
	"deemster/hist"
	"deemster/log"
	"deemster/pair"
	"deemster/report"
	"deemster/show"
	"deemster/why"
)

const budget = 100000

// lines puts each part between commas on a line of its own.
func lines(s string) string { return strings.ReplaceAll(s, ", ", "\n") }

func TestKinds(t *testing.T) {
	if check.Error != 1 || check.Exhausted != 2 || check.Done != 3 {
		t.Errorf("%d %d %d", check.Error, check.Exhausted, check.Done)
	}
}

// wrong has texts, and the first line that is wrong, with its error.
var wrong = []struct {
	s    string
	line int
	e    api.Errno
}{
	{"ok s", 1, api.ErrShut},
	{"ok s\nbegin", 1, api.ErrShut},
	{"begin s\nbegin", 2, api.ErrText},
	{"begin s\nbegin\n\xff", 2, api.ErrText},
	{"begin s\n\xff\nbegin", 2, api.ErrText},
	{"begin s\nok s\n\nread s x 1\n\xff", 4, api.ErrShut},
	{"begin s\nok s\nwrite s x nil\nok s\n\xff", 3, api.ErrNil},
	{"begin s\nwrite s x 9223372036854775808\nbegin s", 2, api.ErrRange},
	{"begin s\nbegin s\nwrite s x nil", 2, api.ErrOpen},
	{"# x\nbegin s\n\nbegin t\nok t", 2, api.ErrEnd},
	{"begin s\nbegin t\nok s\nx", 4, api.ErrText},
	{"begin s\nbegin t\nok s\n\xff", 4, api.ErrText},
	{"begin s", 1, api.ErrEnd},
	{"\xff", 1, api.ErrText},
	{"begin s\nok s \xff\n", 2, api.ErrText},
	{strings.Repeat("\n", api.MaxText) + "x", 0, api.ErrLong},
	{"ok s" + strings.Repeat("\n", api.MaxText), 0, api.ErrLong},
	{strings.Repeat("\n", api.MaxText-1) + "x", api.MaxText, api.ErrText},
	{strings.Repeat("begin s\nok s\n", api.MaxTxns) + "begin s\nok s\nx", 2*api.MaxTxns + 1, api.ErrFull},
	{"begin s\n" + strings.Repeat("read s x nil\n", api.MaxOps+1) + "\xff", api.MaxOps + 2, api.ErrFull},
	{"\r\n begin s # x\n\tok s\n", 0, api.OK},
	{"", 0, api.OK},
	{"begin s\nok s", 0, api.OK},
}

func TestErrors(t *testing.T) {
	for _, c := range wrong {
		if at, e := check.Wrong(c.s); at != c.line || e != c.e {
			t.Errorf("Wrong of %.60q: %d %v, want %d %v", c.s, at, e, c.line, c.e)
		}
		if c.e == api.OK {
			continue
		}
		for _, most := range []int{0, budget} {
			if o := check.Check(c.s, api.CC, api.Erase, most); !reflect.DeepEqual(o, check.Outcome{Kind: check.Error, Line: c.line, Code: c.e}) {
				t.Errorf("%.60q: %v", c.s, o)
			}
		}
		if v := check.Verdict(c.s, api.CC, api.Erase, budget); v != 0 {
			t.Errorf("Verdict of %.60q: %d", c.s, v)
		}
	}
}

func TestArguments(t *testing.T) {
	for _, s := range []string{"begin s\nok s", "ok s", strings.Repeat("\n", api.MaxText+1)} {
		for _, c := range [][3]int{{0, api.Keep, 9}, {4, api.Keep, 9}, {api.RC, 0, 9}, {api.RC, 3, 9}, {api.RC, api.Keep, -1}, {-1 << 63, 1 << 62, -1 << 63}} {
			if o := check.Check(s, c[0], c[1], c[2]); !reflect.DeepEqual(o, check.Outcome{Kind: check.Error, Code: api.ErrArg}) {
				t.Errorf("%v: %v", c, o)
			}
			if v := check.Verdict(s, c[0], c[1], c[2]); v != 0 {
				t.Errorf("%v: verdict %d", c, v)
			}
		}
	}
}

func TestTenExamples(t *testing.T) {
	const (
		valid, violated, unknown = api.Valid, api.Violated, api.Unknown
	)
	for i, c := range []struct {
		log    string
		policy int
		want   [3]int // by RC, CC, SER
	}{
		{"begin s, ok s", api.Keep, [3]int{valid, valid, valid}},
		{"begin s, write s x 1, info s, begin s, read s x nil, ok s", api.Keep, [3]int{valid, unknown, unknown}},
		{"begin s, write s x 1, info s, begin t, read t x 1, ok t", api.Keep, [3]int{unknown, unknown, unknown}},
		{"begin s, read s x 9, ok s", api.Keep, [3]int{violated, violated, violated}},
		{"begin s, read s x ?, ok s", api.Keep, [3]int{unknown, unknown, unknown}},
		{"begin s, read s x ?, ok s", api.Erase, [3]int{valid, valid, valid}},
		{"begin s, read s x nil, write s x 1, ok s, begin t, read t x nil, write t x 2, ok t", api.Keep, [3]int{valid, valid, violated}},
		{"begin s, write s x 1, read s x 2, ok s", api.Keep, [3]int{violated, violated, violated}},
	} {
		for k, want := range c.want {
			if got := check.Verdict(lines(c.log), api.RC+k, c.policy, budget); got != want {
				t.Errorf("example %d, level %d: %d, want %d", i, api.RC+k, got, want)
			}
			o := check.Check(lines(c.log), api.RC+k, c.policy, budget)
			if o.Kind != check.Done || o.R.Verdict != want || o.Code != api.OK || o.Line != 0 {
				t.Errorf("example %d, level %d: %v", i, api.RC+k, o)
			}
			if o := check.Check(lines(c.log), api.RC+k, c.policy, 0); !reflect.DeepEqual(o, check.Outcome{Kind: check.Exhausted}) {
				t.Errorf("example %d, level %d, no budget: %v", i, api.RC+k, o)
			}
			if v := check.Verdict(lines(c.log), api.RC+k, c.policy, 0); v != 0 {
				t.Errorf("example %d, level %d, no budget: verdict %d", i, api.RC+k, v)
			}
		}
	}
	reported := func(log string, level int) report.Report {
		return check.Check(lines(log), level, api.Keep, budget).R
	}
	if r := reported("begin s, write s x 1, info s, begin s, read s x nil, ok s", api.SER); !reflect.DeepEqual(r.Aborts, []int{0}) || len(r.Commits) > 0 {
		t.Errorf("0 is forced to abort: %v", r)
	}
	r := reported("begin s, write s x 1, info s, begin t, read t x 1, ok t", api.RC)
	if !reflect.DeepEqual(r.Commits, []int{0}) || len(r.Aborts) > 0 || why.Text(r.Unsat, r.Why) != "nobody wrote 1:0" {
		t.Errorf("0 is forced to commit: %v", r)
	}
	for log, want := range map[string]string{
		"begin s, read s x 9, ok s": "nobody wrote 0:0", "begin s, write s x 1, read s x 2, ok s": "bad read 0:1",
		"begin s, read s x nil, write s x 1, ok s, begin t, read t x nil, write t x 2, ok t": "no order",
	} {
		if r := reported(log, api.SER); why.Text(r.Unsat, r.Why) != want {
			t.Errorf("%q: %v", log, r)
		}
	}
}

// broken tells the line that is wrong by the words alone: by what stands up to each line, one by one.
func broken(s string) (int, api.Errno) {
	rows := strings.SplitAfter(s, "\n")
	for i := range rows {
		l, at, e := log.Parse(strings.Join(rows[:i+1], ""))
		if e == api.OK {
			_, at, e = pair.History(l)
		}
		if e != api.OK && e != api.ErrEnd {
			return at, e
		}
	}
	l, _, _ := log.Parse(s)
	_, at, e := pair.History(l)
	return at, e
}

func TestAgainstLineByLine(t *testing.T) {
	parts := []string{"begin s", "begin t", "ok s", "info t", "read s x 1", "write t y 2", "", "# x", "fail s", "x", "write s x nil", "\xff", "begin s t", "read t x 99999999999999999999", "ok s\r"}
	errors := 0
	for seed := range 4000 {
		var rows []string
		for i := range seed % 9 {
			rows = append(rows, parts[(seed*(i+3)/2+i*i*seed/7)%len(parts)])
		}
		s := strings.Join(rows, "\n")
		at, e := check.Wrong(s)
		wantAt, want := broken(s)
		if at != wantAt || e != want {
			t.Fatalf("%q: %d %v, want %d %v", s, at, e, wantAt, want)
		}
		_, _, f := show.Parse(s)
		if (e == api.OK) != (f == api.OK) {
			t.Fatalf("%q: %v, but %v as a history", s, e, f)
		}
		if e != api.OK && e != api.ErrEnd {
			errors++
			// What stands behind counts nothing.
			for _, behind := range []string{"\nbegin u", "\n\xff", "\nx\n\n"} {
				if again, f := check.Wrong(s + behind); again != at || f != e {
					t.Fatalf("%q with %q behind: %d %v, want %d %v", s, behind, again, f, at, e)
				}
			}
		}
		for _, most := range []int{0, 3, budget} {
			o := check.Check(s, api.RC, api.Keep, most)
			if e != api.OK && !reflect.DeepEqual(o, check.Outcome{Kind: check.Error, Line: at, Code: e}) || e == api.OK && o.Kind == check.Error {
				t.Fatalf("%q: %v, want %d %v", s, o, at, e)
			}
		}
	}
	if errors < 100 {
		t.Errorf("%d errors", errors)
	}
}

func TestReportIsTheHistorys(t *testing.T) {
	for _, s := range []string{"", "begin s, ok s", "begin s, write s x 1, info s, begin t, read t x ?, ok t", "begin t, begin s, read s x 1, write t x 1, ok s, info t"} {
		h, _, _ := show.Parse(lines(s))
		for _, level := range []int{api.RC, api.CC, api.SER} {
			for _, policy := range []int{api.Keep, api.Erase} {
				want, _ := report.Make(level, policy, h, budget)
				o := check.Check(lines(s), level, policy, budget)
				if o.Kind != check.Done || !report.Same(o.R, want) || !hist.Same(o.R.Sat, want.Sat) {
					t.Errorf("%q: %v, want %v", s, o, want)
				}
			}
		}
	}
}
