package back_test

import (
	"reflect"
	"strings"
	"testing"

	"deemster/api"
	"deemster/back"
	"deemster/report"
	"deemster/sample"
	"deemster/text"
	"deemster/why"
	"deemster/world"
)

// unknown is a log of which a report has all parts.
const unknown = "begin s, write s x 1, info s, begin t, read t x 1, read t z ?, ok t, begin u, read u x 2, info u"

func printed(t *testing.T, log string, level, policy int) (report.Report, string) {
	t.Helper()
	r, e := report.Make(level, policy, sample.Of(log), 100000)
	s, f := text.Print(r)
	if e != api.OK || f != api.OK {
		t.Fatal(e, f)
	}
	return r, s
}

func TestParse(t *testing.T) {
	for _, log := range []string{"", "begin s, ok s", unknown, "begin s, read s x 9, ok s, begin t, info t", "begin s, read s x ?, ok s", "begin s, write s x 1, ok s, begin s, read s x nil, ok s",
		"begin s, read s x nil, write s x 1, ok s, begin t, read t x nil, write t x 2, ok t"} {
		for _, level := range []int{api.RC, api.CC, api.SER} {
			for _, policy := range []int{api.Keep, api.Erase} {
				r, s := printed(t, log, level, policy)
				if got, e := back.Parse(s); !report.Same(got, r) || e != api.OK {
					t.Errorf("%q: %v %v, want %v", s, got, e, r)
				}
			}
		}
	}
}

func TestParseStrange(t *testing.T) {
	r, _ := printed(t, unknown, api.CC, api.Keep)
	for _, change := range []func(r *report.Report){
		func(r *report.Report) { r.Sat, r.Unsat = api.History{}, api.History{} },
		func(r *report.Report) { r.Cert = api.Cert{Wr: []int{-1, 1<<63 - 1}, Co: []int{-1, -1}} },
		func(r *report.Report) { r.Why = why.Reason{Kind: why.Round} },
		func(r *report.Report) { r.Why = why.Reason{Kind: why.Round, Ring: []int{3, 2, 3, 1 << 62}} },
		func(r *report.Report) {
			r.Commits, r.Aborts, r.Why = []int{0, 1 << 62}, []int{7}, why.Reason{Kind: why.Bad, Place: api.Place{Txn: 1 << 62}}
		},
		func(r *report.Report) { r.Why = why.Reason{Kind: why.Many} },
	} {
		x := r
		change(&x)
		s, e := text.Print(x)
		if got, f := back.Parse(s); !report.Same(got, x) || e != api.OK || f != api.OK {
			t.Errorf("%q (%v): %v %v, want %v", s, e, got, f, x)
		}
	}
}

func TestParseWrong(t *testing.T) {
	_, s := printed(t, unknown, api.SER, api.Keep)
	swap := func(a, b string) string {
		if !strings.Contains(s, a) {
			t.Fatalf("%q has no %q", s, a)
		}
		return strings.Replace(s, a, b, 1)
	}
	for _, wrong := range []string{
		"", "\n", "end\n", "\xff", "level", strings.TrimSuffix(s, "\n"), s + "\n", s + "end\n", "\n" + s, " " + s, s + " ", s + s, s[:len(s)/2], s[1:], strings.Repeat(s, 300), strings.Repeat("x", api.MaxText+1), strings.Repeat("\n", api.MaxText),
		swap("level SER", "level ser"), swap("level SER", "level "), swap("level SER", "level"), swap("level SER", "level SER "), swap("level SER", "level  SER"), swap("level SER\n", ""),
		swap("policy keep", "policy none"), swap("policy keep", "policy"), swap("verdict unknown", "verdict valid"), swap("verdict unknown", "verdict maybe"), swap("verdict unknown", "verdict violated"),
		swap("commits 0", "commits 00"), swap("commits 0", "commits 0 "), swap("commits 0", "commits  0"), swap("commits 0", "commits\t0"), swap("commits 0", "commits x"), swap("commits 0", "commits -1"), swap("commits 0", "commits 2"), swap("commits 0", "commits0"),
		swap("commits 0", "commits 9223372036854775808"), swap("commits 0", "commits 1 0"), swap("aborts 2", "aborts 2 2"), swap("aborts 2\n", ""), swap("commits 0\naborts 2", "aborts 2\ncommits 0"),
		swap("\nsat\n", "\n"), swap("\nsat\n", "\nsat \n"), swap("\nsat\nbegin s\n", "\nsat\n"), swap("\nsat\n", "\nsat\n\n"), swap("\nsat\n", "\nsat\n# a remark\n"), swap("write s x 1", "write  s x 1"), swap("write s x 1", "write s x ?"), swap("ok s", "info s"),
		swap("map 0 -1", "map 0 -2"), swap("map 0 -1", "map 0 -0"), swap("map 0 -1\n", ""), swap("map 0 -1", "maps 0 -1"), swap("order 0 1", "order 0 1.0"), swap("order 0 1\n", ""), swap("order 0 1", "order 0 -2"),
		swap("unsat\n", ""), swap("why nobody wrote 1:0\n", ""), swap("why nobody", "nobody"), swap("1:0", "1:00"), swap("1:0", "1"), swap("1:0", "-1:0"), swap("1:0", "1:0:0"), swap("nobody wrote 1:0", "no reason"), swap("nobody wrote 1:0", "ring -1"),
		swap("nobody wrote 1:0", "ring 3"), swap("nobody wrote 1:0", ""), swap("end\n", ""), swap("end\n", "end"), swap("end\n", "end \n"), swap("end\n", "END\n"), swap("\n", "\r\n"), swap("begin u", "begin u # x"),
	} {
		if r, e := back.Parse(wrong); e != api.ErrText || !reflect.DeepEqual(r, report.Report{}) {
			t.Errorf("%.300q: %v %v", wrong, r, e)
		}
	}
}

func TestReason(t *testing.T) {
	h := sample.Of("begin s, ok s, begin t, ok t")
	for s, want := range map[string]why.Reason{
		"no order":                               {Kind: why.Many},
		"bad read 0:1":                           {Kind: why.Bad, Place: api.Place{Op: 1}},
		"bad read 9223372036854775807:0":         {Kind: why.Bad, Place: api.Place{Txn: 1<<63 - 1}},
		"nobody wrote 12:7":                      {Kind: why.Nobody, Place: api.Place{Txn: 12, Op: 7}},
		"ring":                                   {Kind: why.Round},
		"ring 0 start":                           {Kind: why.Round, Ring: []int{0, 2}},
		"ring start start 9223372036854775807 3": {Kind: why.Round, Ring: []int{2, 2, 1<<63 - 1, 3}},
	} {
		if got, is := back.Reason(h, s); !reflect.DeepEqual(got, want) || !is {
			t.Errorf("%q: %v %v", s, got, is)
		}
	}
	if got, is := back.Reason(api.History{Sessions: []string{"1"}}, "ring start"); !reflect.DeepEqual(got, why.Reason{Kind: why.Round, Ring: []int{0}}) || !is {
		t.Errorf("whatever the history: %v %v", got, is)
	}
	for _, s := range []string{
		"", "no", "no order ", " no order", "No order", "no order\n", "bad read", "bad read ", "bad read 1", "bad read 1:", "bad read :1", "bad read 1:2:3", "bad read -1:0", "bad read 0:-1", "bad read 01:0", "bad read 0:9223372036854775808",
		"bad read  0:1", "bad read 0:1 ", "nobody wrote", "nobody wrote x:0", "nobody  wrote 0:0", "ring ", "ring 2", "ring  0", "ring 0 ", "ring -1", "ring x", "ring0", "ring start2", "ring 00", "ring 0,1", "\xff", "ring\t0",
	} {
		if got, is := back.Reason(h, s); !reflect.DeepEqual(got, why.Reason{}) || is {
			t.Errorf("%q: %v %v", s, got, is)
		}
	}
}

func TestParseUndoesPrint(t *testing.T) {
	for n := range 150 {
		h := sample.History(n, sample.Shape{Sessions: 3, Keys: 2, Txns: 4, Ops: 3, Values: 2, Open: true})
		if world.Count(h) > 1000 {
			continue
		}
		for _, level := range []int{api.RC, api.CC, api.SER} {
			r, _ := report.Make(level, api.Keep, h, 1<<30)
			s, e := text.Print(r)
			got, f := back.Parse(s)
			if e != api.OK || f != api.OK || !report.Same(got, r) {
				t.Fatalf("%q: %v %v, want %v", s, got, f, r)
			}
			if r.HasUnsat {
				if reason, is := back.Reason(r.Unsat, why.Text(r.Unsat, r.Why)); !is || !reflect.DeepEqual(reason, r.Why) {
					t.Fatalf("%v: %v %v", r.Why, reason, is)
				}
			}
		}
	}
}
