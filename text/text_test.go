package text_test

import (
	"slices"
	"strings"
	"testing"

	"deemster/api"
	"deemster/report"
	"deemster/sample"
	"deemster/text"
	"deemster/why"
	"deemster/world"
)

func made(t *testing.T, log string, level, policy int) report.Report {
	t.Helper()
	r, e := report.Make(level, policy, sample.Of(log), 100000)
	if e != api.OK {
		t.Fatal(e)
	}
	return r
}

func TestWords(t *testing.T) {
	for _, c := range []struct {
		of   func(int) string
		want []string
	}{
		{text.Level, []string{"", "RC", "CC", "SER", ""}}, {text.Policy, []string{"", "keep", "erase", ""}}, {text.Verdict, []string{"", "valid", "violated", "unknown", ""}},
	} {
		for n, want := range c.want {
			if got := c.of(n); got != want {
				t.Errorf("%d: %q, want %q", n, got, want)
			}
		}
		for _, n := range []int{-1, 1 << 62, -1 << 63} {
			if got := c.of(n); got != "" {
				t.Errorf("%d: %q", n, got)
			}
		}
	}
}

func TestPrint(t *testing.T) {
	for _, c := range []struct {
		what, log     string
		level, policy int
		want          []string
	}{
		{"unknown", "begin s, write s x 1, info s, begin t, read t x 1, read t z ?, ok t, begin u, read u x 2, info u", api.SER, api.Keep, []string{
			"level SER", "policy keep", "verdict unknown", "commits 0", "aborts 2",
			"sat", "begin s", "write s x 1", "ok s", "begin t", "read t x 1", "read t z nil", "ok t", "begin u", "read u x 2", "fail u", "map 0 -1", "order 0 1",
			"unsat", "begin s", "write s x 1", "fail s", "begin t", "read t x 1", "read t z nil", "ok t", "begin u", "read u x 2", "fail u", "why nobody wrote 1:0", "end"}},
		{"valid", "begin s, ok s", api.RC, api.Erase, []string{"level RC", "policy erase", "verdict valid", "commits", "aborts", "sat", "begin s", "ok s", "map", "order 0", "end"}},
		{"nothing", "", api.RC, api.Keep, []string{"level RC", "policy keep", "verdict valid", "commits", "aborts", "sat", "map", "order", "end"}},
		{"violated", "begin s, write s x 1, ok s, begin s, read s x nil, ok s", api.CC, api.Keep, []string{"level CC", "policy keep", "verdict violated", "commits", "aborts",
			"unsat", "begin s", "write s x 1", "ok s", "begin s", "read s x nil", "ok s", "why ring 0 start", "end"}},
	} {
		if s, e := text.Print(made(t, c.log, c.level, c.policy)); s != strings.Join(c.want, "\n")+"\n" || e != api.OK {
			t.Errorf("%s: %q %v", c.what, s, e)
		}
	}
}

func TestPrintReasons(t *testing.T) {
	r := made(t, "begin s, read s x 1, ok s, begin t, ok t", api.SER, api.Keep)
	for want, reason := range map[string]why.Reason{
		"why no order\nend\n":         {Kind: why.Many},
		"why bad read 3:14\nend\n":    {Kind: why.Bad, Place: api.Place{Txn: 3, Op: 14}},
		"why ring 1 start 3\nend\n":   {Kind: why.Round, Ring: []int{1, 2, 3}},
		"why ring\nend\n":             {Kind: why.Round},
		"why nobody wrote 0:0\nend\n": {Kind: why.Nobody},
	} {
		r.Why = reason
		if s, e := text.Print(r); !strings.HasSuffix(s, "\n"+want) || e != api.OK {
			t.Errorf("%v: %q %v", reason, s, e)
		}
	}
}

func TestForm(t *testing.T) {
	r := made(t, "begin s, ok s", api.SER, api.Keep)
	r.Aborts = []int{-1}
	for _, r := range []report.Report{{}, r} {
		if s, e := text.Print(r); s != "" || e != api.ErrForm {
			t.Errorf("%v: %q %v", r, s, e)
		}
	}
}

// wide makes a whole history whose lines are long: 87 and 84 bytes for each transaction, 171 for each of its ops.
func wide(txns int) api.History {
	h := api.History{Sessions: []string{strings.Repeat("\U0001F600", 20)}, Keys: []string{strings.Repeat("\U0001F601", 20)}}
	for range txns {
		h.L = append(h.L, api.Txn{Fate: api.FOk, L: slices.Repeat([]api.Op{{Key: 0}}, api.MaxOps)})
	}
	return h
}

func TestLong(t *testing.T) {
	const each = 87 + 84 + 20*171
	r := report.Report{Level: api.RC, Policy: api.Keep, Verdict: api.Unknown, HasSat: true, HasUnsat: true, Why: why.Reason{Kind: why.Many}}
	base, _ := text.Print(r)
	for _, c := range []struct {
		sat, unsat int
		want       api.Errno
	}{{9, 9, api.OK}, {10, 9, api.ErrLong}, {18, 0, api.OK}, {0, 18, api.OK}, {19, 0, api.ErrLong}, {0, 19, api.ErrLong}, {40, 40, api.ErrLong}} {
		r.Sat, r.Unsat = api.History{}, api.History{}
		if c.sat > 0 {
			r.Sat = wide(c.sat)
		}
		if c.unsat > 0 {
			r.Unsat = wide(c.unsat)
		}
		s, e := text.Print(r)
		if e != c.want || e == api.OK && len(s) != len(base)+each*(c.sat+c.unsat) || e != api.OK && s != "" {
			t.Errorf("%d and %d transactions: %d bytes, %v", c.sat, c.unsat, len(s), e)
		}
	}
	r.Sat, r.Unsat = api.History{}, api.History{}
	room := api.MaxText - len(base)
	r.Cert.Wr = slices.Repeat([]int{1}, room/2)
	if room%2 == 1 {
		r.Cert.Wr = append(r.Cert.Wr[1:], 10)
	}
	if s, e := text.Print(r); len(s) != api.MaxText || e != api.OK {
		t.Errorf("just the most: %d bytes, %v", len(s), e)
	}
	r.Cert.Wr[0] = 10
	if s, e := text.Print(r); s != "" || e != api.ErrLong {
		t.Errorf("one byte more than the most: %d bytes, %v", len(s), e)
	}
}

func TestUnlikeReportsHaveUnlikeTexts(t *testing.T) {
	seen := map[string]report.Report{}
	for n := range 150 {
		h := sample.History(n, sample.Shape{Sessions: 2, Keys: 2, Txns: 3, Ops: 3, Values: 2, Open: true})
		if world.Count(h) > 1000 {
			continue
		}
		for _, level := range []int{api.RC, api.CC, api.SER} {
			for _, policy := range []int{api.Keep, api.Erase} {
				r, _ := report.Make(level, policy, h, 1<<30)
				s, e := text.Print(r)
				if other, is := seen[s]; is && !report.Same(r, other) || e != api.OK {
					t.Fatalf("%v and %v are both %q (%v)", r, other, s, e)
				}
				seen[s] = r
			}
		}
	}
	if len(seen) < 300 {
		t.Errorf("%d texts", len(seen))
	}
}
