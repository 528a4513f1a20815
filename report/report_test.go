package report_test

import (
	"reflect"
	"slices"
	"testing"

	"deemster/api"
	"deemster/cert"
	"deemster/erase"
	"deemster/hist"
	"deemster/judge"
	"deemster/report"
	"deemster/sample"
	"deemster/whole"
	"deemster/why"
	"deemster/world"
)

var levels = []int{api.RC, api.CC, api.SER}

// unknown is a log of which a report tells all: 0 is forced to commit, 2 to abort, and 3 to nothing.
const unknown = "begin s, write s x 1, info s, begin t, read t x 1, read t z ?, ok t, begin u, read u x 2, info u, begin v, info v"

func made(t *testing.T, text string, level, policy int) report.Report {
	t.Helper()
	r, e := report.Make(level, policy, sample.Of(text), 100000)
	if e != api.OK {
		t.Fatal(e)
	}
	return r
}

func TestMake(t *testing.T) {
	for _, level := range levels {
		got := made(t, unknown, level, api.Keep)
		want := report.Report{
			Level: level, Policy: api.Keep, Verdict: api.Unknown, Commits: []int{0}, Aborts: []int{2}, HasSat: true, HasUnsat: true,
			Sat:   sample.Of("begin s, write s x 1, ok s, begin t, read t x 1, read t z nil, ok t, begin u, read u x 2, fail u, begin v, fail v"),
			Unsat: sample.Of("begin s, write s x 1, fail s, begin t, read t x 1, read t z nil, ok t, begin u, read u x 2, fail u, begin v, fail v"),
			Cert:  api.Cert{Wr: []int{0, -1}, Co: []int{0, 1}},
			Why:   why.Reason{Kind: why.Nobody, Place: api.Place{Txn: 1}},
		}
		if !report.May(got) || !report.Same(got, want) {
			t.Errorf("level %d: %v, want %v", level, got, want)
		}
	}
	lost := made(t, "begin s, read s x ?, ok s", api.SER, api.Keep)
	if lost.Verdict != api.Unknown || !lost.HasSat || !lost.HasUnsat {
		t.Errorf("a lost read: %v", lost)
	}
	valid := made(t, "begin s, read s x ?, ok s", api.SER, api.Erase)
	if !reflect.DeepEqual(valid, report.Report{Level: api.SER, Policy: api.Erase, Verdict: api.Valid, HasSat: true, Sat: valid.Sat, Cert: valid.Cert}) || !hist.Same(valid.Sat, sample.Of("begin s, ok s")) {
		t.Errorf("erased: %v", valid)
	}
	violated := made(t, "begin s, write s x 1, read s x 2, ok s, begin t, info t", api.CC, api.Keep)
	want := report.Report{Level: api.CC, Policy: api.Keep, Verdict: api.Violated, HasUnsat: true, Unsat: violated.Unsat, Why: why.Reason{Kind: why.Bad, Place: api.Place{Op: 1}}}
	if !reflect.DeepEqual(violated, want) || !hist.Same(violated.Unsat, sample.Of("begin s, write s x 1, read s x 2, ok s, begin t, fail t")) {
		t.Errorf("violated: %v", violated)
	}
}

func TestMakeWrong(t *testing.T) {
	h, bad := sample.Of("begin s, info s"), api.History{Sessions: []string{"s"}}
	for _, c := range []struct {
		level, policy int
		h             api.History
		most          int
		want          api.Errno
	}{
		{0, api.Keep, h, 9, api.ErrArg}, {api.RC, 0, h, 9, api.ErrArg}, {api.RC, 3, h, 0, api.ErrArg}, {4, api.Keep, h, 0, api.ErrArg}, {api.RC, api.Keep, h, -1, api.ErrArg},
		{api.RC, api.Keep, h, 1, api.ErrSpent}, {api.RC, api.Keep, h, 0, api.ErrSpent}, {9, 9, bad, -1, api.ErrForm},
	} {
		if r, e := report.Make(c.level, c.policy, c.h, c.most); !reflect.DeepEqual(r, report.Report{}) || e != c.want {
			t.Errorf("Make(%d, %d, .., %d): %v %v", c.level, c.policy, c.most, r, e)
		}
	}
}

func TestMayNot(t *testing.T) {
	small := sample.Of("begin s, ok s")
	for what, c := range map[string]struct {
		verdict int
		change  func(r *report.Report)
	}{
		"no level":                   {api.Unknown, func(r *report.Report) { r.Level = 0 }},
		"a level too great":          {api.Unknown, func(r *report.Report) { r.Level = 4 }},
		"no policy":                  {api.Unknown, func(r *report.Report) { r.Policy = 0 }},
		"a policy too great":         {api.Unknown, func(r *report.Report) { r.Policy = 3 }},
		"no verdict":                 {api.Unknown, func(r *report.Report) { r.Verdict = 0 }},
		"a verdict too great":        {api.Unknown, func(r *report.Report) { r.Verdict = 4 }},
		"no Sat":                     {api.Unknown, func(r *report.Report) { r.HasSat, r.Sat, r.Cert = false, api.History{}, api.Cert{} }},
		"no Unsat":                   {api.Unknown, func(r *report.Report) { r.HasUnsat, r.Unsat, r.Why = false, api.History{}, why.Reason{} }},
		"valid with an Unsat":        {api.Unknown, func(r *report.Report) { r.Verdict = api.Valid }},
		"violated with a Sat":        {api.Unknown, func(r *report.Report) { r.Verdict, r.Commits, r.Aborts = api.Violated, nil, nil }},
		"a Sat that is not whole":    {api.Unknown, func(r *report.Report) { r.Sat = sample.Of("begin s, info s") }},
		"a Sat that may not be":      {api.Valid, func(r *report.Report) { r.Sat.Sessions = nil }},
		"an Unsat with a lost read":  {api.Unknown, func(r *report.Report) { r.Unsat = sample.Of("begin s, read s x ?, ok s") }},
		"valid with Unsat's history": {api.Valid, func(r *report.Report) { r.Unsat = small }},
		"valid with Why's Kind":      {api.Valid, func(r *report.Report) { r.Why.Kind = why.Many }},
		"valid with Why's Place":     {api.Valid, func(r *report.Report) { r.Why.Place.Op = 1 }},
		"valid with Why's Ring":      {api.Valid, func(r *report.Report) { r.Why.Ring = []int{0} }},
		"violated with Sat's":        {api.Violated, func(r *report.Report) { r.Sat = small }},
		"violated with keys":         {api.Violated, func(r *report.Report) { r.Sat.Keys = []string{"x"} }},
		"violated with Cert's Wr":    {api.Violated, func(r *report.Report) { r.Cert.Wr = []int{0} }},
		"violated with Cert's Co":    {api.Violated, func(r *report.Report) { r.Cert.Co = []int{0} }},
		"violated with all of Cert":  {api.Violated, func(r *report.Report) { r.Cert = api.Cert{Wr: []int{0}, Co: []int{0}} }},
		"violated with names":        {api.Violated, func(r *report.Report) { r.Sat.Sessions, r.Sat.Keys = []string{"s"}, []string{"x"} }},
		"violated with a key's ops":  {api.Violated, func(r *report.Report) { r.Sat.Keys, r.Sat.L = []string{"x"}, make([]api.Txn, 1) }},
		"violated with what is both": {api.Violated, func(r *report.Report) { r.Commits, r.Aborts = []int{0}, []int{1} }},
		"violated with Commits":      {api.Violated, func(r *report.Report) { r.Commits = []int{0} }},
		"violated with Aborts":       {api.Violated, func(r *report.Report) { r.Aborts = []int{0} }},
		"Commits do not rise":        {api.Unknown, func(r *report.Report) { r.Commits = []int{3, 1} }},
		"Commits twice":              {api.Unknown, func(r *report.Report) { r.Commits = []int{1, 1} }},
		"Commits below 0":            {api.Unknown, func(r *report.Report) { r.Commits = []int{-1} }},
		"Aborts do not rise":         {api.Unknown, func(r *report.Report) { r.Aborts = []int{3, 1} }},
		"Aborts below 0":             {api.Unknown, func(r *report.Report) { r.Aborts = []int{-5, 1} }},
		"both":                       {api.Unknown, func(r *report.Report) { r.Commits, r.Aborts = []int{1, 2}, []int{2, 3} }},
		"Wr below -1":                {api.Unknown, func(r *report.Report) { r.Cert.Wr = []int{0, -2} }},
		"Co below -1":                {api.Unknown, func(r *report.Report) { r.Cert.Co = []int{-2} }},
		"no Kind":                    {api.Unknown, func(r *report.Report) { r.Why = why.Reason{} }},
		"a Kind too great":           {api.Unknown, func(r *report.Report) { r.Why = why.Reason{Kind: 5} }},
		"a Txn below 0":              {api.Unknown, func(r *report.Report) { r.Why = why.Reason{Kind: why.Bad, Place: api.Place{Txn: -1}} }},
		"an Op below 0":              {api.Unknown, func(r *report.Report) { r.Why = why.Reason{Kind: why.Nobody, Place: api.Place{Op: -1}} }},
		"a Round with a Place":       {api.Unknown, func(r *report.Report) { r.Why = why.Reason{Kind: why.Round, Place: api.Place{Op: 1}} }},
		"a Many with a Place":        {api.Unknown, func(r *report.Report) { r.Why = why.Reason{Kind: why.Many, Place: api.Place{Txn: 1}} }},
		"a Bad with a Ring":          {api.Unknown, func(r *report.Report) { r.Why = why.Reason{Kind: why.Bad, Ring: []int{1}} }},
		"a Nobody with a Ring":       {api.Unknown, func(r *report.Report) { r.Why = why.Reason{Kind: why.Nobody, Ring: []int{1}} }},
		"a Many with a Ring":         {api.Unknown, func(r *report.Report) { r.Why = why.Reason{Kind: why.Many, Ring: []int{1}} }},
		"a Ring below 0":             {api.Unknown, func(r *report.Report) { r.Why = why.Reason{Kind: why.Round, Ring: []int{0, -1}} }},
	} {
		r := right(t, c.verdict)
		if !report.May(r) {
			t.Fatalf("verdict %d: %v may be", c.verdict, r)
		}
		c.change(&r)
		if report.May(r) || report.Same(r, r) || report.Fits(sample.Of(unknown), r) != api.ErrForm {
			t.Errorf("%s: it may not be", what)
		}
	}
	if report.May(report.Report{}) {
		t.Error("the zero report may not be")
	}
}

// right makes a report with a verdict.
func right(t *testing.T, verdict int) report.Report {
	switch verdict {
	case api.Valid:
		return made(t, "begin s, read s x nil, ok s, begin s, info s", api.SER, api.Keep)
	case api.Violated:
		return made(t, "begin s, read s x 1, ok s, begin s, info s", api.SER, api.Keep)
	}
	return made(t, unknown, api.SER, api.Keep)
}

func TestMayStrange(t *testing.T) {
	for what, change := range map[string]func(r *report.Report){
		"what is forced is not of the history": func(r *report.Report) { r.Commits, r.Aborts = []int{0, 77}, []int{5} },
		"a Cert of others":                     func(r *report.Report) { r.Cert = api.Cert{Wr: []int{-1, 99}, Co: []int{-1, 5, 5}} },
		"an empty Sat":                         func(r *report.Report) { r.Sat = api.History{} },
		"lists are empty, not nil":             func(r *report.Report) { r.Why.Ring = []int{} },
		"an empty Ring":                        func(r *report.Report) { r.Why = why.Reason{Kind: why.Round} },
		"a far Place":                          func(r *report.Report) { r.Why.Place = api.Place{Txn: 1 << 40, Op: 7} },
	} {
		r := right(t, api.Unknown)
		change(&r)
		if !report.May(r) || !report.Same(r, r) {
			t.Errorf("%s: it may be", what)
		}
	}
}

func TestSame(t *testing.T) {
	for what, change := range map[string]func(r *report.Report){
		"Level":     func(r *report.Report) { r.Level = api.CC },
		"Policy":    func(r *report.Report) { r.Policy = api.Erase },
		"Commits":   func(r *report.Report) { r.Commits = []int{1} },
		"Aborts":    func(r *report.Report) { r.Aborts = nil },
		"Sat":       func(r *report.Report) { r.Sat.L[0].L[0].V.N = 9 },
		"Unsat":     func(r *report.Report) { r.Unsat.L[3].Fate = api.FOk },
		"Wr":        func(r *report.Report) { r.Cert.Wr[0] = 7 },
		"Co":        func(r *report.Report) { r.Cert.Co = r.Cert.Co[:1] },
		"Why":       func(r *report.Report) { r.Why = why.Reason{Kind: why.Many} },
		"the Place": func(r *report.Report) { r.Why.Place.Op = 1 },
		"the Ring":  func(r *report.Report) { r.Why = why.Reason{Kind: why.Round, Ring: []int{1}} },
	} {
		a, b := right(t, api.Unknown), right(t, api.Unknown)
		if !report.Same(a, b) {
			t.Fatal("they are the same")
		}
		change(&b)
		if !report.May(b) || report.Same(a, b) || report.Same(b, a) {
			t.Errorf("%s: they are not the same", what)
		}
		if what == "the Ring" {
			a.Why = why.Reason{Kind: why.Round, Ring: []int{2}}
			if report.Same(a, b) {
				t.Error("unlike rings")
			}
		}
	}
	if report.Same(right(t, api.Valid), right(t, api.Violated)) {
		t.Error("unlike verdicts")
	}
}

func TestFits(t *testing.T) {
	h := sample.Of(unknown)
	for what, c := range map[string]struct {
		change func(r *report.Report)
		want   api.Errno
	}{
		"as it was made":                 {func(r *report.Report) {}, api.OK},
		"another Sat":                    {func(r *report.Report) { r.Sat.L[1].L[0].V.N = 3 }, api.ErrCert},
		"another Unsat":                  {func(r *report.Report) { r.Unsat.L[1].L[0].V.N = 3 }, api.ErrCert},
		"another Unsat that agrees":      {func(r *report.Report) { r.Unsat = r.Sat }, api.OK},
		"another map":                    {func(r *report.Report) { r.Cert.Wr = []int{-1, -1} }, api.ErrCert},
		"another order":                  {func(r *report.Report) { r.Cert.Co = []int{1, 0} }, api.ErrCert},
		"another policy":                 {func(r *report.Report) { r.Policy = api.Erase }, api.ErrCert},
		"an ok one is forced":            {func(r *report.Report) { r.Commits = []int{0, 1} }, api.ErrCert},
		"one is forced that is not":      {func(r *report.Report) { r.Aborts = []int{4} }, api.ErrCert},
		"others of unknown fate":         {func(r *report.Report) { r.Commits, r.Aborts = []int{3}, []int{0, 2} }, api.OK},
		"a lower level":                  {func(r *report.Report) { r.Level = api.RC }, api.OK},
		"a Sat for which it is no world": {func(r *report.Report) { r.Sat = r.Unsat }, api.ErrCert},
	} {
		r := right(t, api.Unknown)
		c.change(&r)
		if e := report.Fits(h, r); e != c.want {
			t.Errorf("%s: %v, want %v", what, e, c.want)
		}
	}
	if e := report.Fits(api.History{Sessions: []string{"s"}}, right(t, api.Unknown)); e != api.ErrForm {
		t.Errorf("of a history that may not be: %v", e)
	}
	round := made(t, "begin s, write s x 1, ok s, begin s, read s x nil, ok s", api.RC, api.Keep)
	if round.Level = api.CC; report.Fits(round.Sat, round) != api.ErrCert {
		t.Error("the certificate is one of RC alone")
	}
}

func TestWhatIsMadeMayBeAndFits(t *testing.T) {
	for n := range 300 {
		h := sample.History(n, sample.Shape{Sessions: 3, Keys: 2, Txns: 5, Ops: 3, Values: 2, Open: true})
		if world.Count(h) > 2000 {
			continue
		}
		for _, level := range levels {
			for _, policy := range []int{api.Keep, api.Erase} {
				r, e := report.Make(level, policy, h, 1<<30)
				if e != api.OK || !report.May(r) || report.Fits(h, r) != api.OK {
					t.Fatalf("%v: level %d, policy %d: %v %v", h, level, policy, r, e)
				}
				j, _ := judge.Judge(level, policy, h, 1<<30)
				g, _ := erase.By(h, policy)
				if r.Verdict != j.Verdict || !slices.Equal(r.Commits, j.Forced.Commits) || !slices.Equal(r.Aborts, j.Forced.Aborts) || r.HasSat != j.Found.Sat || r.HasUnsat != j.Found.Unsat {
					t.Fatalf("%v: level %d, policy %d: %v, of %v", h, level, policy, r, j)
				}
				if r.HasSat {
					if sat, _ := whole.Make(g, j.Found.SatWorld); !hist.Same(sat, r.Sat) || !cert.Right(level, sat, r.Cert) {
						t.Fatalf("%v: level %d, policy %d: Sat %v", h, level, policy, r.Sat)
					}
				}
				if r.HasUnsat {
					unsat, _ := whole.Make(g, j.Found.UnsatWorld)
					if reason, e := why.Not(level, unsat); !hist.Same(unsat, r.Unsat) || !reflect.DeepEqual(reason, r.Why) || e != api.OK {
						t.Fatalf("%v: level %d, policy %d: Unsat %v, %v", h, level, policy, r.Unsat, r.Why)
					}
				}
			}
		}
	}
}
