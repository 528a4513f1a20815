package desk_test

import (
	"slices"
	"strings"
	"testing"

	"deemster/api"
	"deemster/back"
	"deemster/bound"
	"deemster/check"
	"deemster/desk"
	"deemster/digit"
	"deemster/erase"
	"deemster/report"
	"deemster/sample"
	"deemster/script"
	"deemster/show"
	"deemster/text"
	"deemster/world"
)

// lines puts each part between commas on a line of its own.
func lines(s string) string {
	if s == "" {
		return ""
	}
	return strings.ReplaceAll(s, ", ", "\n") + "\n"
}

const update = "begin s, read s x nil, write s x 1, ok s, begin t, read t x nil, write t x 2, ok t"

func TestPlay(t *testing.T) {
	const lost = "begin t, ok t, begin s, read s x ?, write s y 1, read s z ?, info s"
	for _, c := range []struct{ what, log, script, want string }{
		{"nothing", "", "", ""},
		{"valid", "begin s, ok s", "check", "valid"},
		{"by SER first", update, "check, level CC, check, level SER, check", "violated, valid, violated"},
		{"keeping first", "begin s, read s x ?, ok s", "check, policy erase, check, policy keep, check", "unknown, valid, unknown"},
		{"100,000 first", "begin a, read a x 5, ok a" + strings.Repeat(", begin s, info s", 16), "check", "violated"},
		{"100,000 first, and more", "begin a, read a x 5, ok a" + strings.Repeat(", begin s, info s", 17), "check, worlds, budget 131072, check, budget 131071, check", "exhausted, 131072, violated, exhausted"},
		{"spent", "begin s, info s", "budget 0, check, report, forced, worlds, wrong", "exhausted, exhausted, exhausted, 2, right"},
		{"forced", "begin s, write s x 1, info s, begin t, read t x 1, ok t, begin u, read u y 4, info u, begin v, info v, begin v, read v x 3, info v", "forced", "commits 0, aborts 2 4"},
		{"nothing is forced", "", "forced", "commits, aborts"},
		{"worlds", lost, "worlds, policy erase, worlds", "5, 2"},
		{"enough", lost, "enough, policy erase, enough", "1296, 36"},
		{"too many", strings.Repeat("begin s, ok s, ", 29) + "begin s, ok s", "enough", "too many"},
		{"show", "begin s, begin t, ok t, read s x ?, ok s", "show, policy erase, show", "begin s, read s x ?, ok s, begin t, ok t, begin s, ok s, begin t, ok t"},
		{"show nothing", "", "show, wrong", "right"},
		{"report", "begin s, read s x ?, ok s", "policy erase, level RC, report", "level RC, policy erase, verdict valid, commits, aborts, sat, begin s, ok s, map, order 0, end"},
		{"wrong", "ok s", "wrong, check, report, forced, worlds, enough, show, level RC, policy erase, budget 0, show", strings.Repeat("error 10 at 1, ", 7) + "error 10 at 1"},
		{"wrong further down", "begin s, ok s, begin t", "show", "error 12 at 3"},
		{"settings alone", "x", "level RC, policy erase, budget 5", ""},
	} {
		got, at, e := desk.Play(lines(c.log), lines(c.script))
		if got != lines(c.want) || at != 0 || e != api.OK {
			t.Errorf("%s: %q %d %v, want %q", c.what, got, at, e, lines(c.want))
		}
	}
}

// hard is a log that takes 100,000 nodes by CC: so many maps there are, and none of them does.
func hard() string {
	var b strings.Builder
	for range 5 {
		b.WriteString("begin a, write a x 1, ok a, ")
	}
	for range 2 {
		b.WriteString("begin a, write a y 1, ok a, ")
	}
	b.WriteString("begin b, " + strings.Repeat("read b x 1, ", 5) + strings.Repeat("read b y 1, ", 5) + "ok b, begin c, write c z 1, ok c, begin c, read c z nil, ok c")
	return b.String()
}

func TestFirstBudget(t *testing.T) {
	for log, want := range map[string]string{
		hard(): "violated", // one of unknown fate that must not commit takes a node more
		hard() + ", begin d, write d z 5, read d z 6, info d": "exhausted",
	} {
		if got, _, e := desk.Play(lines(log), "level CC\ncheck"); got != want+"\n" || e != api.OK {
			t.Errorf("%q %v, want %q", got, e, want)
		}
	}
}

func TestPlayWrong(t *testing.T) {
	for _, c := range []struct {
		s  string
		at int
		e  api.Errno
	}{
		{"check\nlevel rc", 2, api.ErrText}, {"check\n\nbudget -1", 3, api.ErrArg}, {"budget 9223372036854775808", 1, api.ErrRange}, {"check\n\xff", 2, api.ErrText},
		{strings.Repeat("wrong\n", 201), 201, api.ErrFull}, {strings.Repeat("\n", api.MaxText+1), 0, api.ErrLong},
	} {
		for _, log := range []string{"begin s\nok s", "ok s", strings.Repeat("x", api.MaxText+1)} {
			if got, at, e := desk.Play(log, c.s); got != "" || at != c.at || e != c.e {
				t.Errorf("%.40q: %q %d %v", c.s, got, at, e)
			}
		}
	}
	if got, at, e := desk.Play(strings.Repeat("x", api.MaxText+1), "wrong\ncheck"); got != "error 6 at 0\nerror 6 at 0\n" || at != 0 || e != api.OK {
		t.Errorf("%q %d %v", got, at, e)
	}
	if got, at, e := desk.Play("", strings.Repeat("wrong\n", 200)); got != strings.Repeat("right\n", 200) || at != 0 || e != api.OK {
		t.Errorf("%d bytes, %d %v", len(got), at, e)
	}
}

func TestDo(t *testing.T) {
	d := desk.New(lines(update))
	for i, c := range []struct {
		l    script.Line
		want string
		e    api.Errno
	}{
		{script.Line{Kind: script.Check}, "violated\n", api.OK},
		{script.Line{Row: -9, Kind: script.Level, N: api.CC}, "", api.OK},
		{script.Line{Kind: script.Check}, "valid\n", api.OK},
		{script.Line{Kind: script.Level, N: 4}, "", api.ErrForm},
		{script.Line{Kind: script.Check, N: 1}, "", api.ErrForm},
		{script.Line{}, "", api.ErrForm},
		{script.Line{Kind: script.Budget, N: -1}, "", api.ErrForm},
		{script.Line{Kind: script.Policy, N: 3}, "", api.ErrForm},
		{script.Line{Kind: 11}, "", api.ErrForm},
		{script.Line{Kind: script.Check}, "valid\n", api.OK}, // what was refused changed nothing
		{script.Line{Kind: script.Budget}, "", api.OK},
		{script.Line{Kind: script.Check}, "exhausted\n", api.OK},
		{script.Line{Kind: script.Wrong}, "right\n", api.OK},
	} {
		if got, e := d.Do(c.l); got != c.want || e != c.e {
			t.Errorf("step %d, %v: %q %v", i, c.l, got, e)
		}
	}
	for _, d := range []*desk.Desk{nil, {}} {
		for _, l := range []script.Line{{Kind: script.Wrong}, {Kind: script.Level, N: api.RC}, {}} {
			if got, e := d.Do(l); got != "" || e != api.ErrForm {
				t.Errorf("of none, %v: %q %v", l, got, e)
			}
		}
	}
}

// named tells a name of so many bytes.
func named(bytes int) string { return strings.Repeat("\U0001F600", bytes/4) + "aaa"[:bytes%4] }

// longest makes a log of just the most bytes; its text, with a line feed behind the last line, too, is longer.
func longest() string {
	var b strings.Builder
	reads := func(session string, n int) {
		b.WriteString("begin " + session + "\n")
		for range n {
			b.WriteString("read " + session + " " + named(80) + " nil\n")
		}
	}
	for range 18 {
		reads(named(80), 20)
		b.WriteString("ok " + named(80) + "\n")
	}
	reads("s", 9)
	left := api.MaxText - b.Len() - len("read s  nil\nok s")
	b.WriteString("read s " + named(left) + " nil\nok s")
	return b.String()
}

func TestTooLong(t *testing.T) {
	log := longest()
	d := desk.New(log)
	for kind, want := range map[int]string{script.Wrong: "right\n", script.Check: "valid\n", script.Report: "too long\n", script.Show: "too long\n", script.Forced: "commits\naborts\n", script.Enough: "too many\n"} {
		if got, e := d.Do(script.Line{Kind: kind}); got != want || e != api.OK || len(log) != api.MaxText {
			t.Errorf("kind %d: %.80q %v", kind, got, e)
		}
	}
	shorter := strings.TrimSuffix(log, " nil\nok s")
	shorter = shorter[:len(shorter)-1] + " nil\nok s\n"
	if got, e := desk.New(shorter).Do(script.Line{Kind: script.Show}); got != shorter || e != api.OK {
		t.Errorf("of just the most bytes: %.80q %v", got, e)
	}
}

func TestAnswersAreWhatTheLayersTell(t *testing.T) {
	for n := range 80 {
		h := sample.History(n, sample.Shape{Sessions: 3, Keys: 2, Txns: 5, Ops: 3, Values: 2, Open: true})
		if world.Count(h) > 1000 {
			continue
		}
		log, _ := show.Print(h)
		for _, level := range []int{api.RC, api.CC, api.SER} {
			for _, policy := range []int{api.Keep, api.Erase} {
				for _, budget := range []int{1, 7, 100000} {
					answers(t, log, level, policy, budget, h)
				}
			}
		}
	}
}

func answers(t *testing.T, log string, level, policy, budget int, h api.History) {
	t.Helper()
	d := desk.New(log)
	do := func(kind, n int) string {
		s, e := d.Do(script.Line{Kind: kind, N: n})
		if e != api.OK {
			t.Fatal(e)
		}
		return s
	}
	do(script.Level, level)
	do(script.Policy, policy)
	do(script.Budget, budget)
	g, _ := erase.By(h, policy)
	enough, _ := bound.Of(h, policy)
	shown, _ := show.Print(g)
	got := []string{do(script.Worlds, 0), do(script.Enough, 0), do(script.Show, 0), do(script.Check, 0)}
	o := check.Check(log, level, policy, budget)
	verdict := "exhausted"
	if o.Kind == check.Done {
		verdict = text.Verdict(o.R.Verdict)
	}
	if want := []string{digit.Print(int64(world.Count(g))) + "\n", digit.Print(int64(enough)) + "\n", shown, verdict + "\n"}; !slices.Equal(got, want) {
		t.Fatalf("%q: %q, want %q", log, got, want)
	}
	r, e := back.Parse(do(script.Report, 0))
	if o.Kind == check.Done && (e != api.OK || !report.Same(r, o.R)) || o.Kind == check.Exhausted && do(script.Report, 0) != "exhausted\n" {
		t.Fatalf("%q: %v %v, want %v", log, r, e, o)
	}
}
