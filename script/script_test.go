package script_test

import (
	"slices"
	"strings"
	"testing"

	"deemster/api"
	"deemster/script"
)

func TestKinds(t *testing.T) {
	got := []int{script.Level, script.Policy, script.Budget, script.Check, script.Report, script.Forced, script.Worlds, script.Enough, script.Show, script.Wrong}
	if !slices.Equal(got, []int{1, 2, 3, 4, 5, 6, 7, 8, 9, 10}) {
		t.Errorf("%v", got)
	}
}

const all = "level RC\nlevel CC\nlevel SER\npolicy keep\npolicy erase\nbudget 7\ncheck\nreport\nforced\nworlds\nenough\nshow\nwrong\n"

// commands are those of all.
var commands = []script.Line{
	{Row: 1, Kind: script.Level, N: api.RC}, {Row: 2, Kind: script.Level, N: api.CC}, {Row: 3, Kind: script.Level, N: api.SER}, {Row: 4, Kind: script.Policy, N: api.Keep}, {Row: 5, Kind: script.Policy, N: api.Erase},
	{Row: 6, Kind: script.Budget, N: 7}, {Row: 7, Kind: script.Check}, {Row: 8, Kind: script.Report}, {Row: 9, Kind: script.Forced}, {Row: 10, Kind: script.Worlds}, {Row: 11, Kind: script.Enough}, {Row: 12, Kind: script.Show}, {Row: 13, Kind: script.Wrong},
}

func TestParse(t *testing.T) {
	if l, at, e := script.Parse(all); !slices.Equal(l, commands) || at != 0 || e != api.OK {
		t.Errorf("%v %d %v", l, at, e)
	}
	for s, want := range map[string][]script.Line{
		"":                                   nil,
		"\n # x\n\t\r\n":                     nil,
		"\n\n check # level RC":              {{Row: 3, Kind: script.Check}},
		"\tbudget\r 0 \n#\nlevel  SER#check": {{Row: 1, Kind: script.Budget}, {Row: 3, Kind: script.Level, N: api.SER}},
		"budget 9223372036854775807":         {{Row: 1, Kind: script.Budget, N: 1<<63 - 1}},
	} {
		if l, at, e := script.Parse(s); !slices.Equal(l, want) || at != 0 || e != api.OK {
			t.Errorf("%q: %v %d %v", s, l, at, e)
		}
	}
}

func TestParseWrong(t *testing.T) {
	full := strings.Repeat("check\n", 200)
	for _, c := range []struct {
		s  string
		at int
		e  api.Errno
	}{
		{strings.Repeat("\n", api.MaxText+1), 0, api.ErrLong}, {"x" + strings.Repeat("\xff", api.MaxText), 0, api.ErrLong},
		{"x\ncheck\n\xff\n", 3, api.ErrText}, {"budget -1\ncheck # \xff", 2, api.ErrText},
		{"x", 1, api.ErrText}, {"\n\nCheck", 3, api.ErrText}, {"checks", 1, api.ErrText}, {"RC level", 1, api.ErrText}, {"7", 1, api.ErrText},
		{"check 1", 1, api.ErrText}, {"check check", 1, api.ErrText}, {"wrong x", 1, api.ErrText}, {"show\nreport now", 2, api.ErrText},
		{"level", 1, api.ErrText}, {"policy # keep", 1, api.ErrText}, {"budget", 1, api.ErrText}, {"level RC CC", 1, api.ErrText}, {"policy keep erase", 1, api.ErrText}, {"budget 1 2", 1, api.ErrText}, {"budget 99999999999999999999 1", 1, api.ErrText}, {"budget -1 -1", 1, api.ErrText},
		{"level rc", 1, api.ErrText}, {"level 1", 1, api.ErrText}, {"level keep", 1, api.ErrText}, {"policy RC", 1, api.ErrText}, {"policy Keep", 1, api.ErrText}, {"level valid", 1, api.ErrText},
		{"budget x", 1, api.ErrText}, {"budget 01", 1, api.ErrText}, {"budget -0", 1, api.ErrText}, {"budget +1", 1, api.ErrText}, {"budget 1.0", 1, api.ErrText},
		{"budget -1", 1, api.ErrArg}, {"check\nbudget -9223372036854775808", 2, api.ErrArg}, {"budget 9223372036854775808", 1, api.ErrRange}, {"budget -9223372036854775809", 1, api.ErrRange},
		{full, 0, api.OK}, {full + "\n# x\n", 0, api.OK}, {full + "\ncheck", 202, api.ErrFull}, {full + "level RC", 201, api.ErrFull}, {full + "x", 201, api.ErrText}, {full + "budget -1", 201, api.ErrArg}, {full + "check 1\ncheck", 201, api.ErrText},
		{full + "budget 9223372036854775808", 201, api.ErrRange}, {full + "check\n\xff", 202, api.ErrText}, {full + "check\nx", 201, api.ErrFull},
		{"x\nbudget -1", 1, api.ErrText}, {"budget -1\nx", 1, api.ErrArg},
	} {
		l, at, e := script.Parse(c.s)
		if at != c.at || e != c.e || e != api.OK && len(l) > 0 {
			t.Errorf("%.40q..: %d commands, %d %v, want %d %v", c.s, len(l), at, e, c.at, c.e)
		}
	}
}

// none may not be.
var none = []script.Line{
	{}, {Kind: -1}, {Kind: 11}, {Kind: 1 << 62}, {Kind: script.Level}, {Kind: script.Level, N: 4}, {Kind: script.Level, N: -1}, {Kind: script.Policy}, {Kind: script.Policy, N: 3}, {Kind: script.Policy, N: -1 << 63},
	{Kind: script.Budget, N: -1}, {Kind: script.Check, N: 1}, {Kind: script.Report, N: -1}, {Kind: script.Forced, N: 3}, {Kind: script.Worlds, N: 1}, {Kind: script.Enough, N: 1}, {Kind: script.Show, N: 1}, {Kind: script.Wrong, N: 1},
}

func TestMay(t *testing.T) {
	for _, c := range append([]script.Line{{Row: -7, Kind: script.Wrong}, {Kind: script.Budget}, {Row: 1 << 62, Kind: script.Budget, N: 1<<63 - 1}}, commands...) {
		if !script.May(c) {
			t.Errorf("%v may be", c)
		}
	}
	for _, c := range none {
		if script.May(c) {
			t.Errorf("%v may not be", c)
		}
		if s, e := script.Print([]script.Line{commands[0], c}); s != "" || e != api.ErrForm {
			t.Errorf("Print of %v: %q %v", c, s, e)
		}
	}
}

func TestPrint(t *testing.T) {
	if s, e := script.Print(commands); s != all || e != api.OK {
		t.Errorf("%q %v", s, e)
	}
	if s, e := script.Print(nil); s != "" || e != api.OK {
		t.Errorf("of none: %q %v", s, e)
	}
	full := slices.Repeat([]script.Line{{Row: 5, Kind: script.Show}}, 200)
	if s, e := script.Print(full); s != strings.Repeat("show\n", 200) || e != api.OK {
		t.Errorf("of the most: %d bytes, %v", len(s), e)
	}
	for _, more := range []script.Line{{Kind: script.Show}, {}} {
		if s, e := script.Print(append(slices.Clone(full), more)); s != "" || e != api.ErrFull {
			t.Errorf("of one more: %d bytes, %v", len(s), e)
		}
	}
}

func TestSettings(t *testing.T) {
	l := []script.Line{{Row: 9, Kind: script.Budget, N: -4}, {Kind: script.Check}, {Row: 1, Kind: script.Level, N: 9}, {Kind: 0, N: 1}, {Kind: script.Wrong}, {Kind: script.Policy, N: 1}, {Kind: 11}, {Kind: -1}}
	if got := script.Settings(l); !slices.Equal(got, []script.Line{l[0], l[2], l[5]}) {
		t.Errorf("%v", got)
	}
	if got := script.Settings(commands); !slices.Equal(got, commands[:6]) {
		t.Errorf("%v", got)
	}
	if got := script.Settings(nil); len(got) > 0 {
		t.Errorf("of none: %v", got)
	}
	in := []script.Line{{Kind: script.Level, N: 1}}
	script.Settings(in)[0].N = 2
	if in[0].N != 1 {
		t.Error("the answer shares the argument's memory")
	}
}

func TestWhatIsPrintedIsReadAsTheSame(t *testing.T) {
	for n := range 60 {
		var l []script.Line
		for i := range n * 3 {
			c := commands[(n*7+i*i)%len(commands)]
			c.Row = 99
			l = append(l, c)
		}
		s, e := script.Print(l)
		got, at, f := script.Parse(s)
		for i := range l {
			l[i].Row = i + 1
		}
		if e != api.OK || f != api.OK || at != 0 || !slices.Equal(got, l) {
			t.Fatalf("%q: %v %v %d %v", s, got, e, at, f)
		}
	}
	l, _, _ := script.Parse("\n\ncheck\n\nbudget 4\n# x\nlevel RC")
	for i, c := range l {
		if !script.May(c) || i > 0 && l[i-1].Row >= c.Row {
			t.Errorf("%v", l)
		}
	}
}
