package line_test

import (
	"slices"
	"strings"
	"testing"

	"deemster/api"
	"deemster/line"
)

func TestOf(t *testing.T) {
	for s, want := range map[string][]string{
		"":                   {},
		"\n":                 {""},
		"a":                  {"a"},
		"a\n":                {"a"},
		"a\nb":               {"a", "b"},
		"a\n\nb":             {"a", "", "b"},
		"a\n\n":              {"a", ""},
		"\n\na":              {"", "", "a"},
		" a\r\n\tb \n":       {" a\r", "\tb "},
		"é\u2028x\n\uFFFD\v": {"é\u2028x", "\uFFFD\v"},
	} {
		l, at, e := line.Of(s)
		if !slices.Equal(l, want) || at != 0 || e != api.OK {
			t.Errorf("Of(%q): %q %d %v, want %q", s, l, at, e, want)
		}
	}
}

func TestOfWrong(t *testing.T) {
	for _, c := range []struct {
		s  string
		at int
		e  api.Errno
	}{
		{"\xff", 1, api.ErrText},
		{"a\n\xff", 2, api.ErrText},
		{"a\n\nb\xc3\nc\n\xff\n", 3, api.ErrText},
		{"\xe2\x82\n\xac", 1, api.ErrText},
		{"\xed\xa0\x80", 1, api.ErrText},
		{"a\n\xc0\x80\n", 2, api.ErrText},
		{strings.Repeat("x", api.MaxText), 0, api.OK},
		{strings.Repeat("x", api.MaxText+1), 0, api.ErrLong},
		{strings.Repeat("\xff", api.MaxText+1), 0, api.ErrLong},
		{strings.Repeat("\n", api.MaxText), 0, api.OK},
	} {
		l, at, e := line.Of(c.s)
		if at != c.at || e != c.e || e != api.OK && len(l) > 0 {
			t.Errorf("Of of %d bytes: %d lines, %d %v, want %d %v", len(c.s), len(l), at, e, c.at, c.e)
		}
	}
}

func TestRunes(t *testing.T) {
	for _, c := range []struct {
		s  string
		n  int
		is bool
	}{
		{"", 0, true}, {"abc", 3, true}, {"é€x", 3, true}, {"\n\x00", 2, true}, {"\uFFFD", 1, true}, {"\U0001F600", 1, true},
		{"\xff", 0, false}, {"abc\xc3", 0, false}, {"\x80a", 0, false},
	} {
		if n, is := line.Runes(c.s); n != c.n || is != c.is {
			t.Errorf("Runes(%q): %d %v", c.s, n, is)
		}
	}
}

func TestTrim(t *testing.T) {
	for s, want := range map[string]string{
		"": "", " \t\r": "", "a": "a", " \tb c\r": "b c", "\r\ra\t b \t": "a\t b",
		"\na\n": "\na\n", " \na ": "\na", "\u00a0a\v": "\u00a0a\v", " \xff ": "\xff",
	} {
		if got := line.Trim(s); got != want {
			t.Errorf("Trim(%q): %q", s, got)
		}
	}
}

func TestColumn(t *testing.T) {
	const s = "é€x" // runes at the bytes 0, 2, 5, and 6 bytes in all
	for at, want := range map[int]int{-1: 0, -1 << 63: 0, 0: 0, 1: 1, 2: 1, 3: 2, 4: 2, 5: 2, 6: 3, 7: 3, 1<<63 - 1: 3} {
		if got := line.Column(s, at); got != want {
			t.Errorf("Column(%q, %d): %d, want %d", s, at, got, want)
		}
	}
	if line.Column("a\xff", 1) != 0 || line.Column("a\xff", 9) != 0 || line.Column("", 3) != 0 {
		t.Error("Column of what is not clean, or empty, is 0")
	}
}

func TestLinesJoinedAreTheText(t *testing.T) {
	for _, s := range []string{"", "\n", "a", "a\n", "a\n\nb", "\n\n\n", " \r\n\tx\n", "é\n€"} {
		l, _, _ := line.Of(s)
		all := ""
		for _, x := range l {
			all += x + "\n"
		}
		if all != s && all != s+"\n" || strings.HasSuffix(s, "\n") && all != s {
			t.Errorf("%q joined: %q", s, all)
		}
	}
}
