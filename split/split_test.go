package split_test

import (
	"slices"
	"testing"

	"deemster/api"
	"deemster/split"
)

func TestWords(t *testing.T) {
	type words = []split.Word
	for s, want := range map[string]words{
		"":                  {},
		" \t\r ":            {},
		"#":                 {},
		"# read a":          {},
		"read":              {{"read", 1}},
		" read":             {{"read", 2}},
		"read a  b #x":      {{"read", 1}, {"a", 6}, {"b", 9}},
		"\tread\ra\t":       {{"read", 2}, {"a", 7}},
		"é €é  x":           {{"é", 1}, {"€é", 3}, {"x", 7}},
		"a#b c":             {{"a", 1}},
		"a b# c # d":        {{"a", 1}, {"b", 3}},
		"a\u00a0b \v\f c":   {{"a\u00a0b", 1}, {"\v\f", 5}, {"c", 8}},
		"x \U0001F600 é# é": {{"x", 1}, {"\U0001F600", 3}, {"é", 5}},
	} {
		l, e := split.Words(s)
		if !slices.Equal(l, want) || e != api.OK {
			t.Errorf("Words(%q): %v %v, want %v", s, l, e, want)
		}
	}
	for _, s := range []string{"\xff", "a \xc3", "a # \xff", "\n", "a\nb", "a # b\n", "a\n"} {
		if l, e := split.Words(s); len(l) > 0 || e != api.ErrText {
			t.Errorf("Words(%q): %v %v", s, l, e)
		}
	}
}

func TestRemark(t *testing.T) {
	for _, c := range []struct {
		s, want string
		is      bool
	}{
		{"", "", false}, {"a b", "", false}, {"#", "", true}, {"a # \t\r", "", true}, {"a #  x y\t", "x y", true}, {"#a#b", "a#b", true},
		{"a\n# b\nc \r", "b\nc", true}, {"\xff# \xfe ", "\xfe", true}, {"\xff", "", false}, {"#\nx", "\nx", true},
	} {
		if got, is := split.Remark(c.s); got != c.want || is != c.is {
			t.Errorf("Remark(%q): %q %v", c.s, got, is)
		}
	}
}

func TestJoin(t *testing.T) {
	for want, l := range map[string][]string{"": nil, "a": {"a"}, "a b": {"a", "b"}, " ": {"", ""}, "a  # b\n é": {"a ", "#", "b\n", "é"}} {
		if got := split.Join(l...); got != want {
			t.Errorf("Join(%q): %q", l, got)
		}
	}
}

func TestJoinedWordsAreTheSame(t *testing.T) {
	for _, s := range []string{"", "read a  b #x", "\té\r€ \U0001F600", "begin s"} {
		l, _ := split.Words(s)
		var texts []string
		for _, w := range l {
			texts = append(texts, w.S)
		}
		again, _ := split.Words(split.Join(texts...))
		var back []string
		for _, w := range again {
			back = append(back, w.S)
		}
		if !slices.Equal(texts, back) {
			t.Errorf("%q: %q, and again %q", s, texts, back)
		}
	}
}
