package name_test

import (
	"slices"
	"strings"
	"testing"

	"deemster/name"
)

var reserved = []string{"begin", "read", "write", "ok", "fail", "info", "nil"}

func TestIs(t *testing.T) {
	for _, s := range []string{
		"a", "z", "A", "Z", "_", "a0", "x9", "_1", "é", "\u0080", "\uFFFD", "\U0010FFFF", "Begin", "oks", "NIL", "begin_", "é1",
		strings.Repeat("a", 20), strings.Repeat("é", 20), strings.Repeat("\U0001F600", 20),
	} {
		if !name.Is(s) {
			t.Errorf("%q is a name", s)
		}
	}
	for _, s := range append([]string{
		"", "0", "9", "1é", "0a", " ", "a b", " a", "a ", "a-b", "a\n", "a.", "@", "[", "`", "{", "/", ":", "a\x7f", "\x7f", "a\x00", "?", "#a",
		"\xff", "a\xff", "\xc3", "é\x80",
		strings.Repeat("a", 21), strings.Repeat("é", 21),
	}, reserved...) {
		if name.Is(s) {
			t.Errorf("%q is no name", s)
		}
	}
}

func TestReserved(t *testing.T) {
	for _, s := range reserved {
		if !name.Reserved(s) {
			t.Errorf("%q is reserved", s)
		}
	}
	for _, s := range []string{"", "a", "Ok", "ok ", "beginn", "begi", "abort", "level", "?"} {
		if name.Reserved(s) {
			t.Errorf("%q is not reserved", s)
		}
	}
}

func TestLess(t *testing.T) {
	for _, c := range [][2]string{
		{"", "a"}, {"a", "b"}, {"a", "aa"}, {"ab", "b"}, {"Z", "a"}, {"_", "a"}, {"Z", "_"}, {"a9", "aa"}, {"z", "é"},
		{"\uFFFD", "\U0001F600"}, {"\uE000", "\xff"}, {"\xff", "\U00010000"}, {"a\xff", "a\xffb"}, {"\xffa", "\uFFFDb"}, {"é", "\xc3"},
	} {
		if !name.Less(c[0], c[1]) || name.Less(c[1], c[0]) {
			t.Errorf("%q is less than %q", c[0], c[1])
		}
	}
	for _, c := range [][2]string{{"", ""}, {"a", "a"}, {"é", "é"}, {"\xff", "\uFFFD"}, {"\xff", "\x80"}, {"a\xc3", "a\uFFFD"}} {
		if name.Less(c[0], c[1]) || name.Less(c[1], c[0]) {
			t.Errorf("neither of %q and %q is less", c[0], c[1])
		}
	}
}

func TestSorted(t *testing.T) {
	l := []string{"b", "ok", "é", "a", "b", "", "aa", "1", "Z", "a", "\xff", "\U0001F600", "\uFFFD"}
	was := slices.Clone(l)
	want := []string{"Z", "a", "aa", "b", "é", "\uFFFD", "\U0001F600"}
	if got := name.Sorted(l...); !slices.Equal(got, want) {
		t.Errorf("%q, want %q", got, want)
	}
	if !slices.Equal(l, was) {
		t.Errorf("what was handed in was changed: %q", l)
	}
	if got := name.Sorted(); len(got) != 0 {
		t.Errorf("of none: %q", got)
	}
	in := []string{"a", "b"}
	out := name.Sorted(in...)
	out[0] = "z"
	if in[0] != "a" {
		t.Error("the answer shares the argument's memory")
	}
}

func TestTurned(t *testing.T) {
	for s, want := range map[string]string{
		"": "", "a": "a", "abc": "cba", "é€x": "x€é", "a\xffb": "b\uFFFDa", "\xc3\x28": "(\uFFFD", "\xe2\x82": "\uFFFD\uFFFD", "\U0001F600e\u0301": "\u0301e\U0001F600",
	} {
		if got := name.Turned(s); got != want {
			t.Errorf("Turned(%q): %q, want %q", s, got, want)
		}
	}
}

func TestNamesAreOrdered(t *testing.T) {
	l := []string{"a", "aa", "ab", "b", "Z", "_", "é", "é1", "\U0001F600", "\uFFFD", "z9"}
	for _, a := range l {
		if name.Turned(name.Turned(a)) != a {
			t.Errorf("%q turned twice", a)
		}
		for _, b := range l {
			if (a == b) == (name.Less(a, b) != name.Less(b, a)) {
				t.Errorf("of %q and %q just one is less, if they are unlike", a, b)
			}
		}
	}
}
