package log_test

import (
	"slices"
	"strings"
	"testing"

	"deemster/api"
	"deemster/log"
)

func TestParse(t *testing.T) {
	l, at, e := log.Parse("# a log\nbegin s\n\n  write s x 5 # five\r\nread s x ?\nok s")
	want := []api.Event{
		{Kind: api.EBegin, Session: "s", Line: 2},
		{Kind: api.EWrite, Session: "s", Key: "x", V: api.Value{Kind: api.VInt, N: 5}, Line: 4},
		{Kind: api.ERead, Session: "s", Key: "x", V: api.Value{Kind: api.VLost}, Line: 5},
		{Kind: api.EOk, Session: "s", Line: 6},
	}
	if !slices.Equal(l, want) || at != 0 || e != api.OK {
		t.Errorf("%v %d %v", l, at, e)
	}
	for _, s := range []string{"", "\n\n", "# x"} {
		if l, at, e := log.Parse(s); len(l) > 0 || at != 0 || e != api.OK {
			t.Errorf("Parse(%q): %v %d %v", s, l, at, e)
		}
	}
}

func TestParseWrong(t *testing.T) {
	full := strings.Repeat("begin s\n", api.MaxLines)
	for _, c := range []struct {
		s  string
		at int
		e  api.Errno
	}{
		{strings.Repeat("#", api.MaxText+1), 0, api.ErrLong},
		{"x\n" + strings.Repeat("\xff", api.MaxText), 0, api.ErrLong},
		{strings.Repeat("#", api.MaxText), 0, api.OK},
		{"begin\nbegin s # \xff\n\xff", 2, api.ErrText},
		{"begin s\nwrite s x nil\nbegin", 2, api.ErrNil},
		{"begin s\n\nwrite s x 9223372036854775808\nwrite s x nil", 3, api.ErrRange},
		{"\n\nx", 3, api.ErrText},
		{"ok s\nok s\nbegin s", 0, api.OK},
		{full, 0, api.OK},
		{full + "\n# no event\n", 0, api.OK},
		{full + "\nok s\nok s", api.MaxLines + 2, api.ErrFull},
		{full + "ok\nok s", api.MaxLines + 1, api.ErrText},
		{full + "write s x nil", api.MaxLines + 1, api.ErrNil},
		{full + "ok s\n\xff", api.MaxLines + 2, api.ErrText},
	} {
		l, at, e := log.Parse(c.s)
		if at != c.at || e != c.e || e != api.OK && len(l) > 0 {
			t.Errorf("Parse of %.40q..: %d events, %d %v, want %d %v", c.s, len(l), at, e, c.at, c.e)
		}
	}
}

func TestPrint(t *testing.T) {
	l := []api.Event{
		{Kind: api.EBegin, Session: "s", Line: 9},
		{Kind: api.ERead, Session: "s", Key: "x", Line: -3},
		{Kind: api.EInfo, Session: "s"},
	}
	if s, e := log.Print(l); s != "begin s\nread s x nil\ninfo s\n" || e != api.OK {
		t.Errorf("%q %v", s, e)
	}
	if s, e := log.Print(nil); s != "" || e != api.OK {
		t.Errorf("of none: %q %v", s, e)
	}
	if s, e := log.Print(append(l, api.Event{})); s != "" || e != api.ErrForm {
		t.Errorf("with one that may not be: %q %v", s, e)
	}
}

func TestPrintLong(t *testing.T) {
	row := api.Event{Kind: api.EBegin, Session: "sessions9"} // 16 bytes with its line feed
	most := slices.Repeat([]api.Event{row}, api.MaxText/16)
	if s, e := log.Print(most); len(s) != api.MaxText || e != api.OK {
		t.Errorf("of just the most bytes: %d bytes, %v", len(s), e)
	}
	most[0].Session += "a"
	if s, e := log.Print(most); s != "" || e != api.ErrLong {
		t.Errorf("of one byte more: %d bytes, %v", len(s), e)
	}
	if s, e := log.Print(append(most, api.Event{})); s != "" || e != api.ErrForm {
		t.Errorf("ErrForm is told ahead of ErrLong: %d bytes, %v", len(s), e)
	}
}

func TestCount(t *testing.T) {
	l := []api.Event{{Kind: api.EBegin}, {Kind: api.EOk}, {Kind: api.EBegin}, {Kind: 77}}
	for kind, want := range map[int]int{api.EBegin: 2, api.EOk: 1, api.ERead: 0, 77: 1, 0: 0} {
		if got := log.Count(l, kind); got != want {
			t.Errorf("Count of %d: %d", kind, got)
		}
	}
}

func TestWhatIsPrintedIsReadAsTheSame(t *testing.T) {
	for _, s := range []string{"", "begin s, ok s", "begin s, begin é, write s x -1, read é x ?, read s y nil, info é, fail s"} {
		l, _, e := log.Parse(strings.ReplaceAll(s, ", ", "\n\n"))
		if e != api.OK {
			t.Fatal(e)
		}
		text, _ := log.Print(l)
		again, at, e := log.Parse(text)
		for i := range l {
			l[i].Line = i + 1
		}
		if !slices.Equal(l, again) || at != 0 || e != api.OK {
			t.Errorf("%q: %v, and again %v %d %v", s, l, again, at, e)
		}
	}
}
