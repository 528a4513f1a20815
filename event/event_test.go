package event_test

import (
	"strings"
	"testing"

	"deemster/api"
	"deemster/event"
)

func number(n int64) api.Value { return api.Value{Kind: api.VInt, N: n} }

var lost = api.Value{Kind: api.VLost}

// right has events and how they are printed.
var right = map[string]api.Event{
	"begin s":                        {Kind: api.EBegin, Session: "s"},
	"ok é1":                          {Kind: api.EOk, Session: "é1"},
	"fail s":                         {Kind: api.EFail, Session: "s"},
	"info s":                         {Kind: api.EInfo, Session: "s"},
	"write s x 5":                    {Kind: api.EWrite, Session: "s", Key: "x", V: number(5)},
	"write s x 0":                    {Kind: api.EWrite, Session: "s", Key: "x", V: number(0)},
	"write s s -9223372036854775808": {Kind: api.EWrite, Session: "s", Key: "s", V: number(-1 << 63)},
	"read s x 5":                     {Kind: api.ERead, Session: "s", Key: "x", V: number(5)},
	"read s x nil":                   {Kind: api.ERead, Session: "s", Key: "x"},
	"read s x ?":                     {Kind: api.ERead, Session: "s", Key: "x", V: lost},
}

func TestRight(t *testing.T) {
	for s, want := range right {
		if a, is, e := event.Parse(s); a != want || !is || e != api.OK {
			t.Errorf("Parse(%q): %v %v %v", s, a, is, e)
		}
		if !event.May(want) {
			t.Errorf("%v may be", want)
		}
		if got, e := event.Print(want); got != s || e != api.OK {
			t.Errorf("Print(%v): %q %v", want, got, e)
		}
		want.Line = -7
		if got, e := event.Print(want); got != s || e != api.OK || !event.May(want) {
			t.Errorf("whatever its Line, %v is %q %v", want, got, e)
		}
	}
}

func TestParseBlanksAndRemarks(t *testing.T) {
	want := right["read s x ?"]
	for _, s := range []string{" read\ts  x ?\r", "read s x ?#5", "read s x ? # \U0001F600"} {
		if a, is, e := event.Parse(s); a != want || !is || e != api.OK {
			t.Errorf("Parse(%q): %v %v %v", s, a, is, e)
		}
	}
	for _, s := range []string{"", " \t\r", "# begin s", "#"} {
		if a, is, e := event.Parse(s); a != (api.Event{}) || is || e != api.OK {
			t.Errorf("Parse(%q): %v %v %v", s, a, is, e)
		}
	}
}

func TestParseWrong(t *testing.T) {
	long := strings.Repeat("a", 21)
	for s, want := range map[string]api.Errno{
		"\xff": api.ErrText, "begin s # \xff": api.ErrText, "begin s\n": api.ErrText, "\n": api.ErrText,
		"abort s": api.ErrText, "Begin s": api.ErrText, "nil": api.ErrText, "beginn s": api.ErrText, "s begin": api.ErrText,
		"begin": api.ErrText, "begin s t": api.ErrText, "ok s x 1": api.ErrText, "fail": api.ErrText, "info s #": api.OK,
		"read": api.ErrText, "read s x": api.ErrText, "read s x 1 2": api.ErrText, "write s x": api.ErrText, "write s x 1 1": api.ErrText, "write s": api.ErrText,
		"begin ok": api.ErrText, "begin 1s": api.ErrText, "ok s-t": api.ErrText, "info " + long: api.ErrText,
		"read nil x 1": api.ErrText, "read s 1 1": api.ErrText, "read s begin 1": api.ErrText, "write s x-y 1": api.ErrText, "write s " + long + " 1": api.ErrText,
		"read s x y": api.ErrText, "read s x 01": api.ErrText, "read s x -0": api.ErrText, "read s x ??": api.ErrText, "read s x Nil": api.ErrText,
		"write s x ?": api.ErrText, "write s x 1.5": api.ErrText, "write s x nil": api.ErrNil,
		"read s x 9223372036854775808": api.ErrRange, "write s x -9223372036854775809": api.ErrRange,
		// The words count from the left; how many there are counts ahead of them.
		"write s 1 nil": api.ErrText, "write 1 x nil": api.ErrText, "write s 1 9223372036854775808": api.ErrText, "write s x nil nil": api.ErrText,
		"write s x 9223372036854775808 1": api.ErrText, "write s x 09223372036854775808": api.ErrText,
	} {
		a, is, e := event.Parse(s)
		if e != want || e != api.OK && (is || a != (api.Event{})) {
			t.Errorf("Parse(%q): %v %v %v, want %v", s, a, is, e, want)
		}
	}
}

func TestMayNot(t *testing.T) {
	for _, a := range []api.Event{
		{}, {Session: "s"}, {Kind: 7, Session: "s"}, {Kind: -1, Session: "s"},
		{Kind: api.EBegin}, {Kind: api.EOk, Session: "1"}, {Kind: api.EFail, Session: "nil"}, {Kind: api.EInfo, Session: "a b"}, {Kind: api.EBegin, Session: "\xff"},
		{Kind: api.EBegin, Session: "s", Key: "x"}, {Kind: api.EOk, Session: "s", V: number(0)}, {Kind: api.EFail, Session: "s", V: lost}, {Kind: api.EInfo, Session: "s", V: api.Value{N: 1}},
		{Kind: api.ERead, Session: "s"}, {Kind: api.ERead, Session: "", Key: "x"}, {Kind: api.ERead, Session: "s", Key: "ok"}, {Kind: api.ERead, Session: "s", Key: "x", V: api.Value{N: 1}},
		{Kind: api.ERead, Session: "s", Key: "x", V: api.Value{Kind: 3}}, {Kind: api.ERead, Session: "s", Key: "x", V: api.Value{Kind: api.VLost, N: 1}},
		{Kind: api.EWrite, Session: "s", Key: "x"}, {Kind: api.EWrite, Session: "s", Key: "x", V: lost}, {Kind: api.EWrite, Session: "s", Key: "", V: number(1)}, {Kind: api.EWrite, Session: "s", Key: "x", V: api.Value{Kind: -1}},
		{Kind: api.EWrite, Session: "1", Key: "x", V: number(1)},
	} {
		if event.May(a) {
			t.Errorf("%v may not be", a)
		}
		if s, e := event.Print(a); s != "" || e != api.ErrForm {
			t.Errorf("Print(%v): %q %v", a, s, e)
		}
	}
}
