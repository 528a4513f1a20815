package show_test

import (
	"fmt"
	"reflect"
	"slices"
	"strings"
	"testing"

	"deemster/api"
	"deemster/hist"
	"deemster/show"
)

func number(n int64) api.Value { return api.Value{Kind: api.VInt, N: n} }

func small() api.History {
	return api.History{
		Sessions: []string{"s", "t"},
		Keys:     []string{"x", "y"},
		L: []api.Txn{
			{Session: 1, Fate: api.FInfo, L: []api.Op{{Key: 1, V: api.Value{Kind: api.VLost}}, {Write: true, Key: 0, V: number(-3)}}},
			{Session: 0, Fate: api.FOk, L: []api.Op{{Key: 1}}},
			{Session: 1, Fate: api.FFail},
		},
	}
}

const smallText = "begin t\nread t y ?\nwrite t x -3\ninfo t\nbegin s\nread s y nil\nok s\nbegin t\nfail t\n"

func TestEvents(t *testing.T) {
	want := []api.Event{
		{Kind: api.EBegin, Session: "t", Line: 1},
		{Kind: api.ERead, Session: "t", Key: "y", V: api.Value{Kind: api.VLost}, Line: 2},
		{Kind: api.EWrite, Session: "t", Key: "x", V: number(-3), Line: 3},
		{Kind: api.EInfo, Session: "t", Line: 4},
		{Kind: api.EBegin, Session: "s", Line: 5},
		{Kind: api.ERead, Session: "s", Key: "y", Line: 6},
		{Kind: api.EOk, Session: "s", Line: 7},
		{Kind: api.EBegin, Session: "t", Line: 8},
		{Kind: api.EFail, Session: "t", Line: 9},
	}
	if l, e := show.Events(small()); !slices.Equal(l, want) || e != api.OK {
		t.Errorf("%v %v", l, e)
	}
	if l, e := show.Events(api.History{}); len(l) > 0 || e != api.OK {
		t.Errorf("of the empty one: %v %v", l, e)
	}
}

func TestPrint(t *testing.T) {
	if s, e := show.Print(small()); s != smallText || e != api.OK {
		t.Errorf("%q %v", s, e)
	}
	if s, e := show.Print(api.History{}); s != "" || e != api.OK {
		t.Errorf("of the empty one: %q %v", s, e)
	}
}

func TestForm(t *testing.T) {
	h := small()
	h.L[0].Fate = 0
	if l, e := show.Events(h); len(l) > 0 || e != api.ErrForm {
		t.Errorf("Events: %v %v", l, e)
	}
	if s, e := show.Print(h); s != "" || e != api.ErrForm {
		t.Errorf("Print: %q %v", s, e)
	}
}

func TestPrintLong(t *testing.T) {
	// Of 40 transactions of 20 ops each, with names of 80 bytes.
	session, key := strings.Repeat("\U0001F600", 20), strings.Repeat("\U0001F601", 20)
	h := api.History{Sessions: []string{session}, Keys: []string{key}}
	for range api.MaxTxns {
		h.L = append(h.L, api.Txn{Fate: api.FOk, L: slices.Repeat([]api.Op{{Key: 0}}, api.MaxOps)})
	}
	if s, e := show.Print(h); s != "" || e != api.ErrLong {
		t.Errorf("%d bytes, %v", len(s), e)
	}
	if l, e := show.Events(h); len(l) != api.MaxTxns*(api.MaxOps+2) || e != api.OK {
		t.Errorf("%d events, %v", len(l), e)
	}
	h.L = h.L[:15]
	if s, e := show.Print(h); len(s) != 15*(87+84+20*171) || e != api.OK {
		t.Errorf("%d bytes, %v", len(s), e)
	}
}

func TestParse(t *testing.T) {
	h, at, e := show.Parse("begin t # a remark\nbegin s\n\nread t y ?\nread s y nil\nwrite t x -3\ninfo t\nok s\nbegin t\nfail t")
	if !hist.Same(h, small()) || at != 0 || e != api.OK {
		t.Errorf("%v %d %v", h, at, e)
	}
	for _, c := range []struct {
		s  string
		at int
		e  api.Errno
	}{
		{strings.Repeat("\n", api.MaxText+1), 0, api.ErrLong},
		{"ok s\nbegin", 2, api.ErrText}, // layer 8's errors are told ahead of layer 10's
		{"ok s\n\n\xff", 3, api.ErrText},
		{"\nok s\nbegin s", 2, api.ErrShut},
		{"begin s\n\nbegin s", 3, api.ErrOpen},
		{"\n\nbegin s\nwrite s x 1", 3, api.ErrEnd},
		{"begin s\nwrite s x nil", 2, api.ErrNil},
	} {
		h, at, e := show.Parse(c.s)
		if at != c.at || e != c.e || !reflect.DeepEqual(h, api.History{}) {
			t.Errorf("Parse of %.40q: %v %d %v, want %d %v", c.s, h, at, e, c.at, c.e)
		}
	}
}

func TestWhatIsPrintedIsReadAsTheSame(t *testing.T) {
	full := api.History{}
	for i := range api.MaxSessions {
		full.Sessions = append(full.Sessions, fmt.Sprintf("s%02d", i))
	}
	for i := range api.MaxTxns {
		full.L = append(full.L, api.Txn{Session: i * 7 % api.MaxSessions, Fate: i%3 + 1})
		full.Keys = append(full.Keys, fmt.Sprintf("k%02d", i))
		for k := range api.MaxOps {
			full.L[i].L = append(full.L[i].L, api.Op{Write: k%2 == 0, Key: (i + k) % api.MaxTxns, V: number(int64(k - 9))})
		}
	}
	for _, h := range []api.History{small(), full, {}} {
		s, e := show.Print(h)
		again, at, f := show.Parse(s)
		if e != api.OK || f != api.OK || at != 0 || !hist.Same(h, again) {
			t.Errorf("%v is read as %v (%v, %d %v)", h, again, e, at, f)
		}
	}
	h, _, _ := show.Parse("begin s\nbegin t\nok t\nok s")
	if s, _ := show.Print(h); s != "begin s\nok s\nbegin t\nok t\n" {
		t.Errorf("%q", s)
	}
}
