package pair_test

import (
	"fmt"
	"reflect"
	"slices"
	"testing"

	"deemster/api"
	"deemster/log"
	"deemster/pair"
)

// events are those of a log, each on the line 10 times its number.
func events(t *testing.T, rows ...string) []api.Event {
	t.Helper()
	var l []api.Event
	for i, row := range rows {
		one, _, e := log.Parse(row)
		if e != api.OK || len(one) != 1 {
			t.Fatalf("%q: %v", row, e)
		}
		one[0].Line = 10 * (i + 1)
		l = append(l, one[0])
	}
	return l
}

func number(n int64) api.Value { return api.Value{Kind: api.VInt, N: n} }

func TestHistory(t *testing.T) {
	h, at, e := pair.History(events(t,
		"begin t", "begin s", "write t y 5", "read s x nil", "read t x ?", "info t", "write s b 1", "begin t", "fail t", "read s y 5", "ok s", "begin a", "ok a"))
	want := api.History{
		Sessions: []string{"a", "s", "t"},
		Keys:     []string{"b", "x", "y"},
		L: []api.Txn{
			{Session: 2, Fate: api.FInfo, L: []api.Op{{Write: true, Key: 2, V: number(5)}, {Key: 1, V: api.Value{Kind: api.VLost}}}},
			{Session: 1, Fate: api.FOk, L: []api.Op{{Key: 1}, {Write: true, Key: 0, V: number(1)}, {Key: 2, V: number(5)}}},
			{Session: 2, Fate: api.FFail},
			{Session: 0, Fate: api.FOk},
		},
	}
	if !reflect.DeepEqual(h, want) || at != 0 || e != api.OK {
		t.Errorf("%v %d %v, want %v", h, at, e, want)
	}
	if h, at, e := pair.History(nil); len(h.L)+len(h.Sessions)+len(h.Keys) > 0 || at != 0 || e != api.OK {
		t.Errorf("of none: %v %d %v", h, at, e)
	}
	h, _, _ = pair.History(events(t, "begin s", "read s x nil", "ok s"))
	if len(h.L) != 1 {
		t.Errorf("one transaction: %v", h)
	}
}

func TestWrong(t *testing.T) {
	for _, c := range []struct {
		rows []string
		at   int
		e    api.Errno
	}{
		{[]string{"ok s"}, 10, api.ErrShut},
		{[]string{"read s x 1"}, 10, api.ErrShut},
		{[]string{"begin s", "ok s", "write s x 1"}, 30, api.ErrShut},
		{[]string{"begin s", "info s", "info s"}, 30, api.ErrShut},
		{[]string{"begin s", "fail t"}, 20, api.ErrShut},
		{[]string{"begin s", "begin s"}, 20, api.ErrOpen},
		{[]string{"begin s", "begin t", "read t x 1", "begin s", "ok u"}, 40, api.ErrOpen},
		{[]string{"begin s"}, 10, api.ErrEnd},
		{[]string{"begin s", "ok s", "begin t", "begin s", "ok s", "begin u"}, 30, api.ErrEnd},
		{[]string{"begin t", "begin s", "begin u", "ok t"}, 20, api.ErrEnd},
		{[]string{"begin s", "fail s", "begin s", "ok s"}, 0, api.OK},
	} {
		h, at, e := pair.History(events(t, c.rows...))
		if at != c.at || e != c.e || e != api.OK && !reflect.DeepEqual(h, api.History{}) {
			t.Errorf("%q: %v %d %v, want %d %v", c.rows, h, at, e, c.at, c.e)
		}
	}
}

func TestFormIsToldAhead(t *testing.T) {
	for _, a := range []api.Event{{Line: 7}, {Kind: api.EBegin, Line: 7}, {Kind: api.EOk, Session: "s", Key: "x", Line: 7}, {Kind: api.EWrite, Session: "s", Key: "x", Line: 7}, {Kind: api.EBegin, Session: "s", V: number(1), Line: 7}} {
		for _, rows := range [][]string{nil, {"begin s"}} {
			l := append(events(t, rows...), a, a)
			if h, at, e := pair.History(l); at != 7 || e != api.ErrForm || !reflect.DeepEqual(h, api.History{}) {
				t.Errorf("%v: %v %d %v", l, h, at, e)
			}
		}
	}
	l := append(events(t, "ok s"), api.Event{})
	if _, at, e := pair.History(l); at != 10 || e != api.ErrShut {
		t.Errorf("of the first event: %d %v", at, e)
	}
}

func name(i int) string { return fmt.Sprintf("n%02d", i) }

func TestSessionsFull(t *testing.T) {
	var rows []string
	for i := range api.MaxSessions {
		rows = append(rows, "begin "+name(i), "ok "+name(i))
	}
	if h, _, e := pair.History(events(t, rows...)); e != api.OK || len(h.Sessions) != api.MaxSessions {
		t.Errorf("%d sessions: %v", len(h.Sessions), e)
	}
	if _, _, e := pair.History(events(t, append(rows, "begin n00", "ok n00")...)); e != api.OK {
		t.Errorf("a session again: %v", e)
	}
	if _, at, e := pair.History(events(t, append(rows, "begin z", "ok z")...)); e != api.ErrFull || at != 10*(len(rows)+1) {
		t.Errorf("a session more: %d %v", at, e)
	}
}

func TestTxnsFull(t *testing.T) {
	var rows []string
	for range api.MaxTxns {
		rows = append(rows, "begin s", "info s")
	}
	if h, _, e := pair.History(events(t, rows...)); e != api.OK || len(h.L) != api.MaxTxns {
		t.Errorf("%d transactions: %v", len(h.L), e)
	}
	if _, at, e := pair.History(events(t, append(rows, "begin s", "ok s")...)); e != api.ErrFull || at != 10*(len(rows)+1) {
		t.Errorf("a transaction more: %d %v", at, e)
	}
	rows = append(rows[:len(rows)-1], "begin s")
	if _, _, e := pair.History(events(t, rows...)); e != api.ErrOpen {
		t.Errorf("ErrOpen is told ahead of ErrFull: %v", e)
	}
}

func TestOpsAndKeysFull(t *testing.T) {
	rows := []string{"begin s"}
	for i := range api.MaxOps {
		rows = append(rows, fmt.Sprintf("write s x %d", i))
	}
	if h, _, e := pair.History(events(t, append(rows, "ok s")...)); e != api.OK || len(h.L[0].L) != api.MaxOps {
		t.Errorf("%v", e)
	}
	if _, at, e := pair.History(events(t, append(rows, "read s x 1", "ok s")...)); e != api.ErrFull || at != 10*(len(rows)+1) {
		t.Errorf("an op more: %d %v", at, e)
	}
	rows = nil
	for i := range api.MaxKeys {
		if i%api.MaxOps == 0 {
			rows = append(rows, "begin "+name(i))
		}
		rows = append(rows, "read "+name(i/api.MaxOps*api.MaxOps)+" "+name(i)+" nil")
	}
	ends := []string{"ok n00", "ok n20"}
	if h, _, e := pair.History(events(t, append(slices.Clone(rows), ends...)...)); e != api.OK || len(h.Keys) != api.MaxKeys {
		t.Errorf("%d keys: %v", len(h.Keys), e)
	}
	rows = append(rows, "begin z", "read z n00 nil")
	if _, at, e := pair.History(events(t, append(rows, "read z z nil")...)); e != api.ErrFull || at != 10*(len(rows)+1) {
		t.Errorf("a key more: %d %v", at, e)
	}
}

func TestOpen(t *testing.T) {
	for _, c := range []struct {
		rows []string
		want []string
	}{
		{nil, nil},
		{[]string{"begin s", "ok s"}, nil},
		{[]string{"begin t", "begin s", "begin a", "info s"}, []string{"a", "t"}},
		{[]string{"begin t", "ok t", "begin t", "read t x 1"}, []string{"t"}},
		{[]string{"begin t", "begin t"}, nil},
		{[]string{"begin t", "ok s"}, nil},
	} {
		if got := pair.Open(events(t, c.rows...)); !slices.Equal(got, c.want) {
			t.Errorf("Open of %q: %q, want %q", c.rows, got, c.want)
		}
	}
	if got := pair.Open(append(events(t, "begin s"), api.Event{})); len(got) > 0 {
		t.Errorf("with an event that may not be: %q", got)
	}
}

func TestAsManyAsThereAreEvents(t *testing.T) {
	l := events(t, "begin s", "begin t", "read t x 1", "write s y 2", "ok s", "begin s", "read s x ?", "read s x ?", "fail t", "ok s")
	h, _, _ := pair.History(l)
	ops := 0
	for _, txn := range h.L {
		ops += len(txn.L)
	}
	if len(h.L) != log.Count(l, api.EBegin) || ops != log.Count(l, api.ERead)+log.Count(l, api.EWrite) {
		t.Errorf("%d transactions, %d ops", len(h.L), ops)
	}
}
