package hist_test

import (
	"fmt"
	"slices"
	"testing"

	"deemster/api"
	"deemster/hist"
)

func number(n int64) api.Value { return api.Value{Kind: api.VInt, N: n} }

var lost = api.Value{Kind: api.VLost}

// small makes a history that may be: of two sessions, two keys, four transactions.
func small() api.History {
	return api.History{
		Sessions: []string{"s", "t"},
		Keys:     []string{"x", "y"},
		L: []api.Txn{
			{Session: 1, Fate: api.FInfo, L: []api.Op{{Key: 0, V: lost}, {Write: true, Key: 1, V: number(-3)}, {Key: 1, V: lost}}},
			{Session: 0, Fate: api.FOk, L: []api.Op{{Key: 1}}},
			{Session: 1, Fate: api.FFail, L: []api.Op{{Key: 0, V: number(7)}, {Key: 0, V: lost}}},
			{Session: 1, Fate: api.FInfo},
		},
	}
}

// spoilt has changes by which a history may not be.
var spoilt = map[string]func(h *api.History){
	"sessions are no table":     func(h *api.History) { h.Sessions = []string{"t", "s"} },
	"a session is no name":      func(h *api.History) { h.Sessions[1] = "1" },
	"a session twice":           func(h *api.History) { h.Sessions[1] = "s" },
	"keys are no table":         func(h *api.History) { h.Keys = []string{"y", "x"} },
	"a key is no name":          func(h *api.History) { h.Keys[0] = "ok" },
	"a session without any":     func(h *api.History) { h.Sessions = append(h.Sessions, "u") },
	"a key without any":         func(h *api.History) { h.Keys = append(h.Keys, "z") },
	"a session ahead of all":    func(h *api.History) { h.L[0].Session = -1 },
	"a session behind all":      func(h *api.History) { h.L[0].Session = 2 },
	"no fate":                   func(h *api.History) { h.L[0].Fate = 0 },
	"a fate too great":          func(h *api.History) { h.L[3].Fate = 4 },
	"a key ahead of all":        func(h *api.History) { h.L[1].L[0].Key = -1 },
	"a key behind all":          func(h *api.History) { h.L[1].L[0].Key = 2 },
	"a write of nil":            func(h *api.History) { h.L[0].L[1].V = api.Value{} },
	"a write of a lost value":   func(h *api.History) { h.L[0].L[1].V = lost },
	"a read of no value":        func(h *api.History) { h.L[1].L[0].V.Kind = 3 },
	"a nil with a number":       func(h *api.History) { h.L[1].L[0].V.N = 1 },
	"a lost one with a number":  func(h *api.History) { h.L[0].L[0].V.N = 1 },
	"no sessions":               func(h *api.History) { h.Sessions = nil },
	"no keys":                   func(h *api.History) { h.Keys = nil },
	"no transactions":           func(h *api.History) { h.L = nil },
	"a session's last one away": func(h *api.History) { h.L[1].Session = 1 },
}

func TestMay(t *testing.T) {
	if e := hist.May(small()); e != api.OK {
		t.Errorf("it may be: %v", e)
	}
	if e := hist.May(api.History{}); e != api.OK {
		t.Errorf("the empty one may be: %v", e)
	}
	for what, spoil := range spoilt {
		h := small()
		spoil(&h)
		if e := hist.May(h); e != api.ErrForm {
			t.Errorf("%s: %v", what, e)
		}
		if len(hist.Session(h, 0))+len(hist.Session(h, 1))+len(hist.Infos(h))+len(hist.Lost(h)) > 0 {
			t.Errorf("%s: something is told", what)
		}
		if hist.Ahead(h, 0, 2) || hist.Same(h, h) || hist.Same(h, small()) || hist.Same(small(), h) {
			t.Errorf("%s: Ahead or Same", what)
		}
	}
}

// great makes a history of so many sessions, keys, transactions, and ops of the last one.
func great(sessions, keys, txns, ops int) api.History {
	h := api.History{L: make([]api.Txn, txns)}
	for i := range sessions {
		h.Sessions = append(h.Sessions, fmt.Sprintf("s%02d", i))
	}
	for i := range h.L {
		h.L[i] = api.Txn{Session: i % sessions, Fate: api.FOk}
	}
	for i := range keys {
		h.Keys = append(h.Keys, fmt.Sprintf("k%02d", i))
		h.L[i/20].L = append(h.L[i/20].L, api.Op{Key: i})
	}
	h.L[txns-1].L = slices.Repeat([]api.Op{{Write: true, Key: keys - 1, V: number(1)}}, ops)
	return h
}

func TestLimits(t *testing.T) {
	for _, c := range []struct {
		h    api.History
		want api.Errno
	}{
		{great(api.MaxSessions, api.MaxKeys, api.MaxTxns, api.MaxOps), api.OK},
		{great(api.MaxSessions+1, 1, api.MaxTxns, 1), api.ErrForm},
		{great(1, api.MaxKeys+1, api.MaxTxns, 1), api.ErrForm},
		{great(1, 1, api.MaxTxns+1, 1), api.ErrForm},
		{great(1, 1, 2, api.MaxOps+1), api.ErrForm},
		{great(1, 1, 2, api.MaxOps), api.OK},
	} {
		if e := hist.May(c.h); e != c.want {
			t.Errorf("%d sessions, %d keys, %d transactions: %v, want %v", len(c.h.Sessions), len(c.h.Keys), len(c.h.L), e, c.want)
		}
	}
}

func TestLists(t *testing.T) {
	h := small()
	for s, want := range map[int][]int{0: {1}, 1: {0, 2, 3}, 2: nil, -1: nil, 1 << 62: nil} {
		if got := hist.Session(h, s); !slices.Equal(got, want) {
			t.Errorf("Session(%d): %v", s, got)
		}
	}
	if got := hist.Infos(h); !slices.Equal(got, []int{0, 3}) {
		t.Errorf("Infos: %v", got)
	}
	if got := hist.Lost(h); !slices.Equal(got, []api.Place{{Txn: 0, Op: 0}, {Txn: 0, Op: 2}, {Txn: 2, Op: 1}}) {
		t.Errorf("Lost: %v", got)
	}
	if len(hist.Infos(api.History{}))+len(hist.Lost(api.History{}))+len(hist.Session(api.History{}, 0)) > 0 {
		t.Error("the empty history has none")
	}
}

func TestAhead(t *testing.T) {
	h := small()
	ahead := map[[2]int]int{{0, 2}: 1, {0, 3}: 1, {2, 3}: 1}
	for a := -2; a < 6; a++ {
		for b := -2; b < 6; b++ {
			if got := hist.Ahead(h, a, b); got != (ahead[[2]int{a, b}] == 1) {
				t.Errorf("Ahead(%d, %d): %v", a, b, got)
			}
		}
	}
	if hist.Ahead(h, -1<<63, 0) || hist.Ahead(h, 0, 1<<63-1) {
		t.Error("there is no such transaction")
	}
}

func TestSame(t *testing.T) {
	if !hist.Same(small(), small()) || !hist.Same(api.History{}, api.History{Sessions: []string{}, Keys: []string{}, L: []api.Txn{}}) {
		t.Error("a history is the same as itself")
	}
	with := small()
	with.L[3].L = []api.Op{}
	if !hist.Same(small(), with) {
		t.Error("no ops may be nil or empty")
	}
	for what, change := range map[string]func(h *api.History){
		"a session's name":   func(h *api.History) { h.Sessions[1] = "u" },
		"a key's name":       func(h *api.History) { h.Keys[0] = "a" },
		"a fate":             func(h *api.History) { h.L[3].Fate = api.FOk },
		"a session":          func(h *api.History) { h.L[3].Session = 0 },
		"a value":            func(h *api.History) { h.L[2].L[0].V.N = 8 },
		"a read and a write": func(h *api.History) { h.L[2].L[0].Write = true },
		"a key":              func(h *api.History) { h.L[2].L[0].Key = 1 },
		"a transaction less": func(h *api.History) { h.L = h.L[:3] },
		"an op less":         func(h *api.History) { h.L[2].L = h.L[2].L[:1] },
	} {
		h := small()
		change(&h)
		if hist.May(h) != api.OK || hist.Same(h, small()) || hist.Same(small(), h) {
			t.Errorf("%s: not the same", what)
		}
	}
}

func TestAheadGoesOnAndAllOfASessionAreIts(t *testing.T) {
	h := great(3, 4, 11, 2)
	n := 0
	for s := range h.Sessions {
		l := hist.Session(h, s)
		n += len(l)
		for i, a := range l {
			if h.L[a].Session != s {
				t.Errorf("%d is not of session %d", a, s)
			}
			for k, b := range l {
				if hist.Ahead(h, a, b) != (i < k) {
					t.Errorf("Ahead(%d, %d): %v", a, b, i >= k)
				}
			}
		}
	}
	if n != len(h.L) {
		t.Errorf("%d transactions of all sessions", n)
	}
}
