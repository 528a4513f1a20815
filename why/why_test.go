package why_test

import (
	"reflect"
	"slices"
	"testing"

	"deemster/api"
	"deemster/decide"
	"deemster/inner"
	"deemster/sample"
	"deemster/satur"
	"deemster/whole"
	"deemster/why"
	"deemster/wr"
)

var levels = []int{api.RC, api.CC, api.SER}

func TestKinds(t *testing.T) {
	if why.Bad != 1 || why.Nobody != 2 || why.Round != 3 || why.Many != 4 {
		t.Errorf("%d %d %d %d", why.Bad, why.Nobody, why.Round, why.Many)
	}
}

func TestNot(t *testing.T) {
	const update = "begin s, read s x nil, write s x 1, ok s, begin t, read t x nil, write t x 2, ok t"
	const behind = "begin s, write s x 1, ok s, begin s, read s x nil, ok s"
	for _, c := range []struct {
		what, text string
		level      int
		want       why.Reason
		s          string
		e          api.Errno
	}{
		{"a bad read", "begin s, write s x 1, read s x 2, ok s", api.RC, why.Reason{Kind: why.Bad, Place: api.Place{Op: 1}}, "bad read 0:1", api.OK},
		{"the first bad read of one that committed", "begin s, write s x 1, read s x 2, fail s, begin t, read t y 1, write t x 1, read t x 1, read t x 2, read t x 3, ok t, begin s, write s x 1, read s x 2, ok s",
			api.SER, why.Reason{Kind: why.Bad, Place: api.Place{Txn: 1, Op: 3}}, "bad read 1:3", api.OK},
		{"nobody wrote it", "begin s, read s x 9, ok s", api.CC, why.Reason{Kind: why.Nobody}, "nobody wrote 0:0", api.OK},
		{"the first that nobody wrote", "begin s, read s x 9, fail s, begin s, read s x nil, read s x 9, read s x 8, ok s", api.SER, why.Reason{Kind: why.Nobody, Place: api.Place{Txn: 1, Op: 1}}, "nobody wrote 1:1", api.OK},
		{"a bad read ahead of a ring", behind + ", begin t, write t x 1, read t x 2, ok t", api.CC, why.Reason{Kind: why.Bad, Place: api.Place{Txn: 2, Op: 1}}, "bad read 2:1", api.OK},
		{"nobody ahead of a ring", behind + ", begin t, read t x 7, ok t", api.CC, why.Reason{Kind: why.Nobody, Place: api.Place{Txn: 2}}, "nobody wrote 2:0", api.OK},
		{"a ring by CC", behind, api.CC, why.Reason{Kind: why.Round, Ring: []int{0, 2}}, "ring 0 start", api.OK},
		{"a ring by SER", behind, api.SER, why.Reason{Kind: why.Round, Ring: []int{0, 2}}, "ring 0 start", api.OK},
		{"none by RC", behind, api.RC, why.Reason{}, "", api.ErrNone},
		{"a ring by RC", "begin s, write s x 1, read s y 1, ok s, begin t, write t y 1, read t x 1, ok t", api.RC, why.Reason{Kind: why.Round, Ring: []int{0, 1}}, "ring 0 1", api.OK},
		{"no order", update, api.SER, why.Reason{Kind: why.Many}, "no order", api.OK},
		{"it holds", update, api.CC, why.Reason{}, "", api.ErrNone},
		{"the first map goes round, the next one does not", "begin a, write a x 1, ok a, begin a, write a x 1, ok a, begin a, read a x 1, ok a", api.CC, why.Reason{}, "", api.ErrNone},
		{"no level", update, 0, why.Reason{}, "", api.ErrArg},
		{"no level, too", update, 4, why.Reason{}, "", api.ErrArg},
		{"not whole", "begin s, info s", api.RC, why.Reason{}, "", api.ErrForm},
		{"not whole, no level", "begin s, read s x ?, ok s", 9, why.Reason{}, "", api.ErrForm},
	} {
		h := sample.Of(c.text)
		got, e := why.Not(c.level, h)
		if !reflect.DeepEqual(got, c.want) || e != c.e {
			t.Errorf("%s: %v %v, want %v %v", c.what, got, e, c.want, c.e)
		}
		if s := why.Text(h, got); s != c.s {
			t.Errorf("%s: %q, want %q", c.what, s, c.s)
		}
	}
}

func TestText(t *testing.T) {
	h := sample.Of("begin s, ok s, begin s, ok s")
	for want, r := range map[string]why.Reason{
		"bad read 12:0":    {Kind: why.Bad, Place: api.Place{Txn: 12}, Ring: []int{1}},
		"nobody wrote 0:7": {Kind: why.Nobody, Place: api.Place{Op: 7}},
		"ring 1 start 10":  {Kind: why.Round, Ring: []int{1, 2, 10}},
		"ring":             {Kind: why.Round, Place: api.Place{Txn: 1}},
		"no order":         {Kind: why.Many, Ring: []int{4}},
	} {
		if got := why.Text(h, r); got != want {
			t.Errorf("%v: %q, want %q", r, got, want)
		}
	}
	for _, kind := range []int{0, 5, -1, 1 << 62} {
		if got := why.Text(h, why.Reason{Kind: kind, Ring: []int{1}}); got != "" {
			t.Errorf("kind %d: %q", kind, got)
		}
	}
	if got := why.Text(api.History{}, why.Reason{Kind: why.Round, Ring: []int{0}}); got != "ring start" {
		t.Errorf("%q", got)
	}
}

func TestThereIsAReasonJustIfItDoesNotHold(t *testing.T) {
	kinds := map[int]int{}
	for n := range 1200 {
		h := sample.History(n, sample.Shape{Sessions: 3, Keys: 2, Txns: 5, Ops: 4, Values: 2})
		for _, level := range levels {
			holds, _ := decide.Plain(level, h)
			r, e := why.Not(level, h)
			if (e == api.ErrNone) != holds || e == api.OK && holds {
				t.Fatalf("%v: level %d: %v %v, holds %v", h, level, r, e, holds)
			}
			if want := first(level, h); !holds && !reflect.DeepEqual(r, want) {
				t.Fatalf("%v: level %d: %v, want %v", h, level, r, want)
			}
			kinds[r.Kind]++
		}
	}
	for kind := why.Bad; kind <= why.Many; kind++ {
		if kinds[kind] == 0 {
			t.Errorf("kind %d was never told", kind)
		}
	}
}

// first tells the first reason of one for which the level does not hold.
func first(level int, h api.History) why.Reason {
	for _, i := range whole.Committed(h) {
		if l := inner.Bad(h, i); len(l) > 0 {
			return why.Reason{Kind: why.Bad, Place: api.Place{Txn: i, Op: l[0]}}
		}
	}
	all := wr.Choices(h)
	if i := slices.IndexFunc(all, func(l []int) bool { return len(l) == 0 }); i >= 0 {
		return why.Reason{Kind: why.Nobody, Place: wr.Reads(h)[i]}
	}
	m, _ := wr.First(h)
	if l, e := satur.Ring(min(level, api.CC), h, m); e == api.OK {
		return why.Reason{Kind: why.Round, Ring: l}
	}
	return why.Reason{Kind: why.Many}
}
