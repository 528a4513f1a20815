package wr_test

import (
	"reflect"
	"slices"
	"strings"
	"testing"

	"deemster/api"
	"deemster/inner"
	"deemster/sample"
	"deemster/wr"
	"deemster/writer"
)

// small has four reads that count: 3:0, 3:1, 3:4 and 4:0.
var small = sample.Of("begin a, write a x 1, ok a, begin b, write b x 2, write b x 1, write b y 5, ok b, begin a, write a x 1, fail a," +
	"begin c, read c x 1, read c y nil, write c x 1, read c x 1, read c z nil, ok c, begin d, read d x 1, ok d, begin e, read e x 1, fail e, begin f, write f y 5, write f z 6, ok f")

// partial histories are not whole.
var partial = []api.History{
	sample.Of("begin a, write a x 1, ok a, begin b, read b x 1, info b"), sample.Of("begin a, read a x ?, ok a"), sample.Of("begin a, read a x ?, fail a"),
	{Sessions: []string{"s"}},
}

func TestReadsAndChoices(t *testing.T) {
	places := []api.Place{{Txn: 3, Op: 0}, {Txn: 3, Op: 1}, {Txn: 3, Op: 4}, {Txn: 4, Op: 0}}
	if got := wr.Reads(small); !slices.Equal(got, places) {
		t.Errorf("Reads: %v", got)
	}
	want := [][]int{{0, 1}, {-1}, {-1}, {0, 1, 3}}
	if got := wr.Choices(small); !reflect.DeepEqual(got, want) {
		t.Errorf("Choices: %v", got)
	}
	if got := wr.Choices(sample.Of("begin a, read a x 4, ok a, begin a, write a x 4, write a x 5, ok a")); len(got) != 1 || len(got[0]) > 0 {
		t.Errorf("what nobody leaves: %v", got)
	}
}

func TestIs(t *testing.T) {
	for _, right := range [][]int{{0, -1, -1, 0}, {1, -1, -1, 3}} {
		if !wr.Is(small, right) {
			t.Errorf("%v is a map", right)
		}
	}
	for _, wrong := range [][]int{nil, {0, -1, -1}, {0, -1, -1, 0, 0}, {3, -1, -1, 0}, {2, -1, -1, 0}, {0, 1, -1, 0}, {0, -1, 5, 0}, {0, -1, -1, 4}, {-1, -1, -1, 0}, {0, -1, -1, 1 << 62}} {
		if wr.Is(small, wrong) {
			t.Errorf("%v is no map", wrong)
		}
		if m, is := wr.Next(small, wrong); len(m) > 0 || is {
			t.Errorf("behind %v, which is no map: %v %v", wrong, m, is)
		}
	}
	if empty := sample.Of("begin a, write a x 1, ok a"); !wr.Is(empty, nil) || wr.Is(empty, []int{-1}) {
		t.Error("without reads the empty list is the map")
	}
}

func TestFirstNextCount(t *testing.T) {
	m, e := wr.First(small)
	for i, want := range [][]int{{0, -1, -1, 0}, {0, -1, -1, 1}, {0, -1, -1, 3}, {1, -1, -1, 0}, {1, -1, -1, 1}, {1, -1, -1, 3}} {
		if !slices.Equal(m, want) || e != api.OK {
			t.Errorf("map %d: %v %v, want %v", i, m, e, want)
		}
		was := slices.Clone(m)
		next, is := wr.Next(small, m)
		if is != (i < 5) || !slices.Equal(m, was) || !is && len(next) > 0 {
			t.Errorf("behind map %d: %v %v", i, next, is)
		}
		m = next
	}
	for text, want := range map[string]int{
		"": 1, "begin s, ok s": 1, "begin s, read s x 1, ok s": 0, "begin s, read s x nil, ok s": 1, "begin s, read s x 7, fail s": 1,
		"begin a, write a x 1, ok a, begin b, write b x 1, ok b, begin c, read c x 1, ok c": 2,
	} {
		if got := wr.Count(sample.Of(text)); got != want {
			t.Errorf("Count of %q: %d, want %d", text, got, want)
		}
	}
	if m, e := wr.First(sample.Of("begin s, ok s")); len(m) > 0 || e != api.OK {
		t.Errorf("First without reads: %v %v", m, e)
	}
	if m, e := wr.First(sample.Of("begin s, read s x nil, read s y 1, ok s")); len(m) > 0 || e != api.ErrNone {
		t.Errorf("First with a read that nobody wrote: %v %v", m, e)
	}
}

func TestCountMany(t *testing.T) {
	two := strings.Repeat("begin s,write s x 1,ok s,", 2)
	reads := func(n int) string { return "begin t," + strings.Repeat("read t x 1,", n) + "ok t," }
	for _, c := range []struct {
		text string
		want int
	}{
		{two + reads(19), 1 << 19},
		{two + reads(20), 1_000_000},
		{two + reads(20) + reads(20), 1_000_000},
		{two + reads(20) + "begin u,read u x 5,ok u", 0},
		{two + "begin a,read a x 5,ok a," + reads(20), 0},
	} {
		if got := wr.Count(sample.Of(c.text)); got != c.want {
			t.Errorf("Count: %d, want %d", got, c.want)
		}
	}
}

func TestOfWhatIsNotWhole(t *testing.T) {
	for _, h := range partial {
		if len(wr.Reads(h))+len(wr.Choices(h)) > 0 || wr.Is(h, nil) || wr.Is(h, []int{0}) || wr.Count(h) != 0 {
			t.Errorf("%v is not whole", h)
		}
		if m, e := wr.First(h); len(m) > 0 || e != api.ErrForm {
			t.Errorf("First: %v %v", m, e)
		}
		if m, is := wr.Next(h, nil); len(m) > 0 || is {
			t.Errorf("Next: %v %v", m, is)
		}
	}
	two := sample.Of("begin a, write a x 1, ok a, begin b, write b x 1, ok b, begin c, read c x 1, ok c, begin d, info d")
	if m, is := wr.Next(two, []int{0}); len(m) > 0 || is || wr.Is(two, []int{0}) {
		t.Errorf("Next: %v %v", m, is)
	}
}

func TestFromFirstOnComeAll(t *testing.T) {
	for n := range 300 {
		h := sample.History(n, sample.Shape{Sessions: 3, Keys: 2, Txns: 6, Ops: 4, Values: 2})
		var places []api.Place
		want := 1
		for i, txn := range h.L {
			for k := range txn.L {
				if p := (api.Place{Txn: i, Op: k}); txn.Fate == api.FOk && inner.Outer(h, p) {
					places = append(places, p)
					want *= len(writer.Of(h, p))
				}
			}
		}
		all := wr.Choices(h)
		if !slices.Equal(wr.Reads(h), places) || len(all) != len(places) || wr.Count(h) != want {
			t.Fatalf("%v: reads %v, %d maps, want %d", h, wr.Reads(h), wr.Count(h), want)
		}
		for i, p := range places {
			if !slices.Equal(all[i], writer.Of(h, p)) {
				t.Fatalf("%v: choices of %v: %v", h, p, all[i])
			}
		}
		m, e := wr.First(h)
		if (e == api.ErrNone) != (want == 0) {
			t.Fatalf("%v: First %v", h, e)
		}
		for i, is := 0, want > 0; is; i++ {
			if !wr.Is(h, m) {
				t.Fatalf("%v: %v is no map", h, m)
			}
			var next []int
			if next, is = wr.Next(h, m); is && slices.Compare(m, next) >= 0 || is != (i < want-1) {
				t.Fatalf("%v: behind %v %v %v", h, m, next, is)
			}
			m = next
		}
	}
}
