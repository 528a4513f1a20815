package front_test

import (
	"slices"
	"strings"
	"testing"

	"deemster/api"
	"deemster/axiom"
	"deemster/front"
	"deemster/inner"
	"deemster/sample"
	"deemster/whole"
	"deemster/wr"
)

func TestOrder(t *testing.T) {
	const update = "begin s, read s x nil, write s x 1, ok s, begin t, read t x nil, write t x 2, ok t"
	for _, c := range []struct {
		what, text string
		m          []int
		most       int
		want       []int
		nodes      int
		e          api.Errno
	}{
		{"nothing", "", nil, 1, nil, 1, api.OK},
		{"nothing, no nodes", "", nil, 0, nil, 0, api.ErrSpent},
		{"one that reads nil", "begin s, read s x nil, ok s", []int{-1}, 9, []int{0}, 2, api.OK},
		{"just enough nodes", "begin s, read s x nil, ok s", []int{-1}, 2, []int{0}, 2, api.OK},
		{"one too few", "begin s, read s x nil, ok s", []int{-1}, 1, nil, 1, api.ErrSpent},
		{"two that read the same", update, []int{-1, -1}, 9, nil, 1, api.ErrNone},
		{"two that read the same, no nodes", update, []int{-1, -1}, 0, nil, 0, api.ErrSpent},
		{"two that read the same, one node", update, []int{-1, -1}, 1, nil, 1, api.ErrNone},
		{"failed ones count nothing", "begin s, write s x 1, fail s, begin t, read t x nil, ok t, begin t, fail t", []int{-1}, 9, []int{1}, 2, api.OK},
		{"the second one first", "begin s, read s x 1, ok s, begin t, write t x 1, ok t", []int{1}, 9, []int{1, 0}, 3, api.OK},
		{"back from a state", "begin a, write a x 1, ok a, begin b, write b x 2, ok b, begin c, read c x 1, read c y nil, ok c, begin d, write d y 1, ok d, begin c, read c x 1, read c y 1, ok c", []int{0, -1, 0, 3}, 99,
			[]int{0, 2, 3, 4, 1}, 6, api.OK},
		{"states from which nothing goes on", "begin a, write a x 1, ok a, begin b, write b x 2, ok b, begin c, read c x 1, read c y 1, ok c, begin d, read d x 2, write d y 1, ok d", []int{0, 3, 1}, 99,
			[]int{1, 3, 0, 2}, 6, api.OK},
	} {
		got, nodes, e := front.Order(sample.Of(c.text), c.m, c.most)
		if !slices.Equal(got, c.want) || nodes != c.nodes || e != c.e {
			t.Errorf("%s: %v %d %v, want %v %d %v", c.what, got, nodes, e, c.want, c.nodes, c.e)
		}
	}
}

func TestWrong(t *testing.T) {
	h := sample.Of("begin a, write a x 1, ok a, begin b, read b x 1, ok b")
	partial := sample.Of("begin a, write a x 1, info a")
	for _, c := range []struct {
		h    api.History
		m    []int
		most int
		want api.Errno
	}{
		{h, nil, 9, api.ErrArg}, {h, []int{-1}, 9, api.ErrArg}, {h, []int{0, 0}, 0, api.ErrArg}, {h, []int{0}, -1, api.ErrArg}, {h, []int{0}, -1 << 63, api.ErrArg},
		{partial, nil, 9, api.ErrForm}, {partial, []int{3}, -1, api.ErrForm}, {api.History{Keys: []string{"x"}}, nil, 0, api.ErrForm},
	} {
		if got, nodes, e := front.Order(c.h, c.m, c.most); len(got) > 0 || nodes != 0 || e != c.want {
			t.Errorf("Order(%v, %d): %v %d %v", c.m, c.most, got, nodes, e)
		}
	}
	if front.May(h, nil, nil, 0) || front.May(h, []int{-1}, nil, 0) || front.May(partial, nil, nil, 0) {
		t.Error("May of no map, and of what is not whole")
	}
}

func TestMay(t *testing.T) {
	// 0 and 2 are of one session, 3 failed; 1 reads nil of x, 4 reads what 0 wrote of x.
	h := sample.Of("begin s, write s x 1, ok s, begin t, read t x nil, write t x 5, ok t, begin s, write s y 1, ok s, begin u, write u x 7, fail u, begin v, read v x 1, ok v")
	m := []int{-1, 0}
	for _, c := range []struct {
		state []int
		may   []int
	}{
		{nil, []int{1}},             // 0 would write ahead of 1, which reads nil
		{[]int{3, 9, -1}, []int{1}}, // none of these is in the state
		{[]int{1}, []int{0}},        // 2 comes behind 0, and 4 reads of 0
		{[]int{1, 1, 0, 3}, []int{2, 4}},
		{[]int{0}, []int{2, 4}}, // 1 writes what 4 reads of 0
		{[]int{0, 4}, []int{1, 2}},
		{[]int{0, 1, 2, 4}, nil},
	} {
		for txn := -2; txn < 7; txn++ {
			if got := front.May(h, m, c.state, txn); got != slices.Contains(c.may, txn) {
				t.Errorf("May of %d in %v: %v", txn, c.state, got)
			}
		}
	}
	if front.May(h, m, nil, 1<<62) || front.May(h, m, []int{1 << 62, -1 << 63}, -1<<63) {
		t.Error("there are no such transactions")
	}
}

func TestManyNodes(t *testing.T) {
	var b strings.Builder
	for i := range 16 {
		b.WriteString("begin s" + string(rune('a'+i)) + ",write s" + string(rune('a'+i)) + " k" + string(rune('a'+i)) + " 1,ok s" + string(rune('a'+i)) + ",")
	}
	// Two that read one another make that there is no order, once all others stand in whatever order.
	h := sample.Of(b.String() + "begin y,read y y 1,write y z 1,ok y,begin z,read z z 1,write z y 1,ok z")
	m := []int{17, 16}
	if got, nodes, e := front.Order(h, m, 1<<20); len(got) > 0 || nodes != 1<<16 || e != api.ErrNone {
		t.Errorf("%v %d %v", got, nodes, e)
	}
	if got, nodes, e := front.Order(h, m, 1<<16-1); len(got) > 0 || nodes != 1<<16-1 || e != api.ErrSpent {
		t.Errorf("%v %d %v", got, nodes, e)
	}
}

func TestFull(t *testing.T) {
	var b strings.Builder
	for i := range api.MaxTxns {
		b.WriteString("begin s" + string(rune('a'+i%20)) + ",read s" + string(rune('a'+i%20)) + " x nil,ok s" + string(rune('a'+i%20)) + ",")
	}
	h := sample.Of(b.String())
	m := slices.Repeat([]int{-1}, api.MaxTxns)
	got, nodes, e := front.Order(h, m, 1000)
	if len(got) != api.MaxTxns || nodes != api.MaxTxns+1 || e != api.OK {
		t.Errorf("%v %d %v", got, nodes, e)
	}
}

// visits tells the nodes and the order by the words alone, with states as sorted texts.
func visits(h api.History, m, committed []int) (int, []int) {
	visited := map[string]int{}
	var from func(state []int) []int
	from = func(state []int) []int {
		visited[name(state)] = 1
		if len(state) == len(committed) {
			return state
		}
		for _, t := range committed {
			if more := append(slices.Clone(state), t); front.May(h, m, state, t) && visited[name(more)] == 0 {
				if o := from(more); o != nil {
					return o
				}
			}
		}
		return nil
	}
	order := from([]int{})
	return len(visited), order
}

func name(state []int) string {
	s := slices.Clone(state)
	slices.Sort(s)
	var b strings.Builder
	for _, t := range s {
		b.WriteRune(rune('a' + t))
	}
	return b.String()
}

func TestTheOrderIsTheLeastByWhichSERHolds(t *testing.T) {
	some, none := 0, 0
	for n := range 900 {
		h := sample.History(n, sample.Shape{Sessions: 4, Keys: 2, Txns: 5, Ops: 3, Values: 2})
		committed := whole.Committed(h)
		fair := !slices.ContainsFunc(committed, func(i int) bool { return len(inner.Bad(h, i)) > 0 })
		m, e := wr.First(h)
		for is := e == api.OK; is; m, is = wr.Next(h, m) {
			got, nodes, e := front.Order(h, m, 1<<10)
			var want []int
			for _, o := range sample.Orders(committed) {
				if holds, _ := axiom.Holds(api.SER, h, m, o); holds && want == nil {
					want = o
				}
			}
			if fair && ((e == api.OK) != (want != nil) || !slices.Equal(got, want)) {
				t.Fatalf("%v by %v: %v %v, want %v", h, m, got, e, want)
			}
			count, order := visits(h, m, committed)
			if nodes != count || !slices.Equal(got, order) || nodes > 1<<len(committed) {
				t.Fatalf("%v by %v: %v, %d nodes, want %v, %d", h, m, got, nodes, order, count)
			}
			for most := range nodes {
				if l, n, e := front.Order(h, m, most); len(l) > 0 || n != most || e != api.ErrSpent {
					t.Fatalf("%v by %v with %d nodes: %v %d %v", h, m, most, l, n, e)
				}
			}
			if e == api.OK {
				some++
			} else {
				none++
			}
		}
	}
	if some == 0 || none == 0 {
		t.Errorf("%d orders, %d without", some, none)
	}
}
