package decide_test

import (
	"slices"
	"testing"

	"deemster/api"
	"deemster/axiom"
	"deemster/cert"
	"deemster/decide"
	"deemster/front"
	"deemster/inner"
	"deemster/sample"
	"deemster/whole"
	"deemster/wr"
)

var levels = []int{api.RC, api.CC, api.SER}

func same(a, b api.Cert) bool { return slices.Equal(a.Wr, b.Wr) && slices.Equal(a.Co, b.Co) }

func TestLevel(t *testing.T) {
	const update = "begin s, read s x nil, write s x 1, ok s, begin t, read t x nil, write t x 2, ok t"
	const two = "begin a, write a x 1, ok a, begin b, write b x 1, ok b, begin c, read c x 1, read c x 1, ok c, begin a, write a x 2, ok a"
	const badTwice = "begin a, write a x 1, read a x 2, ok a, begin b, write b y 1, ok b, begin c, write c y 1, ok c, begin d, read d y 1, ok d"
	for _, c := range []struct {
		what, text string
		level      int
		most       int
		cert       api.Cert
		holds      bool
		nodes      int
		e          api.Errno
	}{
		{"nothing", "", api.RC, 1, api.Cert{}, true, 1, api.OK},
		{"nothing", "", api.SER, 1, api.Cert{}, true, 1, api.OK},
		{"nothing, no nodes", "", api.CC, 0, api.Cert{}, false, 0, api.ErrSpent},
		{"nobody wrote it", "begin s, read s x 9, ok s", api.RC, 9, api.Cert{}, false, 1, api.OK},
		{"nobody wrote it", "begin s, read s x 9, ok s", api.SER, 1, api.Cert{}, false, 1, api.OK},
		{"nobody wrote it, no nodes", "begin s, read s x 9, ok s", api.SER, 0, api.Cert{}, false, 0, api.ErrSpent},
		{"a bad read", badTwice, api.CC, 9, api.Cert{}, false, 1, api.OK},
		{"a bad read", badTwice, api.SER, 1, api.Cert{}, false, 1, api.OK},
		{"a bad read, no nodes", badTwice, api.CC, 0, api.Cert{}, false, 0, api.ErrSpent},
		{"two that read the same", update, api.CC, 9, api.Cert{Wr: []int{-1, -1}, Co: []int{0, 1}}, true, 1, api.OK},
		{"two that read the same", update, api.SER, 9, api.Cert{}, false, 1, api.OK},
		{"one order", "begin s, read s x nil, ok s", api.SER, 2, api.Cert{Wr: []int{-1}, Co: []int{0}}, true, 2, api.OK},
		{"one order, a node too few", "begin s, read s x nil, ok s", api.SER, 1, api.Cert{}, false, 1, api.ErrSpent},
		{"the first map", two, api.RC, 9, api.Cert{Wr: []int{0, 0}, Co: []int{0, 1, 2, 3}}, true, 1, api.OK},
		{"one behind that reads", two, api.SER, 99, api.Cert{Wr: []int{0, 0}, Co: []int{0, 2, 1, 3}}, true, 5, api.OK},
		{"maps one by one", "begin a, write a x 1, ok a, begin a, write a x 1, ok a, begin a, read a x 1, ok a", api.CC, 9, api.Cert{Wr: []int{1}, Co: []int{0, 1, 2}}, true, 2, api.OK},
		{"maps one by one, a node too few", "begin a, write a x 1, ok a, begin a, write a x 1, ok a, begin a, read a x 1, ok a", api.CC, 1, api.Cert{}, false, 1, api.ErrSpent},
		{"maps one by one, by SER", "begin a, write a x 1, ok a, begin a, write a x 1, ok a, begin a, read a x 1, ok a", api.SER, 9, api.Cert{Wr: []int{1}, Co: []int{0, 1, 2}}, true, 6, api.OK},
		{"maps one by one, by SER, a node too few", "begin a, write a x 1, ok a, begin a, write a x 1, ok a, begin a, read a x 1, ok a", api.SER, 5, api.Cert{}, false, 5, api.ErrSpent},
	} {
		got, holds, nodes, e := decide.Level(c.level, sample.Of(c.text), c.most)
		if !same(got, c.cert) || holds != c.holds || nodes != c.nodes || e != c.e {
			t.Errorf("%s, level %d, %d nodes: %v %v %d %v, want %v %v %d %v", c.what, c.level, c.most, got, holds, nodes, e, c.cert, c.holds, c.nodes, c.e)
		}
	}
}

func TestWrong(t *testing.T) {
	h, partial := sample.Of("begin s, ok s"), sample.Of("begin s, info s")
	for _, c := range []struct {
		level int
		h     api.History
		most  int
		want  api.Errno
	}{
		{0, h, 9, api.ErrArg}, {4, h, 9, api.ErrArg}, {api.RC, h, -1, api.ErrArg}, {api.SER, h, -1 << 63, api.ErrArg},
		{api.RC, partial, 9, api.ErrForm}, {0, partial, -1, api.ErrForm}, {7, api.History{Keys: []string{"x"}}, 0, api.ErrForm},
	} {
		if got, holds, nodes, e := decide.Level(c.level, c.h, c.most); !same(got, api.Cert{}) || holds || nodes != 0 || e != c.want {
			t.Errorf("Level(%d, .., %d): %v %v %d %v", c.level, c.most, got, holds, nodes, e)
		}
		if c.most >= 0 {
			if holds, e := decide.Plain(c.level, c.h); holds || e != c.want {
				t.Errorf("Plain(%d, ..): %v %v", c.level, holds, e)
			}
		}
	}
}

// plain goes through maps and orders by what the level asks, and counts the nodes.
func plain(level int, h api.History) (bool, int) {
	committed := whole.Committed(h)
	bad := slices.ContainsFunc(committed, func(i int) bool { return len(inner.Bad(h, i)) > 0 })
	m, e := wr.First(h)
	if bad || e != api.OK {
		return false, 1
	}
	nodes := 0
	for is := true; is; m, is = wr.Next(h, m) {
		if level == api.SER {
			_, n, _ := front.Order(h, m, 1<<30)
			nodes += n
		} else {
			nodes++
		}
		for _, o := range sample.Orders(committed) {
			if holds, _ := axiom.Holds(level, h, m, o); holds {
				return true, nodes
			}
		}
	}
	return false, nodes
}

func TestAgainstAllMapsAndOrders(t *testing.T) {
	told := map[bool]int{}
	for n := range 700 {
		h := sample.History(n, sample.Shape{Sessions: 3, Keys: 2, Txns: 5, Ops: 3, Values: 2})
		for _, level := range levels {
			want, count := plain(level, h)
			got, holds, nodes, e := decide.Level(level, h, 1<<20)
			if holds != want || nodes != count || e != api.OK || cert.Right(level, h, got) != holds {
				t.Fatalf("%v: level %d: %v %v %d %v, want %v %d", h, level, got, holds, nodes, e, want, count)
			}
			if !holds && !same(got, api.Cert{}) {
				t.Fatalf("%v: level %d: a no with %v", h, level, got)
			}
			if p, e := decide.Plain(level, h); p != want || e != api.OK {
				t.Fatalf("%v: level %d: Plain %v %v", h, level, p, e)
			}
			for most := range nodes + 2 {
				c, is, took, e := decide.Level(level, h, most)
				if most < nodes && (e != api.ErrSpent || took != most || is || !same(c, api.Cert{})) || most >= nodes && (e != api.OK || took != nodes || is != holds || !same(c, got)) {
					t.Fatalf("%v: level %d with %d nodes: %v %v %d %v", h, level, most, c, is, took, e)
				}
			}
			told[holds]++
		}
	}
	if told[true] == 0 || told[false] == 0 {
		t.Errorf("%v", told)
	}
}
