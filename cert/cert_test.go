package cert_test

import (
	"testing"

	"deemster/api"
	"deemster/axiom"
	"deemster/cert"
	"deemster/sample"
	"deemster/whole"
	"deemster/wr"
)

var levels = []int{api.RC, api.CC, api.SER}

func TestCheck(t *testing.T) {
	one := sample.Of("begin s, read s x nil, ok s")
	two := sample.Of("begin s, write s x 1, ok s, begin s, read s x nil, ok s")
	for _, c := range []struct {
		what  string
		level int
		h     api.History
		c     api.Cert
		want  api.Errno
	}{
		{"one that read nil", api.SER, one, api.Cert{Wr: []int{-1}, Co: []int{0}}, api.OK},
		{"nothing at all", api.SER, api.History{}, api.Cert{}, api.OK},
		{"no level", 0, one, api.Cert{Wr: []int{-1}, Co: []int{0}}, api.ErrArg},
		{"no level, no certificate", 4, one, api.Cert{}, api.ErrArg},
		{"not whole", api.RC, sample.Of("begin s, info s"), api.Cert{}, api.ErrForm},
		{"not whole, no level", -1, api.History{Keys: []string{"x"}}, api.Cert{}, api.ErrForm},
		{"no map", api.RC, one, api.Cert{Co: []int{0}}, api.ErrCert},
		{"another map", api.RC, one, api.Cert{Wr: []int{0}, Co: []int{0}}, api.ErrCert},
		{"a map too long", api.RC, one, api.Cert{Wr: []int{-1, -1}, Co: []int{0}}, api.ErrCert},
		{"no order", api.RC, one, api.Cert{Wr: []int{-1}}, api.ErrCert},
		{"an order too long", api.RC, one, api.Cert{Wr: []int{-1}, Co: []int{0, 0}}, api.ErrCert},
		{"an order of another one", api.RC, one, api.Cert{Wr: []int{-1}, Co: []int{1}}, api.ErrCert},
		{"an order of none", api.RC, one, api.Cert{Wr: []int{-1}, Co: []int{-1}}, api.ErrCert},
		{"by RC", api.RC, two, api.Cert{Wr: []int{-1}, Co: []int{0, 1}}, api.OK},
		{"not by CC", api.CC, two, api.Cert{Wr: []int{-1}, Co: []int{0, 1}}, api.ErrCert},
		{"not by SER", api.SER, two, api.Cert{Wr: []int{-1}, Co: []int{0, 1}}, api.ErrCert},
		{"sessions go on", api.RC, two, api.Cert{Wr: []int{-1}, Co: []int{1, 0}}, api.ErrCert},
		{"a bad read", api.RC, sample.Of("begin s, write s x 1, read s x 2, ok s"), api.Cert{Co: []int{0}}, api.ErrCert},
		{"an order that had failed ones", api.RC, sample.Of("begin s, ok s, begin s, fail s"), api.Cert{Co: []int{0, 1}}, api.ErrCert},
	} {
		if e := cert.Check(c.level, c.h, c.c); e != c.want {
			t.Errorf("%s: %v, want %v", c.what, e, c.want)
		}
		if got := cert.Right(c.level, c.h, c.c); got != (c.want == api.OK) {
			t.Errorf("%s: Right %v", c.what, got)
		}
	}
}

func TestCertificatesAreWhatHolds(t *testing.T) {
	right := map[int]int{}
	for n := range 900 {
		h := sample.History(n, sample.Shape{Sessions: 3, Keys: 2, Txns: 5, Ops: 3, Values: 2})
		m, e := wr.First(h)
		for is := e == api.OK; is; m, is = wr.Next(h, m) {
			for _, o := range sample.Orders(whole.Committed(h)) {
				was := true
				for _, level := range levels {
					want, _ := axiom.Holds(level, h, m, o)
					got := cert.Right(level, h, api.Cert{Wr: m, Co: o})
					if got != want || got && !was {
						t.Fatalf("%v by %v and %v: level %d: %v, want %v", h, m, o, level, got, want)
					}
					was = got
					if got {
						right[level]++
					}
				}
			}
		}
	}
	if right[api.SER] == 0 || right[api.CC] <= right[api.SER] || right[api.RC] <= right[api.CC] {
		t.Errorf("the levels were not told apart: %v", right)
	}
}
