package unit_test

import (
	"slices"
	"testing"

	"deemster/api"
	"deemster/decide"
	"deemster/hist"
	"deemster/inner"
	"deemster/sample"
	"deemster/unit"
	"deemster/whole"
	"deemster/world"
	"deemster/writer"
)

func TestMust(t *testing.T) {
	for _, c := range []struct {
		what, text string
		must, not  []int
		hopeless   bool
	}{
		{"nothing", "", nil, nil, false},
		{"read from", "begin s, write s x 1, info s, begin t, read t x 1, ok t", []int{0}, nil, false},
		{"not read from", "begin s, write s x 1, info s, begin t, read t x nil, ok t", nil, nil, false},
		{"read by one that may abort", "begin s, write s x 1, info s, begin t, read t x 1, info t", nil, nil, false},
		{"read by one that failed", "begin s, write s x 1, info s, begin t, read t x 1, fail t", nil, nil, false},
		{"over two", "begin s, write s x 1, info s, begin t, read t x 1, write t y 1, info t, begin u, read u y 1, ok u", []int{0, 1}, nil, false},
		{"of two one", "begin s, write s x 1, info s, begin t, write t x 1, info t, begin u, read u x 1, ok u", nil, nil, false},
		{"of two one that must not", "begin s, write s x 1, info s, begin t, write t x 1, read t x 2, info t, begin u, read u x 1, ok u", []int{0}, []int{1}, false},
		{"a bad read", "begin s, write s x 1, read s x 2, info s, begin s, ok s", nil, []int{0}, false},
		{"a read that nobody wrote", "begin s, read s x 1, info s", nil, []int{0}, false},
		{"a read that one that failed wrote", "begin s, write s x 1, fail s, begin s, read s x 1, info s", nil, []int{1}, false},
		{"a read of one that must not", "begin s, read s x 1, write s y 1, info s, begin t, read t y 1, info t, begin u, read u y nil, info u", nil, []int{0, 1}, false},
		{"a lost read tells nothing", "begin s, write s x 1, info s, begin t, read t x ?, ok t", nil, nil, false},
		{"an inner read tells nothing of others", "begin s, write s x 1, info s, begin t, write t x 1, read t x 1, ok t", nil, nil, false},
		{"a lost inner read is not bad", "begin s, write s x 1, read s x ?, info s", nil, nil, false},
		{"an ok one with a bad read", "begin s, write s x 1, read s x 2, ok s, begin t, info t", nil, nil, true},
		{"an ok one reads what nobody wrote", "begin s, read s x 1, ok s, begin t, read t x 2, info t", nil, nil, true},
		{"an ok one reads of one that must not", "begin s, read s y 7, write s x 1, info s, begin t, read t x 1, ok t", nil, nil, true},
		{"one both must and must not", "begin s, read s y 7, write s x 1, info s, begin t, read t x 1, write t z 1, info t, begin u, read u z 1, ok u", nil, nil, true},
		{"a failed one with a bad read", "begin s, write s x 1, read s x 2, fail s", nil, nil, false},
	} {
		must, not, hopeless, e := unit.Must(sample.Of(c.text))
		if !slices.Equal(must, c.must) || !slices.Equal(not, c.not) || hopeless != c.hopeless || e != api.OK {
			t.Errorf("%s: %v %v %v %v", c.what, must, not, hopeless, e)
		}
	}
}

func TestAgainst(t *testing.T) {
	h := sample.Of("begin s, write s x 1, info s, begin t, write t x 1, read t x 2, info t, begin u, read u x 1, ok u, begin v, info v")
	for _, c := range []struct {
		commit []bool
		want   bool
	}{
		{[]bool{true, false, false}, false}, {[]bool{true, false, true}, false}, {[]bool{true, true, false}, true}, {[]bool{false, false, false}, true}, {[]bool{false, true, true}, true},
	} {
		if got, e := unit.Against(h, c.commit); got != c.want || e != api.OK {
			t.Errorf("%v: %v %v", c.commit, got, e)
		}
	}
	for _, commit := range [][]bool{nil, {true}, {true, false}, {true, false, false, false}} {
		if got, e := unit.Against(h, commit); got || e != api.ErrArg {
			t.Errorf("%v: %v %v", commit, got, e)
		}
	}
	hopeless := sample.Of("begin s, read s x 1, ok s, begin t, info t")
	for _, commit := range [][]bool{{true}, {false}} {
		if got, e := unit.Against(hopeless, commit); !got || e != api.OK {
			t.Errorf("hopeless, %v: %v %v", commit, got, e)
		}
	}
	if got, e := unit.Against(hopeless, nil); got || e != api.ErrArg {
		t.Errorf("hopeless, a Commit too short: %v %v", got, e)
	}
	if got, e := unit.Against(sample.Of("begin s, ok s"), nil); got || e != api.OK {
		t.Errorf("without any of unknown fate: %v %v", got, e)
	}
}

func TestForm(t *testing.T) {
	h := api.History{Sessions: []string{"s"}}
	if must, not, hopeless, e := unit.Must(h); len(must)+len(not) > 0 || hopeless || e != api.ErrForm {
		t.Errorf("%v %v %v %v", must, not, hopeless, e)
	}
	if got, e := unit.Against(h, []bool{true}); got || e != api.ErrForm {
		t.Errorf("%v %v", got, e)
	}
}

// known tells what must be by the words alone, from nothing on.
func known(h api.History) (must, not map[int]int) {
	must, not = map[int]int{}, map[int]int{}
	for range 3 * len(h.L) {
		for i, txn := range h.L {
			if txn.Fate == api.FOk {
				must[i] = 1
			}
			if txn.Fate == api.FFail || txn.Fate == api.FInfo && len(inner.Bad(h, i)) > 0 {
				not[i] = 1
			}
			for k, op := range txn.L {
				p := api.Place{Txn: i, Op: k}
				if !inner.Outer(h, p) || op.V.Kind == api.VLost {
					continue
				}
				var left []int
				for _, w := range writer.Of(h, p) {
					if not[w] == 0 {
						left = append(left, w)
					}
				}
				if len(left) == 0 && txn.Fate == api.FInfo {
					not[i] = 1
				}
				if len(left) == 0 && txn.Fate == api.FOk {
					must[i], not[i] = 1, 1 // hopeless
				}
				if len(left) == 1 && left[0] >= 0 && must[i] == 1 {
					must[left[0]] = 1
				}
			}
		}
	}
	return must, not
}

func TestWorldsAgainstItHoldByNoLevel(t *testing.T) {
	against := 0
	for n := range 500 {
		h := sample.History(n, sample.Shape{Sessions: 3, Keys: 2, Txns: 5, Ops: 3, Values: 2, Open: true})
		must, not, hopeless, _ := unit.Must(h)
		wantMust, wantNot := known(h)
		want := false
		for i, txn := range h.L {
			want = want || wantMust[i]+wantNot[i] == 2 || txn.Fate == api.FOk && len(inner.Bad(h, i)) > 0
		}
		if hopeless != want {
			t.Fatalf("%v: hopeless %v", h, hopeless)
		}
		for _, i := range hist.Infos(h) {
			if !want && (slices.Contains(must, i) != (wantMust[i] == 1) || slices.Contains(not, i) != (wantNot[i] == 1)) || want && len(must)+len(not) > 0 {
				t.Fatalf("%v: must %v, not %v, want %v %v", h, must, not, wantMust, wantNot)
			}
		}
		w, _ := world.First(h)
		for i, is := 0, true; is && i < 300; i++ {
			if bad, _ := unit.Against(h, w.Commit); bad {
				g, _ := whole.Make(h, w)
				if holds, _ := decide.Plain(api.RC, g); holds {
					t.Fatalf("%v: %v holds", h, w)
				}
				against++
			}
			w, is = world.Next(h, w)
		}
	}
	if against == 0 {
		t.Error("no world was against what must be")
	}
}
