package trail_test

import (
	"slices"
	"testing"

	"deemster/api"
	"deemster/trail"
)

func TestNew(t *testing.T) {
	for n, want := range map[int]api.Errno{0: api.OK, 1: api.OK, 1000: api.OK, 1001: api.ErrArg, -1: api.ErrArg, 1 << 62: api.ErrArg, -1 << 63: api.ErrArg} {
		tr, e := trail.New(n)
		if e != want || (tr == nil) != (e != api.OK) || e == api.OK && (!slices.Equal(tr.All(), make([]int, n)) || tr.Level() != 0) {
			t.Errorf("New(%d): %v", n, e)
		}
	}
}

func TestSetAndGet(t *testing.T) {
	tr, _ := trail.New(3)
	if tr.Set(0, 7) != api.OK || tr.Set(2, -1<<63) != api.OK || tr.Set(0, 8) != api.OK {
		t.Error("Set")
	}
	for _, cell := range []int{-1, 3, 1 << 62, -1 << 63} {
		if e := tr.Set(cell, 5); e != api.ErrArg || tr.Get(cell) != 0 {
			t.Errorf("cell %d: %v", cell, e)
		}
	}
	if tr.Get(0) != 8 || tr.Get(1) != 0 || tr.Get(2) != -1<<63 || !slices.Equal(tr.All(), []int{8, 0, -1 << 63}) {
		t.Errorf("%v", tr.All())
	}
	tr.All()[0] = 99
	if tr.Get(0) != 8 {
		t.Error("All shares the trail's memory")
	}
}

func TestLevels(t *testing.T) {
	tr, _ := trail.New(2)
	if tr.Undo() != api.ErrNone || tr.Keep() != api.ErrNone || tr.Level() != 0 {
		t.Error("there is no level")
	}
	tr.Set(0, 1)
	tr.Begin()
	tr.Set(0, 2)
	if e := tr.Undo(); e != api.OK || tr.Get(0) != 1 || tr.Level() != 0 {
		t.Errorf("%v %v", e, tr.All())
	}
	tr.Begin()
	tr.Set(0, 2)
	tr.Begin()
	tr.Set(1, 3)
	tr.Set(0, 4)
	if e := tr.Keep(); e != api.OK || tr.Level() != 1 || !slices.Equal(tr.All(), []int{4, 3}) {
		t.Errorf("the values stay: %v %v", e, tr.All())
	}
	if e := tr.Undo(); e != api.OK || tr.Level() != 0 || !slices.Equal(tr.All(), []int{1, 0}) {
		t.Errorf("they are undone with the level ahead: %v %v", e, tr.All())
	}
	tr.Begin()
	tr.Set(1, 5)
	tr.Keep()
	if tr.Undo() != api.ErrNone || !slices.Equal(tr.All(), []int{1, 5}) {
		t.Errorf("they are kept: %v", tr.All())
	}
}

func TestFull(t *testing.T) {
	tr, _ := trail.New(1)
	for i := range 1000 {
		tr.Set(0, i)
		if e := tr.Begin(); e != api.OK || tr.Level() != i+1 {
			t.Fatalf("level %d: %v", i, e)
		}
	}
	tr.Set(0, 1000)
	if e := tr.Begin(); e != api.ErrFull || tr.Level() != 1000 {
		t.Errorf("one level more: %v", e)
	}
	for i := 999; i >= 0; i-- {
		if e := tr.Undo(); e != api.OK || tr.Get(0) != i || tr.Level() != i {
			t.Fatalf("level %d: %v %d", i, e, tr.Get(0))
		}
	}
}

func TestNone(t *testing.T) {
	for _, tr := range []*trail.Trail{nil, {}} {
		if tr.Set(0, 1) != api.ErrForm || tr.Set(-1, 1) != api.ErrForm || tr.Begin() != api.ErrForm || tr.Undo() != api.ErrForm || tr.Keep() != api.ErrForm {
			t.Error("ErrForm")
		}
		if tr.Get(0) != 0 || tr.Level() != 0 || len(tr.All()) > 0 {
			t.Error("it has nothing")
		}
	}
}

func TestWhatWasSetBehindABeginningIsUndone(t *testing.T) {
	tr, _ := trail.New(5)
	var was [][]int
	for i := range 4000 {
		switch {
		case i*i%7 == 1:
			tr.Begin()
			was = append(was, tr.All())
		case i*i%7 == 4 && i%3 == 0 && len(was) > 0:
			tr.Undo()
			if !slices.Equal(tr.All(), was[len(was)-1]) {
				t.Fatalf("step %d: %v, want %v", i, tr.All(), was[len(was)-1])
			}
			was = was[:len(was)-1]
		case i%11 == 3 && len(was) > 0:
			tr.Keep()
			was = was[:len(was)-1]
		default:
			tr.Set(i%5, i)
			if tr.Get(i%5) != i {
				t.Fatalf("step %d", i)
			}
		}
		if tr.Level() != len(was) {
			t.Fatalf("step %d: %d levels, want %d", i, tr.Level(), len(was))
		}
	}
}
