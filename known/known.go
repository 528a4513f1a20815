// Package known tells what there is in histories that are known to be such as may be (11). The layers ask that once, and need not ask it again at each transaction and each op.
package known

import (
	"iter"

	"deemster/api"
	"deemster/value"
)

// Ops goes through the ops of a history, in order of their places.
func Ops(h api.History) iter.Seq2[api.Place, api.Op] {
	return func(yield func(api.Place, api.Op) bool) {
		for t, txn := range h.L {
			for i, op := range txn.L {
				if !yield(api.Place{Txn: t, Op: i}, op) {
					return
				}
			}
		}
	}
}

// Which tells the transactions that are asked for, rising.
func Which(h api.History, is func(api.Txn) bool) []int {
	var l []int
	for i, t := range h.L {
		if is(t) {
			l = append(l, i)
		}
	}
	return l
}

// Infos tells the transactions of unknown fate, rising.
func Infos(h api.History) []int {
	return Which(h, func(t api.Txn) bool { return t.Fate == api.FInfo })
}

// Committed tells the transactions that are known to have committed, rising.
func Committed(h api.History) []int {
	return Which(h, func(t api.Txn) bool { return t.Fate == api.FOk })
}

// Lost tells where reads stand that were lost, in order.
func Lost(h api.History) []api.Place {
	var l []api.Place
	for p, op := range Ops(h) {
		if op.V.Kind == api.VLost {
			l = append(l, p)
		}
	}
	return l
}

// back goes through a transaction's ops from the last one on.
func back(l []api.Op) iter.Seq2[int, api.Op] {
	return func(yield func(int, api.Op) bool) {
		for i := len(l) - 1; i >= 0; i-- {
			if !yield(i, l[i]) {
				return
			}
		}
	}
}

// Left tells the value of the last write of a key.
func Left(l []api.Op, key int) (api.Value, bool) {
	for _, op := range back(l) {
		if op.Write && op.Key == key {
			return op.V, true
		}
	}
	return api.Value{}, false
}

// Own tells what the ops ahead of one leave of its key.
func Own(l []api.Op, at int) (api.Value, bool) { return Left(l[:at], l[at].Key) }

// Outer tells which ops are reads of keys that nothing ahead of them writes, rising.
func Outer(l []api.Op) []int {
	var reads []int
	var written Keys
	for i, op := range l {
		switch {
		case op.Write:
			written = written.With(op.Key)
		case !written.Has(op.Key):
			reads = append(reads, i)
		}
	}
	return reads
}

// Bad tells which ops are reads, not lost, of another value than the own one, rising.
func Bad(l []api.Op) []int {
	var reads []int
	var written Keys
	var own [api.MaxKeys]api.Value
	for i, op := range l {
		switch {
		case op.Write:
			written, own[op.Key] = written.With(op.Key), op.V
		case written.Has(op.Key) && op.V.Kind != api.VLost && op.V != own[op.Key]:
			reads = append(reads, i)
		}
	}
	return reads
}

// Last tells those ops that are the last write of their key, the last one first.
func Last(l []api.Op) []api.Op {
	var last []api.Op
	var written Keys
	for _, op := range back(l) {
		if op.Write && !written.Has(op.Key) {
			written = written.With(op.Key)
			last = append(last, op)
		}
	}
	return last
}

// Keys is a set of keys, a bit each: there are never more than MaxKeys.
type Keys uint64

// With tells the set with a key more.
func (k Keys) With(key int) Keys { return k | 1<<key }

// Has tells whether a key is in the set.
func (k Keys) Has(key int) bool { return k>>key&1 == 1 }

// Written tells the keys that ops write.
func Written(l []api.Op) Keys {
	var k Keys
	for _, op := range l {
		if op.Write {
			k = k.With(op.Key)
		}
	}
	return k
}

// ForRead tells what a transaction leaves of a key for a read at a place: nothing, if it is the read's own one, or failed.
func ForRead(h api.History, p api.Place, txn, key int) (api.Value, bool) {
	if txn == p.Txn || h.L[txn].Fate == api.FFail {
		return api.Value{}, false
	}
	return Left(h.L[txn].L, key)
}

// Values tells what a lost read at a place may have read, in order.
func Values(h api.History, p api.Place) []api.Value {
	found := map[api.Value]int{{Kind: api.VNil}: -1}
	for i := range h.L {
		if v, leaves := ForRead(h, p, i, h.L[p.Txn].L[p.Op].Key); leaves {
			found[v] = i
		}
	}
	var l []api.Value
	for v := range found {
		l = append(l, v)
	}
	return value.Sorted(l...)
}

// FirstTried tells what is tried first of a lost read: nil, but of an inner read of a transaction that commits the own value.
func FirstTried(h api.History, p api.Place, commits bool) api.Value {
	if !commits {
		return api.Value{Kind: api.VNil}
	}
	own, _ := Own(h.L[p.Txn].L, p.Op) // without one VNil, the least of Values
	return own
}

// Fresh tells the least number from 0 on that no write of a key has.
func Fresh(h api.History, key int) api.Value {
	written := map[int64]struct{}{}
	for _, op := range Ops(h) {
		if op.Write && op.Key == key {
			written[op.V.N] = struct{}{}
		}
	}
	n := int64(0)
	for {
		if _, is := written[n]; !is {
			return api.Value{Kind: api.VInt, N: n}
		}
		n++
	}
}
