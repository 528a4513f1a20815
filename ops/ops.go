// Package ops tells what one transaction's ops do. It asks nothing of the history around them, so that layers which have asked once that a history may be need not ask again at every op.
package ops

import (
	"iter"

	"deemster/api"
)

// back goes through ops from the last one on.
func back(l []api.Op) iter.Seq2[int, api.Op] {
	return func(yield func(int, api.Op) bool) {
		for i := len(l) - 1; i >= 0; i-- {
			if !yield(i, l[i]) {
				return
			}
		}
	}
}

// Left tells the value of the last write of a key.
func Left(l []api.Op, key int) (api.Value, bool) {
	for _, op := range back(l) {
		if op.Write && op.Key == key {
			return op.V, true
		}
	}
	return api.Value{}, false
}

// Own tells what the ops ahead of one leave of its key.
func Own(l []api.Op, at int) (api.Value, bool) { return Left(l[:at], l[at].Key) }

// Outer tells which ops are reads of keys that nothing ahead of them writes, rising.
func Outer(l []api.Op) []int {
	var reads []int
	for i, op := range l {
		if _, own := Own(l, i); !op.Write && !own {
			reads = append(reads, i)
		}
	}
	return reads
}

// Bad tells which ops are reads, not lost, of another value than the own one, rising.
func Bad(l []api.Op) []int {
	var reads []int
	for i, op := range l {
		if v, own := Own(l, i); !op.Write && own && op.V.Kind != api.VLost && op.V != v {
			reads = append(reads, i)
		}
	}
	return reads
}

// Last tells those ops that are the last write of their key, in order.
func Last(l []api.Op) []api.Op {
	var last []api.Op
	for i, op := range l {
		if _, again := Left(l[i+1:], op.Key); op.Write && !again {
			last = append(last, op)
		}
	}
	return last
}
