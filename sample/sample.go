// Package sample makes what tests need: histories from short texts, and by number, the same one for the same number each time; edges; and orders.
package sample

import (
	"slices"
	"strings"

	"deemster/api"
	"deemster/show"
)

// Of tells the history of a log whose lines are parted by commas; of a wrong log one that may not be.
func Of(s string) api.History {
	h, _, e := show.Parse(strings.ReplaceAll(s, ",", "\n"))
	if e != api.OK {
		return api.History{L: make([]api.Txn, 1)}
	}
	return h
}

// Shape is how great a history is at most; Open tells whether fates and reads may be unknown.
type Shape struct {
	Sessions, Keys, Txns, Ops, Values int
	Open                              bool
}

// mixer tells numbers that look drawn, but follow from the first one.
type mixer struct{ state uint64 }

func (m *mixer) below(n int) int {
	m.state += 0x9e3779b97f4a7c15
	z := m.state
	z = (z ^ z>>30) * 0xbf58476d1ce4e5b9
	z = (z ^ z>>27) * 0x94d049bb133111eb
	return int((z ^ z>>31) % uint64(n))
}

// History tells the history of that shape with a number.
func History(n int, s Shape) api.History {
	m := &mixer{state: uint64(n) * 7919}
	var rows []string
	for range 1 + m.below(s.Txns) {
		session := "s" + digit(m.below(s.Sessions))
		rows = append(rows, "begin "+session)
		for range m.below(s.Ops + 1) {
			rows = append(rows, m.op(s, session))
		}
		rows = append(rows, m.fate(s)+" "+session)
	}
	return Of(strings.Join(rows, ","))
}

func digit(n int) string { return string(rune('0' + n%10)) }

func (m *mixer) op(s Shape, session string) string {
	key, number := "k"+digit(m.below(s.Keys)), digit(m.below(s.Values))
	switch m.below(10) {
	case 0, 1, 2, 3, 4:
		return "write " + session + " " + key + " " + number
	case 5, 6:
		return "read " + session + " " + key + " nil"
	case 7:
		if s.Open {
			return "read " + session + " " + key + " ?"
		}
	}
	return "read " + session + " " + key + " " + number
}

func (m *mixer) fate(s Shape) string {
	switch n := m.below(10); {
	case n < 1:
		return "fail"
	case n < 5 && s.Open:
		return "info"
	}
	return "ok"
}

// Edges tells the edges from each first to each second of the numbers.
func Edges(l ...int) []api.Edge {
	var all []api.Edge
	for i := 0; i+1 < len(l); i += 2 {
		all = append(all, api.Edge{A: l[i], B: l[i+1]})
	}
	return all
}

// Orders tells all lists that have each of a few numbers once, those of the numbers that stand first ahead.
func Orders(l []int) [][]int {
	all := [][]int{{}}
	for range l {
		var more [][]int
		for _, o := range all {
			for _, n := range l {
				if !slices.Contains(o, n) {
					more = append(more, append(slices.Clone(o), n))
				}
			}
		}
		all = more
	}
	return all
}
