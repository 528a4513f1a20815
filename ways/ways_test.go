// Package ways holds the program against the section 'Ways' of the document.
package ways_test

import (
	"strings"
	"testing"
)

// TestWays asks of each layer that has landed for the ways that it leans on.
func TestWays(t *testing.T) {
	for _, c := range [][2]string{
		{"line", "range-string"},
		{"name", "range-string rune"},
		{"digit", "array"},
		{"cell", "assertion type-switch"},
		{"value", "variadic"},
		{"split", "range-string"},
		{"event", "constant-table"},
		{"log", "closure"},
		{"table", "variadic"},
		{"pair", "map delete"},
		{"hist", "range-function"},
		{"show", "closure"},
		{"inner", "range-function"},
		{"erase", "map"},
		{"writer", "map range-map"},
		{"world", "closure"},
		{"whole", "struct-compared"},
		{"bits", "array-compared"},
		{"graph", "variadic"},
		{"part", "closure"},
		{"close", "closure"},
		{"topo", "map"},
		{"ring", "closure"},
		{"wr", "closure"},
		{"axiom", "closure"},
		{"cert", "map range-map"},
		{"satur", "closure"},
		{"front", "map"},
		{"decide", "closure"},
		{"why", "iota"},
		{"trail", "range-integer copy"},
		{"domain", "variadic"},
		{"unit", "map"},
		{"fuel", "closure"},
		{"search", "method-value embedding promoted"},
		{"forced", "generic-function closure"},
		{"judge", "array"},
		{"report", "closure"},
		{"text", "constant-table"},
		{"back", "panic recover defer"},
		{"bound", "variadic"},
		{"check", "iota"},
		{"script", "label"},
		{"desk", "method-value"},
	} {
		missing, err := WaysMissing("..", "deemster", []string{c[0]}, strings.Fields(c[1]))
		if err != nil {
			t.Fatal(err)
		}
		for _, way := range missing {
			t.Errorf("%s: %s is missing", c[0], way)
		}
	}
}
