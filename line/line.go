// Package line is layer 1: lines of a text. See shared/doc/01-line.md.
package line

import (
	"strings"
	"unicode/utf8"

	"deemster/api"
)

const blanks = "\t\r "

// Of tells a text's lines; else the error, and the line that has it.
func Of(s string) ([]string, int, api.Errno) {
	if len(s) > api.MaxText {
		return nil, 0, api.ErrLong
	}
	l := cut(s)
	for i, x := range l {
		if !utf8.ValidString(x) {
			return nil, i + 1, api.ErrText
		}
	}
	return l, 0, api.OK
}

func cut(s string) []string {
	var l []string
	from := 0
	for i, r := range s {
		if r == '\n' {
			l = append(l, s[from:i])
			from = i + 1
		}
	}
	if from < len(s) {
		l = append(l, s[from:])
	}
	return l
}

// Runes tells how many runes a clean text has.
func Runes(s string) (int, bool) {
	if !utf8.ValidString(s) {
		return 0, false
	}
	n := 0
	for range s {
		n++
	}
	return n, true
}

// Trim takes the blanks from both ends of a text.
func Trim(s string) string { return strings.Trim(s, blanks) }

// Column tells how many runes of a clean text begin ahead of a byte.
func Column(s string, at int) int {
	if !utf8.ValidString(s) {
		return 0
	}
	n := 0
	for i := range s {
		if i >= at {
			break
		}
		n++
	}
	return n
}
