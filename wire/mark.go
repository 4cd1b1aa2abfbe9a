package wire

import (
	"strconv"
	"strings"
)

// lineEnd is the longer one of a line's two ends.
const lineEnd = "\r\n"

// The signs of a mark, and how many digits it has at the most.
const (
	opens     = "{"
	closes    = "}"
	goesOn    = "+"
	digits    = "0123456789"
	maxDigits = 6
)

// mark tells of a literal that follows.
type mark struct {
	size int
	plus bool // the client goes on by itself
}

// markOf is the mark ahead of a literal that does not wait.
func markOf(literal string) string {
	return opens + strconv.Itoa(len(literal)) + goesOn + closes
}

// cutMark parts a line without its end into its text and the mark, if it has one.
func cutMark(line string) (string, mark, bool) {
	inner, closed := strings.CutSuffix(line, closes)
	inner, plus := strings.CutSuffix(inner, goesOn)
	head := strings.TrimRight(inner, digits)
	number := inner[len(head):]
	text, opened := strings.CutSuffix(head, opens)
	if !closed || !opened || number == "" || len(number) > maxDigits {
		return line, mark{}, false
	}
	size, _ := strconv.Atoi(number)
	return text, mark{size: size, plus: plus}, true
}
