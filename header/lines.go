package header

import (
	"strings"

	"haversack/api"
)

// rest is what of a text is left to read.
type rest struct{ left string }

func (r *rest) more() bool { return r.left != "" }

// next takes a byte, and tells whether there was one.
func (r *rest) next() (byte, bool) {
	if !r.more() {
		return 0, false
	}
	b := r.left[0]
	r.left = r.left[1:]
	return b, true
}

// line takes one, with its end.
func (r *rest) line() string {
	n := strings.IndexByte(r.left, '\n') + 1
	if n == 0 {
		n = len(r.left)
	}
	taken := r.left[:n]
	r.left = r.left[n:]
	return taken
}

// goesOn tells whether the line that comes goes on the one ahead of it.
func (r *rest) goesOn() bool {
	return r.more() && (r.left[0] == ' ' || r.left[0] == '\t')
}

// behind is what has been taken of a text, of which this is the rest.
func (r *rest) behind(s string) string { return s[:len(s)-len(r.left)] }

func empty(line string) bool { return line == "\n" || line == "\r\n" }

// entry is a field, with its lines as they stand in the text.
type entry struct {
	api.Field
	lines string
}

// entries are the fields of a text. A line that goes on one of no field is passed over by itself: what it begins with is no name.
func entries(s string) []entry {
	var l []entry
	r := rest{s}
	for r.more() {
		from := r.left
		name, is := beginning(r.line())
		if !is {
			continue
		}
		for r.goesOn() {
			r.line()
		}
		lines := r.behind(from)
		value := endless(lines[len(name)+1:])
		l = append(l, entry{api.Field{Name: name, Value: value}, lines})
	}
	return l
}

// beginning is the name of the field that begins with a line, if one does.
func beginning(line string) (string, bool) {
	name, _, is := strings.Cut(line, ":")
	if !is || name == "" {
		return "", false
	}
	for i := range len(name) {
		if name[i] <= ' ' || name[i] > '~' {
			return "", false
		}
	}
	return name, true
}

// endless is a text without the line end behind it: a 13 that stands there alone is none.
func endless(s string) string {
	text, is := strings.CutSuffix(s, "\n")
	if !is {
		return s
	}
	return strings.TrimSuffix(text, "\r")
}
