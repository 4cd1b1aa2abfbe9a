package words

import "strings"

// rest is what of a text is left to read.
type rest struct{ left string }

func (r *rest) more() bool { return r.left != "" }

// first takes so many bytes, or as many as are left.
func (r *rest) first(n int) string {
	n = min(n, len(r.left))
	taken := r.left[:n]
	r.left = r.left[n:]
	return taken
}

// takes goes behind a beginning, if what is left has it.
func (r *rest) takes(beginning string) bool {
	is := strings.HasPrefix(r.left, beginning)
	if is {
		r.left = r.left[len(beginning):]
	}
	return is
}

// run takes bytes as long as they are such ones.
func (r *rest) run(such func(byte) bool) string {
	n := 0
	for n < len(r.left) && such(r.left[n]) {
		n++
	}
	return r.first(n)
}

// reader has a text to read, and what it has said of it so far.
type reader struct {
	rest
	said []byte
}

func read(s string) *reader {
	return &reader{rest: rest{s}, said: make([]byte, 0, len(s))}
}

func (r *reader) say(more string) { r.said = append(r.said, more...) }

func (r *reader) sayByte(b byte) { r.said = append(r.said, b) }

func (r *reader) text() string { return string(r.said) }
