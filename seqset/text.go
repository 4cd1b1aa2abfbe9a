package seqset

import (
	"strconv"
	"strings"

	"haversack/api"
)

// The signs of a set's text, beside digits.
const (
	comma = ","
	colon = ":"
	star  = "*"
)

// text is that of a set.
func text(l []api.Span) string {
	texts := make([]string, 0, len(l))
	for _, s := range l {
		texts = append(texts, spanText(s))
	}
	return strings.Join(texts, comma)
}

func spanText(s api.Span) string {
	if s.From == s.To {
		return endText(s.From)
	}
	return endText(s.From) + colon + endText(s.To)
}

func endText(n int) string {
	if n == 0 {
		return star
	}
	return strconv.Itoa(n)
}

// rest is what of a text is left to read.
type rest struct{ left string }

func (r *rest) more() bool { return r.left != "" }

// takes goes behind a sign, if it comes next.
func (r *rest) takes(sign string) bool {
	behind, is := strings.CutPrefix(r.left, sign)
	r.left = behind
	return is
}

// digits takes those that come next.
func (r *rest) digits() string {
	n := 0
	for n < len(r.left) && r.left[n] >= '0' && r.left[n] <= '9' {
		n++
	}
	taken := r.left[:n]
	r.left = r.left[n:]
	return taken
}

// reader has a text to read, and the spans that it has met so far.
type reader struct {
	rest
	spans []api.Span
	far   bool // it has met a number above MaxNumber
	many  bool // it has met more spans than a set has, which are not kept
}

// set reads all that is left, and tells whether it is spans.
func (r *reader) set() bool {
	for {
		s, is := r.span()
		if !is {
			return false
		}
		r.keep(s)
		if !r.takes(comma) {
			return !r.more()
		}
	}
}

func (r *reader) keep(s api.Span) {
	if len(r.spans) == api.MaxSpans {
		r.many = true
		return
	}
	r.spans = append(r.spans, s)
}

func (r *reader) span() (api.Span, bool) {
	from, is := r.end()
	if !is {
		return api.Span{}, false
	}
	if !r.takes(colon) {
		return api.Span{From: from, To: from}, true
	}
	to, is := r.end()
	return api.Span{From: from, To: to}, is
}

// end reads a number of a span. One that is too great may have more digits than an int can tell.
func (r *reader) end() (int, bool) {
	if r.takes(star) {
		return 0, true
	}
	digits := r.digits()
	if digits == "" || digits[0] == '0' {
		return 0, false
	}
	n, err := strconv.Atoi(digits)
	if err != nil || n > api.MaxNumber {
		r.far = true
	}
	return n, true
}
