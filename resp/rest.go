package resp

import (
	"strconv"
	"strings"
)

// fault is what a reader gives up by.
type fault struct{}

// must gives up, however deep the reader is in a line's values, unless something is so.
func must(is bool) {
	if !is {
		panic(fault{})
	}
}

// rest is what of a text is left to read.
type rest struct{ left string }

// takes goes behind a sign, if it comes next.
func (r *rest) takes(sign string) bool {
	behind, is := strings.CutPrefix(r.left, sign)
	r.left = behind
	return is
}

func (r *rest) need(sign string) { must(r.takes(sign)) }

// run takes bytes as long as they are such ones.
func (r *rest) run(such func(byte) bool) string {
	n := 0
	for n < len(r.left) && such(r.left[n]) {
		n++
	}
	return r.bytes(n)
}

// bytes takes so many.
func (r *rest) bytes(n int) string {
	must(n <= len(r.left))
	taken := r.left[:n]
	r.left = r.left[n:]
	return taken
}

func (r *rest) number() int { return asNumber(r.run(digit)) }

// asNumber is what digits tell.
func asNumber(digits string) int {
	n, err := strconv.Atoi(digits)
	must(err == nil)
	return n
}
