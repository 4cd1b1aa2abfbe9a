package mime

import (
	"strings"

	"haversack/api"
	"haversack/words"
)

// noToken are the signs that may stand in no token.
const noToken = "()<>@,;:\\\"/[]?="

// blanks are the bytes that are passed over ahead of each thing.
const blanks = "\t "

// rest is what of a kind's text is left to read.
type rest struct{ left string }

// take goes behind so many bytes.
func (r *rest) take(n int) string {
	taken := r.left[:n]
	r.left = r.left[n:]
	return taken
}

func (r *rest) passBlanks() { r.left = strings.TrimLeft(r.left, blanks) }

// sign goes behind one, if it comes now.
func (r *rest) sign(sign string) bool {
	r.passBlanks()
	is := strings.HasPrefix(r.left, sign)
	if is {
		r.take(len(sign))
	}
	return is
}

func (r *rest) token() (string, bool) {
	r.passBlanks()
	n := 0
	for n < len(r.left) && ofToken(r.left[n]) {
		n++
	}
	return r.take(n), n > 0
}

func ofToken(b byte) bool {
	return b > ' ' && b <= '~' && strings.IndexByte(noToken, b) < 0
}

// kind takes its two names, as they stand there.
func (r *rest) kind() (string, string, bool) {
	kind, is := r.token()
	if !is || !r.sign("/") {
		return "", "", false
	}
	sub, is := r.token()
	return kind, sub, is
}

// params takes them as long as it goes on so.
func (r *rest) params() []api.Param {
	var l []api.Param
	for p, is := r.param(); is; p, is = r.param() {
		l = append(l, p)
	}
	return l
}

func (r *rest) param() (api.Param, bool) {
	if !r.sign(";") {
		return api.Param{}, false
	}
	name, is := r.token()
	if !is || !r.sign("=") {
		return api.Param{}, false
	}
	value, is := r.value()
	if !is {
		return api.Param{}, false
	}
	return api.Param{Name: words.Lower(name), Value: value}, true
}

func (r *rest) value() (string, bool) {
	if r.sign("\"") {
		return r.quoted()
	}
	return r.token()
}

// quoted takes what stands up to the second ". Without that one there is no value.
func (r *rest) quoted() (string, bool) {
	var said []byte
	for r.left != "" {
		b := r.take(1)
		if b == "\"" {
			return string(said), true
		}
		if b == "\\" && r.left != "" {
			b = r.take(1)
		}
		said = append(said, b...)
	}
	return "", false
}
