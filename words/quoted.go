package words

import "strings"

// digits are those of hexadecimal numbers, each at its value's place.
const digits = "0123456789abcdef"

// Unquote is quoted-printable text as bytes.
func Unquote(s string) string {
	r := read(s)
	for r.more() {
		if r.takes("=\r\n") || r.takes("=\n") {
			continue
		}
		r.sayCoded()
	}
	return r.text()
}

// underscored is what a text of an encoded word stands for that is not base 64: a blank, which may not stand in the word, is written _ there.
func underscored(s string) string {
	r := read(s)
	for r.more() {
		if r.takes("_") {
			r.say(" ")
		} else {
			r.sayCoded()
		}
	}
	return r.text()
}

// sayCoded says the byte that = and two digits stand for, if they are what comes, else the next byte as it is.
func (r *reader) sayCoded() {
	code := r.left[:min(3, len(r.left))]
	if b, is := coded(code); is {
		r.takes(code)
		r.sayByte(b)
	} else {
		r.say(r.first(1))
	}
}

func coded(s string) (byte, bool) {
	if len(s) != 3 || s[0] != '=' {
		return 0, false
	}
	high, low := digit(s[1]), digit(s[2])
	if high < 0 || low < 0 {
		return 0, false
	}
	return byte(high<<4 | low), true
}

// digit is the value of one, or below 0 of what is none.
func digit(b byte) int { return strings.IndexByte(digits, small(b)) }
