package header

import (
	"strings"

	"haversack/api"
)

// blanks are the bytes that are left out at both ends of what is said.
const blanks = "\t\n\r "

// said is the bytes that are said so far.
type said struct{ soFar []byte }

func (s *said) say(more ...byte) { s.soFar = append(s.soFar, more...) }

// take is what is said so far, without blanks at both ends; what is said from now on begins anew.
func (s *said) take() string {
	text := strings.Trim(string(s.soFar), blanks)
	s.soFar = s.soFar[:0]
	return text
}

// reader has a text of addresses to read, and what is said of the one that it is in.
type reader struct {
	rest
	said
}

// Addresses are those of a value.
func Addresses(s string) []api.Address {
	var l []api.Address
	r := reader{rest: rest{s}}
	for r.more() {
		if a := r.piece(); a != (api.Address{}) {
			l = append(l, a)
		}
	}
	return l
}

// piece reads one, with the comma behind it. Whatever is said behind its first angle is taken, too, so that it is not said of the next piece.
func (r *reader) piece() api.Address {
	var name, address string
	angled := false
	for {
		b, is := r.next()
		switch {
		case !is || b == ',':
			goto end
		case b == '<':
			ahead := r.take()
			r.angle()
			inside := r.take()
			if !angled {
				name, address, angled = ahead, inside, true
			}
		default:
			r.part(b)
		}
	}
end:
	if behind := r.take(); !angled {
		address = behind
	}
	return parted(name, address)
}

// angle reads one behind its <. Another < has no meaning in it.
func (r *reader) angle() {
	for b, is := r.next(); is && b != '>'; b, is = r.next() {
		r.part(b)
	}
}

// part reads what begins with a byte, inside an angle and outside alike.
func (r *reader) part(b byte) {
	switch b {
	case '"':
		r.quoted()
	case '(':
		r.remark()
	default:
		r.say(b)
	}
}

// quoted reads what stands behind a ". A \ with no byte behind it stands for itself.
func (r *reader) quoted() {
	for b, is := r.next(); is && b != '"'; b, is = r.next() {
		if b == '\\' && r.more() {
			b, _ = r.next()
		}
		r.say(b)
	}
}

// remark reads what stands behind a (. It counts those within one another, since they may be nested deeper than calls should be.
func (r *rest) remark() {
	for deep := 1; deep > 0 && r.more(); {
		switch b, _ := r.next(); b {
		case '\\':
			r.next()
		case '(':
			deep++
		case ')':
			deep--
		}
	}
}

// parted is an address with a name, parted at its last @.
func parted(name, address string) api.Address {
	at := strings.LastIndexByte(address, '@')
	if at < 0 {
		return api.Address{Name: name, Box: address}
	}
	return api.Address{Name: name, Box: address[:at], Host: address[at+1:]}
}
