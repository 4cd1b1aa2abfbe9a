package date

import "haversack/api"

// fault is what a reader stops by.
type fault struct{ why api.Errno }

// stop ends the reading of a text at its first fault, however deep the reader is in it.
func stop() { panic(fault{api.ErrForm}) }

// rest is what of a text is left to read.
type rest struct{ left string }

// has tells whether what is left begins so, in whatever letters: A to Z alone have others.
func (r *rest) has(beginning string) bool {
	if len(r.left) < len(beginning) {
		return false
	}
	for i := range len(beginning) {
		if small(r.left[i]) != small(beginning[i]) {
			return false
		}
	}
	return true
}

func small(b byte) byte {
	if b >= 'A' && b <= 'Z' {
		return b - 'A' + 'a'
	}
	return b
}

// takes goes behind a beginning, if what is left has it.
func (r *rest) takes(beginning string) bool {
	is := r.has(beginning)
	if is {
		r.left = r.left[len(beginning):]
	}
	return is
}

func (r *rest) need(beginning string) {
	if !r.takes(beginning) {
		stop()
	}
}

// blanks goes behind those that come, and tells whether there are some.
func (r *rest) blanks() bool {
	n := 0
	for n < len(r.left) && blank(r.left[n]) {
		n++
	}
	r.left = r.left[n:]
	return n > 0
}

func blank(b byte) bool {
	return b == ' ' || b == '\t' || b == '\r' || b == '\n'
}

func (r *rest) gap() {
	if !r.blanks() {
		stop()
	}
}

func (r *rest) end() {
	if r.left != "" {
		stop()
	}
}

// number reads digits, so many at least, and no more than most.
func (r *rest) number(least, most int) int {
	n, count := 0, 0
	for count < most && count < len(r.left) && digit(r.left[count]) {
		n = 10*n + int(r.left[count]-'0')
		count++
	}
	if count < least {
		stop()
	}
	r.left = r.left[count:]
	return n
}

func digit(b byte) bool { return b >= '0' && b <= '9' }

// upTo reads two digits that tell no more than most.
func (r *rest) upTo(most int) int {
	n := r.number(2, 2)
	if n > most {
		stop()
	}
	return n
}

// name reads one of some names of three letters: which one, from 1 on; 0, if none comes.
func (r *rest) name(names string) int {
	for i := 0; i < len(names); i += 3 {
		if r.takes(names[i : i+3]) {
			return i/3 + 1
		}
	}
	return 0
}

func (r *rest) month() int {
	n := r.name(months)
	if n == 0 {
		stop()
	}
	return n
}

// weekday goes behind a day's name, if one comes: the date tells by itself which day it is.
func (r *rest) weekday() {
	if r.name(weekdays) > 0 {
		r.need(",")
		r.gap()
	}
}

// minutes reads hours and minutes, as a zone has them.
func (r *rest) minutes() int {
	hours := r.upTo(23)
	return 60*hours + r.upTo(59)
}
