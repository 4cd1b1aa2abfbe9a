package words

import (
	"strings"

	"haversack/api"
)

// sixes has the letter of each six bits at its place.
const sixes = "ABCDEFGHIJKLMNOPQRSTUVWXYZabcdefghijklmnopqrstuvwxyz0123456789+/"

// fill stands where a last group has no letter.
const fill = '='

// Base64 is bytes as letters.
func Base64(b string) string {
	r := read(b)
	for r.more() {
		r.sayFour(r.first(3))
	}
	return r.text()
}

// sayFour says the letters of a group of three bytes, or fewer at the end.
func (r *reader) sayFour(three string) {
	var bits uint32
	for i := range len(three) {
		bits |= uint32(three[i]) << (16 - 8*i)
	}
	for i := range 4 {
		if i > len(three) {
			r.sayByte(fill)
		} else {
			r.sayByte(sixes[bits>>(18-6*i)&63])
		}
	}
}

// Unbase64 is the bytes that are so written. They have one writing alone: so what was read, however loosely, is held against Base64.
func Unbase64(s string) (string, api.Errno) {
	r := read(strings.TrimRight(s, string(fill)))
	for r.more() {
		if !r.sayThree(r.first(4)) {
			return "", api.ErrForm
		}
	}
	b := r.text()
	if Base64(b) != s {
		return "", api.ErrForm
	}
	return b, api.OK
}

// sayThree says the bytes of a group of four letters, or fewer at the end; it tells whether all are letters of base 64.
func (r *reader) sayThree(four string) bool {
	var bits uint32
	for i := range len(four) {
		six := strings.IndexByte(sixes, four[i])
		if six < 0 {
			return false
		}
		bits |= uint32(six) << (18 - 6*i)
	}
	for i := range len(four) * 6 / 8 {
		r.sayByte(byte(bits >> (16 - 8*i)))
	}
	return true
}
