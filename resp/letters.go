package resp

import (
	"strings"

	"haversack/api"
)

// The signs of what is told.
const (
	blank   = " "
	lineEnd = "\r\n"
	quote   = `"`
	escape  = `\`
)

// notOfAtoms are the bytes that can be seen, and are no letters of an atom.
const notOfAtoms = `(){}"[]<>`

// none is how nothing is told.
const none = "NIL"

// The tags of lines that answer no command.
const (
	star = "*"
	goOn = "+"
)

func plain(b byte) bool { return b >= ' ' && b <= '~' }

func letter(b byte) bool {
	return plain(b) && b != ' ' && strings.IndexByte(notOfAtoms, b) < 0
}

func digit(b byte) bool { return b >= '0' && b <= '9' }

// escaped tells whether a byte stands behind a \ between quotes.
func escaped(b byte) bool { return b == quote[0] || b == escape[0] }

// only tells whether all bytes are such ones.
func only(s string, such func(byte) bool) bool {
	for _, b := range []byte(s) {
		if !such(b) {
			return false
		}
	}
	return true
}

func isAtom(s string) bool {
	return s != "" && only(s, letter) && !only(s, digit) && !strings.EqualFold(s, none)
}

// quotable tells whether a string is told between quotes.
func quotable(s string) bool { return len(s) <= api.MaxQuoted && only(s, plain) }

func isStatus(s string) bool {
	switch s {
	case "OK", "NO", "BAD", "BYE", "PREAUTH":
		return true
	}
	return false
}
