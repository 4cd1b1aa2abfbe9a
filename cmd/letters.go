package cmd

import "strings"

// The signs of a command.
const (
	blank  = " "
	opens  = "("
	closes = ")"
	quote  = `"`
	escape = `\`
	point  = "."
)

// The bytes that can be seen, and are no letters of what.
const (
	notOfTags  = `(){}%*"\[]<>+`
	notOfAtoms = `(){%*"\]`
)

func seen(b byte) bool { return b > ' ' && b <= '~' }

func tagLetter(b byte) bool { return seen(b) && strings.IndexByte(notOfTags, b) < 0 }

func atomLetter(b byte) bool { return seen(b) && strings.IndexByte(notOfAtoms, b) < 0 }

func astringLetter(b byte) bool { return atomLetter(b) || b == ']' }

func patternLetter(b byte) bool { return astringLetter(b) || b == '%' || b == '*' }

func digit(b byte) bool { return b >= '0' && b <= '9' }

func setLetter(b byte) bool { return digit(b) || b == ':' || b == ',' || b == '*' }

// wordLetter tells of the bytes of words: some have a point or digits in them.
func wordLetter(b byte) bool {
	return b >= 'a' && b <= 'z' || b >= 'A' && b <= 'Z' || digit(b) || b == '.'
}

// quotable tells whether a quoted text may have a byte, perhaps behind a \.
func quotable(b byte) bool { return b >= ' ' && b != 0x7F }

// escaped tells whether it stands behind a \ there.
func escaped(b byte) bool { return b == quote[0] || b == escape[0] }
