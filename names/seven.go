package names

import (
	"strings"
	"unicode/utf8"

	"haversack/api"
)

// base64 has the letter of each six bits at its place. A comma stands where others have a slash, which parts names.
const base64 = "ABCDEFGHIJKLMNOPQRSTUVWXYZabcdefghijklmnopqrstuvwxyz0123456789+,"

// opens begins a run of base 64, and shuts ends it.
const (
	opens = '&'
	shuts = '-'
)

// Letters beyond the first 2^16 are two units: ten of the bits that are above beyond behind high, ten behind low.
const (
	beyond = 0x10000
	high   = 0xD800
	low    = 0xDC00
	ten    = 1<<10 - 1
)

// Encode is a text in seven bits.
func Encode(s string) (string, api.Errno) {
	if !utf8.ValidString(s) {
		return "", api.ErrForm
	}
	out := new(bits)
	for _, letter := range s {
		if standsForItself(letter) {
			out.shut()
			out.plain(letter)
		} else {
			out.open()
			out.units(letter)
		}
	}
	out.shut()
	return out.text(), api.OK
}

func standsForItself(letter rune) bool { return letter >= ' ' && letter <= '~' }

// open begins a run, unless the letters ahead are one that goes on.
func (b *bits) open() {
	if !b.running {
		b.add(opens)
	}
	b.running = true
}

// shut ends the run, if there is one; noughts fill its last letter.
func (b *bits) shut() {
	if !b.running {
		return
	}
	b.running = false
	if b.count > 0 {
		b.push(0, 6-b.count)
		b.sixes()
	}
	b.add(shuts)
}

// plain writes a letter that stands for itself; since & opens a run, it is an empty one.
func (b *bits) plain(letter rune) {
	b.add(byte(letter))
	if letter == opens {
		b.add(shuts)
	}
}

// units writes a letter of a run.
func (b *bits) units(letter rune) {
	if letter < beyond {
		b.unit(letter)
		return
	}
	letter -= beyond
	b.unit(high | letter>>10)
	b.unit(low | letter&ten)
}

func (b *bits) unit(unit rune) {
	b.push(uint32(unit), 16)
	b.sixes()
}

// sixes writes what waits, as far as it is enough for letters of base 64.
func (b *bits) sixes() {
	for six, is := b.take(6); is; six, is = b.take(6) {
		b.add(base64[six])
	}
}

// Decode is the text that is so written. One text has one writing alone: so what was read, however loosely, is held against Encode.
func Decode(s string) (string, api.Errno) {
	out := new(bits)
	for rest := s; rest != ""; {
		plain, behind, is := strings.Cut(rest, string(opens))
		out.add([]byte(plain)...)
		if !is {
			break
		}
		run, after, ended := strings.Cut(behind, string(shuts))
		if !ended || !out.read(run) {
			return "", api.ErrForm
		}
		rest = after
	}
	text := out.text()
	if again, e := Encode(text); e != api.OK || again != s {
		return "", api.ErrForm
	}
	return text, api.OK
}

// read writes the letters that a run stands for; it tells whether the run is of base 64.
func (b *bits) read(run string) bool {
	if run == "" {
		b.add(opens)
		return true
	}
	b.clear()
	var half rune
	for i := range len(run) {
		six := strings.IndexByte(base64, run[i])
		if six < 0 {
			return false
		}
		b.push(uint32(six), 6)
		if unit, is := b.take(16); is {
			half = b.letter(half, rune(unit))
		}
	}
	return true
}

// letter writes the one that a unit ends, and is the half of a pair that waits for its other half, or 0. Halves without another one become letters that are not written so.
func (b *bits) letter(half, unit rune) rune {
	if half == 0 && unit >= high && unit < low {
		return unit
	}
	if half != 0 {
		unit = beyond + (half-high)<<10 + (unit - low)
	}
	b.add([]byte(string(unit))...)
	return 0
}
