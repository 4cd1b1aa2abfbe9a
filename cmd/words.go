package cmd

import (
	"strconv"
	"strings"

	"haversack/api"
	"haversack/date"
	"haversack/names"
	"haversack/seqset"
)

// word reads one in whatever letters.
func (p *place) word() string { return strings.ToUpper(p.some(wordLetter)) }

func (p *place) atom() string { return p.some(atomLetter) }

// quoted reads a quoted text: what it says.
func (p *place) quoted() string {
	p.need(quote)
	var said []byte
	for !p.takes(quote) {
		b := p.next()
		if b == escape[0] {
			b = p.next()
			must(escaped(b))
		}
		must(quotable(b))
		said = append(said, b)
	}
	return string(said)
}

// stringOr reads a string, or such letters, one at least.
func (p *place) stringOr(such func(byte) bool) string {
	switch {
	case p.atLiteral():
		return p.literal()
	case p.starts(quote):
		return p.quoted()
	}
	return p.some(such)
}

func (p *place) astring() string { return p.stringOr(astringLetter) }

func (p *place) name() string { return known(p.astring()) }

func (p *place) pattern() string { return known(p.stringOr(patternLetter)) }

// known is a name, or a pattern of names, that was written in seven bits, as it is known.
func known(seven string) string {
	name, e := names.Decode(seven)
	must(e == api.OK)
	return names.Norm(name)
}

func (p *place) flag() string {
	if p.takes(escape) {
		return escape + p.atom()
	}
	return p.atom()
}

// number reads one. It may have more digits than an int can tell.
func (p *place) number() int {
	digits := p.some(digit)
	must(digits == "0" || digits[0] != '0')
	n, err := strconv.Atoi(digits)
	must(err == nil && n <= api.MaxNumber)
	return n
}

// positive reads a number that is not 0.
func (p *place) positive() int {
	n := p.number()
	must(n > 0)
	return n
}

func (p *place) spans() []api.Span {
	l, e := seqset.Parse(p.some(setLetter))
	must(e == api.OK)
	return l
}

// day reads one: its number. A literal is none.
func (p *place) day() int {
	must(!p.atLiteral())
	n, e := date.Day(p.stringOr(atomLetter))
	must(e == api.OK)
	return n
}

func (p *place) date() api.Date {
	d, e := date.Internal(p.quoted())
	must(e == api.OK)
	return d
}

// spaced reads things with a blank between, one at least.
func (p *place) spaced(one func()) {
	one()
	for p.takes(blank) {
		one()
	}
}

// list reads things likewise, within ( ).
func (p *place) list(one func()) {
	p.need(opens)
	p.spaced(one)
	p.need(closes)
}

// bareFlags reads flags without ( ).
func (p *place) bareFlags() []string {
	var l []string
	p.spaced(func() { l = append(l, p.flag()) })
	return l
}

// flags reads flags, perhaps none, within ( ).
func (p *place) flags() []string {
	p.need(opens)
	if p.takes(closes) {
		return nil
	}
	l := p.bareFlags()
	p.need(closes)
	return l
}
