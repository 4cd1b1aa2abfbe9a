package cmd

import (
	"strings"

	"haversack/api"
)

// fault is what a reader gives up by.
type fault struct{}

// must gives up, however deep the reader is in the command, unless something is so.
func must(is bool) {
	if !is {
		panic(fault{})
	}
}

// place is where a reader is in a command: in which text, and what is left of it.
type place struct {
	api.Raw
	at   int
	left string
}

func (p *place) begin() {
	must(len(p.Texts) > 0)
	p.left = p.Texts[0]
}

func (p *place) starts(sign string) bool { return strings.HasPrefix(p.left, sign) }

// startsWith tells whether one of such bytes comes next.
func (p *place) startsWith(such func(byte) bool) bool { return p.left != "" && such(p.left[0]) }

// takes goes behind a sign, if it comes next.
func (p *place) takes(sign string) bool {
	behind, is := strings.CutPrefix(p.left, sign)
	p.left = behind
	return is
}

func (p *place) need(sign string) { must(p.takes(sign)) }

func (p *place) blank() { p.need(blank) }

// some takes bytes as long as they are such ones, one at least.
func (p *place) some(such func(byte) bool) string {
	n := 0
	for n < len(p.left) && such(p.left[n]) {
		n++
	}
	must(n > 0)
	taken := p.left[:n]
	p.left = p.left[n:]
	return taken
}

// next takes one byte.
func (p *place) next() byte {
	must(p.left != "")
	b := p.left[0]
	p.left = p.left[1:]
	return b
}

// atLiteral tells whether a literal comes next.
func (p *place) atLiteral() bool { return p.left == "" && p.at < len(p.Literals) }

// literal takes the one that comes next, and goes on with the text behind it.
func (p *place) literal() string {
	must(p.atLiteral())
	s := p.Literals[p.at]
	p.at++
	p.left = p.Texts[p.at]
	return s
}

// ended tells whether nothing comes any more.
func (p *place) ended() bool { return p.left == "" && !p.atLiteral() }
