package wire

import (
	"bytes"
	"strings"

	"haversack/api"
)

// command is what has come of one that has not ended.
type command struct {
	texts, literals []string
	size            int    // how many bytes the lines that have ended have, with marks
	under           []byte // the line or the literal under way, as far as it has come
	left            int    // how many bytes of the literal under way are to come
	out             wayOut
}

// long tells whether the lines so far have too many bytes. A 13 that has come last may belong to the line's end, which does not count: just the byte behind it tells.
func (c *command) long() bool {
	return c.size+len(bytes.TrimSuffix(c.under, []byte{'\r'})) > api.MaxLine
}

// refuses tells whether a literal may not follow.
func (c *command) refuses(m mark) bool {
	return m.size > api.MaxLiteral || len(c.literals) == api.MaxLiterals
}

// keepText keeps that of a line that has ended.
func (c *command) keepText(text, line string) {
	c.texts = append(c.texts, text)
	c.size += len(line)
	c.under = nil
}

// keepLiteral keeps one that is whole.
func (c *command) keepLiteral() {
	c.literals = append(c.literals, string(c.under))
	c.under = nil
}

// ofLine takes a byte of a line.
func (f *Feed) ofLine(b byte) api.Event {
	if b == '\n' {
		return f.endLine()
	}
	f.under = append(f.under, b)
	if !f.long() {
		return api.Event{}
	}
	e := f.end(api.EventLong, string(f.under[:min(len(f.under), api.MaxLine)]))
	f.next = f.pastLine
	return e
}

// endLine does what is to be done when a line has come.
func (f *Feed) endLine() api.Event {
	line := strings.TrimSuffix(string(f.under), "\r")
	text, m, is := cutMark(line)
	switch {
	case !is:
		return f.end(api.EventCommand, text)
	case f.refuses(m):
		return f.refuse(text, m)
	}
	f.keepText(text, line)
	f.await(m.size)
	if m.plus {
		return api.Event{}
	}
	return api.Event{Kind: api.EventMore}
}

// end tells all of the command under way, with its last text, and keeps nothing of it.
func (f *Feed) end(kind int, last string) api.Event {
	r := api.Raw{Texts: append(f.texts, last), Literals: f.literals}
	f.restart()
	return api.Event{Kind: kind, Raw: r}
}

// restart makes it a feed without bytes.
func (f *Feed) restart() { f.command, f.next = command{}, nil }

// await makes the next bytes a literal.
func (f *Feed) await(size int) {
	f.left, f.next = size, f.ofLiteral
	if size == 0 {
		f.endLiteral()
	}
}

// ofLiteral takes a byte of a literal.
func (f *Feed) ofLiteral(b byte) api.Event {
	f.under = append(f.under, b)
	f.left--
	if f.left == 0 {
		f.endLiteral()
	}
	return api.Event{}
}

func (f *Feed) endLiteral() {
	f.keepLiteral()
	f.next = f.ofLine
}

// refuse ends a command at a mark. A client that waits to be told sends nothing more of it.
func (f *Feed) refuse(text string, m mark) api.Event {
	e := f.end(api.EventLong, text)
	if m.plus {
		f.letGo(m.size)
	}
	return e
}

// letGo makes the next bytes a literal that is let go.
func (f *Feed) letGo(size int) {
	f.left, f.next = size, f.pastLiteral
	if size == 0 {
		f.next = f.pastLine
	}
}

// pastLiteral lets a byte of a literal go.
func (f *Feed) pastLiteral(b byte) api.Event {
	f.left--
	switch {
	case f.out.found(b):
		f.restart()
	case f.left == 0:
		f.next = f.pastLine
	}
	return api.Event{}
}

// pastLine lets a byte of a line go.
func (f *Feed) pastLine(b byte) api.Event {
	if b == '\n' {
		f.restart()
	}
	return api.Event{}
}
