package mime

import (
	"strings"

	"haversack/api"
)

// texts are those of a part's own parts.
func (m message) texts(p api.Part) []span {
	content := span{p.From, p.To}
	if letter(p) {
		return []span{content}
	}
	if b := boundary(p); multipart(p) && b != "" {
		return m.between(content, "--"+b)
	}
	return nil
}

// boundary is that of a part's Params, the first one that has a byte.
func boundary(p api.Part) string {
	for _, param := range p.Params {
		if param.Name == "boundary" && param.Value != "" {
			return param.Value
		}
	}
	return ""
}

// between is the texts between the borders of a content, whose lines begin with some bytes.
func (m message) between(content span, begin string) []span {
	var l []span
	left, open := content, false // open: there is a border ahead of what is left
	next := m.lines(content)
	for line, is := next(); is; line, is = next() {
		border, last := borderOf(m.in(line), begin)
		if !border && !last {
			continue
		}
		if open {
			l = append(l, m.withoutEnd(span{left.from, line.from}))
		}
		if last {
			return l
		}
		left.from, open = line.to, true
	}
	if open {
		l = append(l, left)
	}
	return l
}

// withoutEnd is a text ahead of a border: the line end between them belongs to the border.
func (m message) withoutEnd(text span) span {
	return span{text.from, text.from + len(endless(m.in(text)))}
}

// lines tells those of a span one by one, each with its end.
func (m message) lines(left span) func() (span, bool) {
	return func() (span, bool) {
		line := left
		if n := strings.IndexByte(m.in(left), '\n'); n >= 0 {
			line.to = left.from + n + 1
		}
		left.from = line.to
		return line, line.from < line.to
	}
}

// borderOf tells whether a line is a border, or the last one.
func borderOf(line, begin string) (bool, bool) {
	behind, is := strings.CutPrefix(line, begin)
	if !is {
		return false, false
	}
	more, last := strings.CutPrefix(behind, "--")
	return blank(behind), last && blank(more)
}

// blank tells of what is nothing but blanks, and perhaps a line end.
func blank(s string) bool { return strings.Trim(endless(s), blanks) == "" }

// endless is a text without the line end behind it: a 13 that stands there alone is none.
func endless(s string) string {
	text, is := strings.CutSuffix(s, "\n")
	if !is {
		return s
	}
	return strings.TrimSuffix(text, "\r")
}
