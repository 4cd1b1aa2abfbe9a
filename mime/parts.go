package mime

import (
	"strings"

	"haversack/api"
	"haversack/header"
	"haversack/words"
)

// span is where a text begins in the message, and where it ends.
type span struct{ from, to int }

// message is the whole one, in whose text all parts have their places.
type message struct{ text string }

func (m message) in(s span) string { return m.text[s.from:s.to] }

func (m message) head(p api.Part) string { return m.text[p.Head:p.From] }

func (m message) content(p api.Part) string { return m.text[p.From:p.To] }

// part is a text as a part, whose kids are not told yet.
func (m message) part(text span, digest bool) api.Part {
	head, content := header.Cut(m.in(text))
	l := header.Fields(head)
	p := api.Part{
		ID:    first(l, "content-id"),
		Desc:  first(l, "content-description"),
		Enc:   "7bit",
		Head:  text.from,
		From:  text.from + len(head),
		To:    text.to,
		Lines: strings.Count(content, "\n"),
	}
	p.Type, p.Sub, p.Params = kindOf(l, digest)
	for _, enc := range first(l, "content-transfer-encoding") {
		p.Enc = words.Lower(enc)
	}
	return p
}

// first is the value of the first field with a name, as a list of one, or none.
func first(l []api.Field, name string) []string {
	values := header.Get(l, name)
	if len(values) == 0 {
		return nil
	}
	return []string{values[0]}
}

// kindOf is that of a part with some fields. What a digest has is messages, unless they say otherwise.
func kindOf(l []api.Field, digest bool) (string, string, []api.Param) {
	texts := first(l, "content-type")
	switch {
	case len(texts) > 0:
		return Kind(texts[0])
	case digest:
		return "message", "rfc822", nil
	}
	return "text", "plain", nil
}

// tally is how many parts have been told so far.
type tally struct{ parts int }

func (t *tally) full() bool { return t.parts >= api.MaxParts }

// teller tells a message's parts on its way through it.
type teller struct {
	message
	tally
}

// tell is a text as a part; deep is how many parts are within one another with it.
func (t *teller) tell(text span, deep int, digest bool) api.Part {
	p := t.part(text, digest)
	t.parts++
	if deep < api.MaxNest {
		p.Kids = t.kids(p, deep+1)
	}
	return p
}

// kids are those of a part. Each tells its own ones ahead of the next one, so that all count in the order in which they are told.
func (t *teller) kids(p api.Part, deep int) []api.Part {
	var l []api.Part
	for _, text := range t.texts(p) {
		if t.full() {
			break
		}
		l = append(l, t.tell(text, deep, multipart(p) && p.Sub == "digest"))
	}
	return l
}

func multipart(p api.Part) bool { return p.Type == "multipart" }

func letter(p api.Part) bool { return p.Type == "message" && p.Sub == "rfc822" }
