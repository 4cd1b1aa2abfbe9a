package resp

import "haversack/api"

// reader has what is left of a text, and how many lists and sections are open where it is.
type reader struct {
	rest
	open int
}

func (r *reader) lines() []api.Line {
	var l []api.Line
	for r.left != "" {
		l = append(l, r.line())
	}
	return l
}

func (r *reader) line() api.Line {
	l := api.Line{Tag: r.run(letter)}
	r.need(blank)
	if l.Tag == goOn {
		l.Text = r.run(plain)
	} else {
		r.behindTag(&l)
	}
	r.need(lineEnd)
	return l
}

// behindTag reads a status and what is behind it, or, if none is there, values, the first of which may begin likewise.
func (r *reader) behindTag(l *api.Line) {
	values := r.rest
	word := r.run(letter)
	if !isStatus(word) || !r.takes(blank) {
		r.rest = values
		l.Vals = r.values()
		return
	}
	l.Status = word
	if r.takes("[") {
		l.Code = r.values()
		r.need("]")
		r.need(blank)
	}
	l.Text = r.run(plain)
}

// values reads one at least.
func (r *reader) values() []api.Val {
	l := []api.Val{r.value()}
	for r.takes(blank) {
		l = append(l, r.value())
	}
	return l
}

func (r *reader) value() api.Val {
	switch {
	case r.takes(quote):
		return Text(r.quoted())
	case r.takes("{"):
		return Text(r.counted())
	case r.takes("("):
		return api.Val{Kind: api.ValList, Kids: r.kids(")")}
	}
	return r.word()
}

// word reads a value that begins with letters of an atom. Without one it is no number either.
func (r *reader) word() api.Val {
	word := r.run(letter)
	switch {
	case r.takes("["):
		return r.section(word)
	case only(word, digit):
		return Number(asNumber(word))
	case word == none:
		return Nil()
	}
	return Atom(word)
}

func (r *reader) section(name string) api.Val {
	v := api.Val{Kind: api.ValSection, Text: name, Kids: r.kids("]")}
	if r.takes("<") {
		v.From = []int{r.number()}
		r.need(">")
	}
	return v
}

// kids reads values up to a sign, and gives up where too many lists and sections are open, so that no text is too deep for it.
func (r *reader) kids(end string) []api.Val {
	r.open++
	must(r.open <= api.MaxVals)
	var l []api.Val
	if !r.takes(end) {
		l = r.values()
		r.need(end)
	}
	r.open--
	return l
}

// quoted reads a string behind its first quote, and the other quote.
func (r *reader) quoted() string {
	var s []byte
	for !r.takes(quote) {
		r.takes(escape)
		s = append(s, r.bytes(1)...)
	}
	return string(s)
}

// counted reads a string behind its {.
func (r *reader) counted() string {
	n := r.number()
	r.need("}" + lineEnd)
	return r.bytes(n)
}
