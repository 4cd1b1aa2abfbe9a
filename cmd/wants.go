package cmd

import "haversack/api"

func (r *reader) wants() {
	r.blank()
	if r.starts(opens) {
		r.list(func() { r.Wants = append(r.Wants, r.want(r.word())) })
		return
	}
	word := r.word()
	r.Wants = short(word)
	if len(r.Wants) == 0 {
		r.Wants = []api.Want{r.want(word)}
	}
}

// short is what a word stands for that stands for several wants.
func short(word string) []api.Want {
	full := []api.Want{{Name: "FLAGS"}, {Name: "INTERNALDATE"}, {Name: "RFC822.SIZE"}, {Name: "ENVELOPE"}, {Name: "BODY"}}
	switch word {
	case "FAST":
		return full[:3]
	case "ALL":
		return full[:4]
	case "FULL":
		return full
	}
	return nil
}

// want reads one behind its word.
func (r *reader) want(word string) api.Want {
	switch word {
	case "ENVELOPE", "FLAGS", "INTERNALDATE", "RFC822.SIZE", "BODYSTRUCTURE", "UID", "EMAILID":
		return api.Want{Name: word}
	case "BODY":
		if !r.starts("[") {
			return api.Want{Name: word}
		}
	default:
		must(word == "BODY.PEEK")
	}
	w := api.Want{Name: "BODY", Part: true, Peek: word != "BODY"}
	r.need("[")
	r.section(&w)
	r.need("]")
	r.cut(&w)
	return w
}

// section reads one: behind the point of a number another number or a word must come.
func (r *reader) section(w *api.Want) {
	if r.starts("]") {
		return
	}
	for r.startsWith(digit) {
		w.Path = append(w.Path, r.positive())
		if !r.takes(point) {
			return
		}
	}
	r.what(w)
}

func (r *reader) what(w *api.Want) {
	w.What = r.word()
	switch w.What {
	case "TEXT", "HEADER":
	case "MIME":
		must(len(w.Path) > 0)
	case "HEADER.FIELDS", "HEADER.FIELDS.NOT":
		w.Not = w.What == "HEADER.FIELDS.NOT"
		w.What = fields
		r.blank()
		r.list(func() { w.Names = append(w.Names, r.astring()) })
	default:
		must(false)
	}
}

// fields is what a want asks for by the names of fields.
const fields = "FIELDS"

func (r *reader) cut(w *api.Want) {
	if !r.takes("<") {
		return
	}
	w.Cut = true
	w.From = r.number()
	r.need(point)
	w.N = r.positive()
	r.need(">")
}
