package cmd

import (
	"strconv"
	"strings"

	"haversack/api"
	"haversack/date"
	"haversack/names"
	"haversack/seqset"
)

// writer has the texts and literals of a command that are whole, and the text under way.
type writer struct {
	api.Raw
	tally
	under []byte
}

func (w *writer) put(pieces ...string) {
	for _, piece := range pieces {
		w.under = append(w.under, piece...)
	}
}

func (w *writer) literal(s string) {
	w.endText()
	w.Literals = append(w.Literals, s)
}

func (w *writer) endText() {
	w.Texts = append(w.Texts, string(w.under))
	w.under = nil
}

// whole is all that was written.
func (w *writer) whole() api.Raw {
	w.endText()
	return w.Raw
}

func (w *writer) string(s string) {
	if quoted := Quote(s); quoted != "" {
		w.put(quoted)
	} else {
		w.literal(s)
	}
}

// name writes a name, or a pattern of names.
func (w *writer) name(name string) {
	seven, _ := names.Encode(name)
	w.string(seven)
}

// spaced writes so many things, with a blank between.
func (w *writer) spaced(many int, one func(i int)) {
	for i := range many {
		if i > 0 {
			w.put(blank)
		}
		one(i)
	}
}

// list writes things likewise, within ( ).
func (w *writer) list(many int, one func(i int)) {
	w.put(opens)
	w.spaced(many, one)
	w.put(closes)
}

// listed writes texts within ( ) as they are.
func (w *writer) listed(l ...string) {
	w.list(len(l), func(i int) { w.put(l[i]) })
}

// behind writes what is behind a command's word.
func (w *writer) behind(c api.Command) {
	if len(c.Set) > 0 {
		w.put(blank, seqset.Print(c.Set...))
	}
	for _, word := range c.Words {
		w.put(blank)
		if c.Name == "LOGIN" {
			w.string(word)
		} else {
			w.name(word)
		}
	}
	switch c.Name {
	case "STATUS":
		w.put(blank)
		w.listed(c.Items...)
	case "APPEND":
		w.letters(c.Letters...)
	case "SEARCH":
		w.search(c.Key)
	case "FETCH":
		w.put(blank)
		w.list(len(c.Wants), func(i int) { w.want(c.Wants[i]) })
	case "STORE":
		w.store(c)
	}
}

func (w *writer) letters(l ...api.Letter) {
	for _, letter := range l {
		w.put(blank)
		w.listed(letter.Flags...)
		for _, d := range letter.Date {
			w.put(blank, Quote(date.Print(d)))
		}
		w.put(blank)
		w.literal(letter.Text)
	}
}

func (w *writer) store(c api.Command) {
	w.put(blank)
	switch c.Mode {
	case 1:
		w.put("+")
	case 2:
		w.put("-")
	}
	w.put("FLAGS")
	if c.Silent {
		w.put(silent)
	}
	w.put(blank)
	w.listed(c.Flags...)
}

func (w *writer) want(want api.Want) {
	w.put(want.Name)
	if !want.Part {
		return
	}
	if want.Peek {
		w.put(".PEEK")
	}
	w.put("[")
	w.section(want)
	w.put("]")
	if want.Cut {
		w.put("<", strconv.Itoa(want.From), point, strconv.Itoa(want.N), ">")
	}
}

func (w *writer) section(want api.Want) {
	for i, n := range want.Path {
		if i > 0 {
			w.put(point)
		}
		w.put(strconv.Itoa(n))
	}
	if len(want.Path) > 0 && want.What != "" {
		w.put(point)
	}
	if want.What != fields {
		w.put(want.What)
		return
	}
	w.put("HEADER.FIELDS")
	if want.Not {
		w.put(".NOT")
	}
	w.put(blank)
	w.list(len(want.Names), func(i int) { w.string(want.Names[i]) })
}

// search writes a search's keys. No more of them are written than a search has: the kids of those that Parse does not tell may be their own kids, and have no end.
func (w *writer) search(k api.Key) {
	w.counts(1)
	w.put(blank)
	w.keys(k.Kids, 2)
}

func (w *writer) keys(l []api.Key, deep int) {
	w.spaced(min(len(l), api.MaxKeys), func(i int) { w.key(l[i], deep) })
}

func (w *writer) key(k api.Key, deep int) {
	if !w.counts(deep) {
		return
	}
	switch k.Op {
	case seq:
		w.put(seqset.Print(k.Set...))
	case and:
		w.put(opens)
		w.keys(k.Kids, deep+1)
		w.put(closes)
	default:
		w.put(k.Op)
		w.behindKey(k, deep)
	}
}

// behindKey writes what is behind a key's word.
func (w *writer) behindKey(k api.Key, deep int) {
	kind := behindWord(k.Op)
	if kind == noKey || kind == ofNothing {
		return
	}
	w.put(blank)
	switch kind {
	case ofAtom:
		w.put(k.Text)
	case ofText:
		w.string(k.Text)
	case ofField:
		w.string(k.Field)
		w.put(blank)
		w.string(k.Text)
	case ofDay:
		w.put(dayText(k.N))
	case ofNumber:
		w.put(strconv.Itoa(k.N))
	case ofSet:
		w.put(seqset.Print(k.Set...))
	case ofKey, ofTwoKeys:
		w.keys(k.Kids, deep+1)
	}
}

// dayText is a day as date.Print has it, but for a first digit 0.
func dayText(n int) string {
	year, month, day := date.Civil(n)
	text := date.Print(api.Date{Year: year, Month: month, Day: day})
	if behind, is := strings.CutPrefix(text, blank); is {
		text = "0" + behind
	}
	text, _, _ = strings.Cut(text, blank)
	return text
}
