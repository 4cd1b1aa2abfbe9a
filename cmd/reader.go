package cmd

import (
	"strings"

	"haversack/api"
)

// uid stands ahead of the words of some commands.
const uid = "UID"

// silent stands behind STORE's word.
const silent = ".SILENT"

// reader has its place in a command, and what it has read of it.
type reader struct {
	place
	tally
	api.Command
}

func (r *reader) command() {
	r.begin()
	r.tag()
	r.Name = r.word()
	if r.Name == uid {
		r.blank()
		r.UID, r.Name = true, r.word()
	}
	if !r.ofMessages() {
		must(!r.UID)
		r.others()
	}
	must(r.ended())
}

// tag reads it, and the blank behind it. It is told even if what is behind it is no command, or nothing. Texts that no literal stands between are looked at behind it.
func (r *reader) tag() {
	tag := r.some(tagLetter)
	alone := r.left == "" && len(r.Texts) == 1 && len(r.Literals) == 0
	must(len(tag) <= api.MaxTag && (alone || r.starts(blank)))
	r.Tag = tag
	r.blank()
	must(len(r.Texts) == len(r.Literals)+1)
}

// ofMessages reads what is behind a word that UID may stand ahead of, and tells whether it is one.
func (r *reader) ofMessages() bool {
	switch r.Name {
	case "EXPUNGE":
		if r.UID {
			r.set()
		}
	case "SEARCH":
		r.search()
	case "FETCH":
		r.set()
		r.wants()
	case "STORE":
		r.set()
		r.store()
	case "COPY", "MOVE":
		r.set()
		r.words(r.name)
	default:
		return false
	}
	return true
}

// others reads what is behind another word.
func (r *reader) others() {
	switch r.Name {
	case "CAPABILITY", "NOOP", "LOGOUT", "IDLE", "CLOSE", "UNSELECT":
	case "LOGIN":
		r.words(r.astring, r.astring)
	case "SELECT", "EXAMINE", "CREATE", "DELETE", "SUBSCRIBE", "UNSUBSCRIBE", "GETQUOTA":
		r.words(r.name)
	case "RENAME":
		r.words(r.name, r.name)
	case "LIST", "LSUB":
		r.words(r.name, r.pattern)
	case "STATUS":
		r.words(r.name)
		r.items()
	case "APPEND":
		r.words(r.name)
		r.letters()
	default:
		must(false)
	}
}

// words reads what is told as Words, each with a blank ahead.
func (r *reader) words(each ...func() string) {
	for _, read := range each {
		r.blank()
		r.Words = append(r.Words, read())
	}
}

func (r *reader) set() {
	r.blank()
	r.Set = r.spans()
}

func (r *reader) items() {
	r.blank()
	r.list(func() { r.Items = append(r.Items, r.item()) })
}

func (r *reader) item() string {
	word := r.word()
	switch word {
	case "MESSAGES", "UIDNEXT", "UIDVALIDITY", "UNSEEN", "DELETED", "SIZE", "MAILBOXID":
	default:
		must(false)
	}
	return word
}

func (r *reader) letters() {
	r.Letters = []api.Letter{r.letter()}
	for !r.ended() {
		r.Letters = append(r.Letters, r.letter())
	}
}

func (r *reader) letter() api.Letter {
	var l api.Letter
	r.blank()
	if r.starts(opens) {
		l.Flags = r.flags()
		r.blank()
	}
	if r.starts(quote) {
		l.Date = []api.Date{r.date()}
		r.blank()
	}
	l.Text = r.literal()
	return l
}

func (r *reader) store() {
	r.blank()
	switch {
	case r.takes("+"):
		r.Mode = 1
	case r.takes("-"):
		r.Mode = 2
	}
	word, is := strings.CutSuffix(r.word(), silent)
	must(word == "FLAGS")
	r.Silent = is
	r.blank()
	if r.starts(opens) {
		r.Flags = r.flags()
	} else {
		r.Flags = r.bareFlags()
	}
}
