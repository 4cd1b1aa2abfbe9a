package cmd

import "haversack/api"

// tally is how many keys of a search have come so far.
type tally struct{ many int }

// counts counts one more, that is one of so many within one another, and tells whether it may be.
func (t *tally) counts(deep int) bool {
	t.many++
	return t.many <= api.MaxKeys && deep <= api.MaxNest
}

// The keys that no word stands for.
const (
	and = "AND"
	seq = "SEQ"
)

// What is behind a key's word.
const (
	noKey = iota // nothing is, since it is none
	ofNothing
	ofAtom
	ofText
	ofField
	ofDay
	ofNumber
	ofSet
	ofKey
	ofTwoKeys
)

// behindWord is what is behind a word.
func behindWord(word string) int {
	switch word {
	case "ALL", "ANSWERED", "DELETED", "DRAFT", "FLAGGED", "SEEN", "UNANSWERED", "UNDELETED", "UNDRAFT", "UNFLAGGED", "UNSEEN":
		return ofNothing
	case "KEYWORD", "UNKEYWORD":
		return ofAtom
	case "BCC", "BODY", "CC", "FROM", "SUBJECT", "TEXT", "TO":
		return ofText
	case "HEADER":
		return ofField
	case "BEFORE", "ON", "SINCE", "SENTBEFORE", "SENTON", "SENTSINCE":
		return ofDay
	case "LARGER", "SMALLER":
		return ofNumber
	case uid:
		return ofSet
	case "NOT":
		return ofKey
	case "OR":
		return ofTwoKeys
	}
	return noKey
}

// search reads a search's keys. The AND of them is one itself.
func (r *reader) search() {
	must(r.counts(1))
	r.blank()
	r.Key.Op = and
	r.spaced(func() { r.Key.Kids = append(r.Key.Kids, r.key(2)) })
}

// key reads one that is one of so many within one another.
func (r *reader) key(deep int) api.Key {
	must(r.counts(deep))
	if r.starts(opens) {
		k := api.Key{Op: and}
		r.list(func() { k.Kids = append(k.Kids, r.key(deep+1)) })
		return k
	}
	if r.startsWith(setLetter) {
		return api.Key{Op: seq, Set: r.spans()}
	}
	k := api.Key{Op: r.word()}
	r.behindKey(&k, deep)
	return k
}

// behindKey reads what is behind a key's word.
func (r *reader) behindKey(k *api.Key, deep int) {
	kind := behindWord(k.Op)
	must(kind != noKey)
	if kind == ofNothing {
		return
	}
	r.blank()
	switch kind {
	case ofAtom:
		k.Text = r.atom()
	case ofText:
		k.Text = r.astring()
	case ofField:
		k.Field = r.astring()
		r.blank()
		k.Text = r.astring()
	case ofDay:
		k.N = r.day()
	case ofNumber:
		k.N = r.number()
	case ofSet:
		k.Set = r.spans()
	case ofKey:
		k.Kids = []api.Key{r.key(deep + 1)}
	case ofTwoKeys:
		first := r.key(deep + 1)
		r.blank()
		k.Kids = []api.Key{first, r.key(deep + 1)}
	}
}
