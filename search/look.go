package search

import (
	"slices"

	"haversack/api"
	"haversack/date"
	"haversack/header"
	"haversack/seqset"
	"haversack/words"
)

// deepest is how many keys within one another are gone through: more than may be asked for, so that just keys that are their own kids get as far.
const deepest = 1 << 17

// look is a message that is looked at.
type look struct {
	api.Mail
	seq, most, mostUID int
	read               bool // are its fields?
	fields             []api.Field
	deep               int // in how many keys
	lost               bool
}

// matches tells whether a key matches it.
func (m *look) matches(k api.Key) bool {
	switch k.Op {
	case "ALL":
		return true
	case "ANSWERED", "DELETED", "DRAFT", "FLAGGED", "SEEN":
		return Has(m.Flags, `\`+k.Op)
	case "UNANSWERED", "UNDELETED", "UNDRAFT", "UNFLAGGED", "UNSEEN":
		return !Has(m.Flags, `\`+k.Op[len("UN"):])
	case "KEYWORD":
		return Has(m.Flags, k.Text)
	case "UNKEYWORD":
		return !Has(m.Flags, k.Text)
	case "BCC", "CC", "FROM", "SUBJECT", "TO":
		return slices.ContainsFunc(m.values(k.Op), func(value string) bool { return Contains(words.Words(value), k.Text) })
	case "HEADER":
		return slices.ContainsFunc(m.values(k.Field), func(value string) bool { return Contains(value, k.Text) })
	case "BODY":
		return Contains(m.body(), k.Text)
	case "TEXT":
		return Contains(m.Text, k.Text)
	case "BEFORE", "ON", "SINCE":
		return placed(k.Op, number(m.Date), k.N)
	case "SENTBEFORE", "SENTON", "SENTSINCE":
		d, is := m.sent()
		return is && placed(k.Op[len("SENT"):], number(d), k.N)
	case "LARGER":
		return len(m.Text) > k.N
	case "SMALLER":
		return len(m.Text) < k.N
	case "SEQ":
		return seqset.Has(k.Set, m.seq, m.most)
	case "UID":
		return seqset.Has(k.Set, m.UID, m.mostUID)
	case "NOT":
		return m.some(k.Kids[:min(1, len(k.Kids))], false)
	case "OR":
		return m.some(k.Kids, true)
	case "AND":
		return !m.some(k.Kids, false)
	}
	return false
}

// some tells whether one of some keys matches, or (with matching false) does not. Once it is lost the first one ends it, so that all loops on the way back end, too.
func (m *look) some(kids []api.Key, matching bool) bool {
	m.deep++
	m.lost = m.lost || m.deep > deepest
	found := slices.ContainsFunc(kids, func(kid api.Key) bool { return m.lost || m.matches(kid) == matching })
	m.deep--
	return found
}

// values are those of its fields with a name. The fields are read when they are first asked for, since most keys ask for none.
func (m *look) values(name string) []string {
	if !m.read {
		head, _ := header.Cut(m.Text)
		m.fields, m.read = header.Fields(head), true
	}
	return header.Get(m.fields, name)
}

// body is its text behind the header.
func (m *look) body() string {
	_, body := header.Cut(m.Text)
	return body
}

// sent is what its first field date tells; false, if that can't be read.
func (m *look) sent() (api.Date, bool) {
	values := m.values("date")
	if len(values) == 0 {
		return api.Date{}, false
	}
	d, e := date.Mail(values[0])
	return d, e == api.OK
}

// number is the number of a date's day.
func number(d api.Date) int { return date.Days(d.Year, d.Month, d.Day) }

// placed tells whether a day is before, on, or on or behind another one.
func placed(op string, day, n int) bool {
	switch op {
	case "BEFORE":
		return day < n
	case "ON":
		return day == n
	}
	return day >= n
}
