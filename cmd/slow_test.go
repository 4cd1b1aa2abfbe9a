package cmd_test

import (
	"math/big"
	"regexp"
	"slices"
	"strings"

	"haversack/api"
	"haversack/date"
	"haversack/names"
	"haversack/seqset"
)

// The slow reader goes all ways at one time: each thing of the chapter tells all values that may begin at a spot, with where they end; what ends at the command's end is the command.

// spot is a place in one of a command's texts.
type spot struct{ text, at int }

type got[T any] struct {
	v   T
	end spot
}

type way[T any] func(r api.Raw, from spot) []got[T]

func left(r api.Raw, from spot) string { return r.Texts[from.text][from.at:] }

func (s spot) on(n int) spot { return spot{s.text, s.at + n} }

// just reads nothing, and tells a value.
func just[T any](v T) way[T] {
	return func(_ api.Raw, from spot) []got[T] { return []got[T]{{v, from}} }
}

// sign reads a text as it is.
func sign(s string) way[string] {
	return func(r api.Raw, from spot) []got[string] {
		if strings.HasPrefix(left(r, from), s) {
			return []got[string]{{s, from.on(len(s))}}
		}
		return nil
	}
}

// of reads one of some words, in whatever letters.
func of(words ...string) way[string] {
	return func(r api.Raw, from spot) []got[string] {
		var all []got[string]
		for _, word := range words {
			if s := left(r, from); len(s) >= len(word) && inLetters(s[:len(word)], great) == word {
				all = append(all, got[string]{word, from.on(len(word))})
			}
		}
		return all
	}
}

// run reads one letter or more of a kind, and tells each beginning of them.
func run(such func(byte) bool) way[string] {
	return func(r api.Raw, from spot) []got[string] {
		var all []got[string]
		s := left(r, from)
		for n := 0; n < len(s) && such(s[n]); n++ {
			all = append(all, got[string]{s[:n+1], from.on(n + 1)})
		}
		return all
	}
}

// then reads one thing, and behind it another one, that hangs on it.
func then[A, B any](first way[A], next func(A) way[B]) way[B] {
	return func(r api.Raw, from spot) []got[B] {
		var all []got[B]
		for _, a := range first(r, from) {
			all = append(all, next(a.v)(r, a.end)...)
		}
		return all
	}
}

// behind reads one thing behind another one, which tells nothing.
func behind[A, B any](first way[A], next way[B]) way[B] {
	return then(first, func(A) way[B] { return next })
}

// ahead reads one thing ahead of another one, which tells nothing.
func ahead[A, B any](first way[A], next way[B]) way[A] {
	return then(first, func(a A) way[A] { return behind(next, just(a)) })
}

func either[T any](ways ...way[T]) way[T] {
	return func(r api.Raw, from spot) []got[T] {
		var all []got[T]
		for _, one := range ways {
			all = append(all, one(r, from)...)
		}
		return all
	}
}

// with makes another value, if there is one.
func with[A, B any](first way[A], made func(A) (B, bool)) way[B] {
	return then(first, func(a A) way[B] {
		if b, is := made(a); is {
			return just(b)
		}
		return func(api.Raw, spot) []got[B] { return nil }
	})
}

func as[A, B any](first way[A], made func(A) B) way[B] {
	return with(first, func(a A) (B, bool) { return made(a), true })
}

// row reads one thing or more, with something between.
func row[T any](between string, one way[T]) way[[]T] {
	longer := behind(sign(between), one)
	return func(r api.Raw, from spot) []got[[]T] {
		var all []got[[]T]
		for _, first := range one(r, from) {
			all = append(all, got[[]T]{[]T{first.v}, first.end})
		}
		for i := 0; i < len(all); i++ {
			for _, more := range longer(r, all[i].end) {
				all = append(all, got[[]T]{append(slices.Clip(all[i].v), more.v), more.end})
			}
		}
		return all
	}
}

// inside reads a thing within ( ).
func inside[T any](one way[T]) way[T] { return ahead(behind(sign("("), one), sign(")")) }

func blank[T any](one way[T]) way[T] { return behind(sign(" "), one) }

func slowSeen(but string) func(byte) bool {
	return func(b byte) bool { return b >= 33 && b <= 126 && !strings.Contains(but, string([]byte{b})) }
}

// The letters, as the chapter has them.
var (
	slowAtom    = run(slowSeen(`(){%*"\]`))
	slowAstring = either(run(slowSeen(`(){%*"\`)), slowString)
	slowPattern = either(run(slowSeen(`(){"\`)), slowString)
	slowDigits  = run(func(b byte) bool { return b >= '0' && b <= '9' })
	slowName    = with(slowAstring, slowKnown)
	slowFlag    = either(slowAtom, as(behind(sign(`\`), slowAtom), func(s string) string { return `\` + s }))
	slowFlags   = either(inside(row(" ", slowFlag)), behind(sign("()"), just([]string(nil))))
	slowSet     = with(run(func(b byte) bool { return strings.Contains("0123456789:,*", string([]byte{b})) }), slowSpans)
	slowNumber  = with(slowDigits, slowValue)
	slowMore    = with(slowNumber, func(n int) (int, bool) { return n, n != 0 })
	slowDay     = with(either(slowAtom, slowQuoted), func(s string) (int, bool) { n, e := date.Day(s); return n, e == api.OK })
	slowDate    = with(slowQuoted, func(s string) (api.Date, bool) { d, e := date.Internal(s); return d, e == api.OK })
)

var formQuoted = regexp.MustCompile(`\A"((?:[^\x00-\x1F\x7F"\\]|\\\\|\\")*)"`)

func slowQuoted(r api.Raw, from spot) []got[string] {
	m := formQuoted.FindStringSubmatch(left(r, from))
	if m == nil {
		return nil
	}
	return []got[string]{{strings.NewReplacer(`\\`, `\`, `\"`, `"`).Replace(m[1]), from.on(len(m[0]))}}
}

func slowLiteral(r api.Raw, from spot) []got[string] {
	if left(r, from) != "" || from.text >= len(r.Literals) {
		return nil
	}
	return []got[string]{{r.Literals[from.text], spot{from.text + 1, 0}}}
}

func slowString(r api.Raw, from spot) []got[string] {
	return append(slowQuoted(r, from), slowLiteral(r, from)...)
}

func slowKnown(s string) (string, bool) {
	name, e := names.Decode(s)
	return names.Norm(name), e == api.OK
}

func slowSpans(s string) ([]api.Span, bool) {
	l, e := seqset.Parse(s)
	return l, e == api.OK
}

func slowValue(digits string) (int, bool) {
	n, _ := new(big.Int).SetString(digits, 10)
	return int(n.Int64()), n.String() == digits && n.Cmp(big.NewInt(1<<32-1)) <= 0
}

// slowSections are what may stand in [ ].
func slowSections() way[api.Want] {
	path := row(".", slowMore)
	what := func(words ...string) way[api.Want] {
		return as(of(words...), func(s string) api.Want { return api.Want{What: s} })
	}
	fields := then(of("HEADER.FIELDS", "HEADER.FIELDS.NOT"), func(word string) way[api.Want] {
		return as(blank(inside(row(" ", slowAstring))), func(l []string) api.Want {
			return api.Want{What: "FIELDS", Not: word == "HEADER.FIELDS.NOT", Names: l}
		})
	})
	return either(
		just(api.Want{}),
		as(path, func(l []int) api.Want { return api.Want{Path: l} }),
		what("TEXT", "HEADER"),
		fields,
		then(ahead(path, sign(".")), func(l []int) way[api.Want] {
			return as(either(what("TEXT", "HEADER", "MIME"), fields), func(w api.Want) api.Want {
				w.Path = l
				return w
			})
		}),
	)
}

func slowWant() way[api.Want] {
	part := then(of("BODY", "BODY.PEEK"), func(word string) way[api.Want] {
		return as(ahead(behind(sign("["), slowSections()), sign("]")), func(w api.Want) api.Want {
			w.Name, w.Part, w.Peek = "BODY", true, word == "BODY.PEEK"
			return w
		})
	})
	cut := then(part, func(w api.Want) way[api.Want] {
		return then(behind(sign("<"), slowNumber), func(from int) way[api.Want] {
			return as(ahead(behind(sign("."), slowMore), sign(">")), func(n int) api.Want {
				w.Cut, w.From, w.N = true, from, n
				return w
			})
		})
	})
	words := of("ENVELOPE", "FLAGS", "INTERNALDATE", "RFC822.SIZE", "BODYSTRUCTURE", "BODY", "UID", "EMAILID")
	return either(as(words, func(s string) api.Want { return api.Want{Name: s} }), part, cut)
}

func slowWants() way[[]api.Want] {
	short := func(word string, wants ...string) way[[]api.Want] {
		return as(of(word), func(string) []api.Want {
			var l []api.Want
			for _, name := range wants {
				l = append(l, api.Want{Name: name})
			}
			return l
		})
	}
	return either(
		inside(row(" ", slowWant())),
		as(slowWant(), func(w api.Want) []api.Want { return []api.Want{w} }),
		short("FAST", "FLAGS", "INTERNALDATE", "RFC822.SIZE"),
		short("ALL", "FLAGS", "INTERNALDATE", "RFC822.SIZE", "ENVELOPE"),
		short("FULL", "FLAGS", "INTERNALDATE", "RFC822.SIZE", "ENVELOPE", "BODY"),
	)
}

// slowKey reads a key. How many there are, and how deep, is looked at behind it.
func slowKey(r api.Raw, from spot) []got[api.Key] {
	op := func(word string) way[string] { return ahead(of(word), sign(" ")) }
	ways := []way[api.Key]{
		as(of("ALL", "ANSWERED", "DELETED", "DRAFT", "FLAGGED", "SEEN", "UNANSWERED", "UNDELETED", "UNDRAFT", "UNFLAGGED", "UNSEEN"),
			func(s string) api.Key { return api.Key{Op: s} }),
		as(slowSet, func(l []api.Span) api.Key { return api.Key{Op: "SEQ", Set: l} }),
		as(behind(op("UID"), slowSet), func(l []api.Span) api.Key { return api.Key{Op: "UID", Set: l} }),
		as(behind(op("NOT"), way[api.Key](slowKey)), func(k api.Key) api.Key { return api.Key{Op: "NOT", Kids: []api.Key{k}} }),
		then(behind(op("OR"), way[api.Key](slowKey)), func(a api.Key) way[api.Key] {
			return as(blank(way[api.Key](slowKey)), func(b api.Key) api.Key { return api.Key{Op: "OR", Kids: []api.Key{a, b}} })
		}),
		as(inside(row(" ", way[api.Key](slowKey))), func(l []api.Key) api.Key { return api.Key{Op: "AND", Kids: l} }),
		then(behind(op("HEADER"), slowAstring), func(field string) way[api.Key] {
			return as(blank(slowAstring), func(s string) api.Key { return api.Key{Op: "HEADER", Field: field, Text: s} })
		}),
	}
	for _, word := range []string{"KEYWORD", "UNKEYWORD"} {
		ways = append(ways, as(behind(op(word), slowAtom), func(s string) api.Key { return api.Key{Op: word, Text: s} }))
	}
	for _, word := range []string{"BCC", "BODY", "CC", "FROM", "SUBJECT", "TEXT", "TO"} {
		ways = append(ways, as(behind(op(word), slowAstring), func(s string) api.Key { return api.Key{Op: word, Text: s} }))
	}
	for _, word := range []string{"BEFORE", "ON", "SINCE", "SENTBEFORE", "SENTON", "SENTSINCE"} {
		ways = append(ways, as(behind(op(word), slowDay), func(n int) api.Key { return api.Key{Op: word, N: n} }))
	}
	for _, word := range []string{"LARGER", "SMALLER"} {
		ways = append(ways, as(behind(op(word), slowNumber), func(n int) api.Key { return api.Key{Op: word, N: n} }))
	}
	return either(ways...)(r, from)
}

// slowCounts are how many keys a key is, and how many within one another.
func slowCounts(k api.Key) (many, deep int) {
	for _, kid := range k.Kids {
		m, d := slowCounts(kid)
		many, deep = many+m, max(deep, d)
	}
	return many + 1, deep + 1
}

func slowSearch() way[api.Command] {
	return with(blank(row(" ", way[api.Key](slowKey))), func(l []api.Key) (api.Command, bool) {
		k := api.Key{Op: "AND", Kids: l}
		many, deep := slowCounts(k)
		return api.Command{Key: k}, many <= 200 && deep <= 8
	})
}

func slowLetter() way[api.Letter] {
	flags := either(just([]string(nil)), blank(slowFlags))
	day := either(just([]api.Date(nil)), blank(as(slowDate, func(d api.Date) []api.Date { return []api.Date{d} })))
	return then(flags, func(l []string) way[api.Letter] {
		return then(day, func(d []api.Date) way[api.Letter] {
			return as(blank(way[string](slowLiteral)), func(s string) api.Letter { return api.Letter{Flags: l, Date: d, Text: s} })
		})
	})
}

func slowStore() way[api.Command] {
	mode := either(just(0), as(sign("+"), func(string) int { return 1 }), as(sign("-"), func(string) int { return 2 }))
	return blank(then(mode, func(mode int) way[api.Command] {
		return then(of("FLAGS", "FLAGS.SILENT"), func(word string) way[api.Command] {
			return as(blank(either(slowFlags, row(" ", slowFlag))), func(l []string) api.Command {
				return api.Command{Mode: mode, Silent: word != "FLAGS", Flags: l}
			})
		})
	}))
}

// slowWords reads what is told as Words.
func slowWords(each ...way[string]) way[api.Command] {
	all := just([]string(nil))
	for _, one := range each {
		all = then(all, func(l []string) way[[]string] {
			return as(blank(one), func(s string) []string { return append(slices.Clone(l), s) })
		})
	}
	return as(all, func(l []string) api.Command { return api.Command{Words: l} })
}

// slowBehind is what may stand behind each word.
func slowBehind(word string, numbered bool) way[api.Command] {
	behindSet := func(next way[api.Command]) way[api.Command] {
		return then(blank(slowSet), func(l []api.Span) way[api.Command] {
			return as(next, func(c api.Command) api.Command {
				c.Set = l
				return c
			})
		})
	}
	switch word {
	case "EXPUNGE":
		if !numbered {
			return just(api.Command{})
		}
		return behindSet(just(api.Command{}))
	case "SEARCH":
		return slowSearch()
	case "FETCH":
		return behindSet(as(blank(slowWants()), func(l []api.Want) api.Command { return api.Command{Wants: l} }))
	case "STORE":
		return behindSet(slowStore())
	case "COPY", "MOVE":
		return behindSet(slowWords(slowName))
	case "LOGIN":
		return slowWords(slowAstring, slowAstring)
	case "RENAME":
		return slowWords(slowName, slowName)
	case "LIST", "LSUB":
		return slowWords(slowName, with(slowPattern, slowKnown))
	case "STATUS":
		item := of("MESSAGES", "UIDNEXT", "UIDVALIDITY", "UNSEEN", "DELETED", "SIZE", "MAILBOXID")
		return then(slowWords(slowName), func(c api.Command) way[api.Command] {
			return as(blank(inside(row(" ", item))), func(l []string) api.Command { return api.Command{Words: c.Words, Items: l} })
		})
	case "APPEND":
		return then(slowWords(slowName), func(c api.Command) way[api.Command] {
			return as(row("", slowLetter()), func(l []api.Letter) api.Command { return api.Command{Words: c.Words, Letters: l} })
		})
	case "SELECT", "EXAMINE", "CREATE", "DELETE", "SUBSCRIBE", "UNSUBSCRIBE", "GETQUOTA":
		return slowWords(slowName)
	}
	return just(api.Command{})
}

func slowNamed(numbered bool, words ...string) way[api.Command] {
	return then(of(words...), func(word string) way[api.Command] {
		return as(slowBehind(word, numbered), func(c api.Command) api.Command {
			c.Name, c.UID = word, numbered
			return c
		})
	})
}

var slowCommand = either(
	slowNamed(false, "CAPABILITY", "NOOP", "LOGOUT", "IDLE", "CLOSE", "UNSELECT", "EXPUNGE", "LOGIN", "SELECT", "EXAMINE", "CREATE", "DELETE", "SUBSCRIBE",
		"UNSUBSCRIBE", "GETQUOTA", "RENAME", "LIST", "LSUB", "STATUS", "APPEND", "SEARCH", "FETCH", "STORE", "COPY", "MOVE"),
	behind(of("UID"), blank(slowNamed(true, "EXPUNGE", "SEARCH", "FETCH", "STORE", "COPY", "MOVE"))),
)

var formTag = regexp.MustCompile(`\A([!#$&',-/0-9:;=?@A-Z^_` + "`" + `a-z|~]{1,20})( ?)`)

// slowTag is the tag that stands at a command's beginning, and whether a blank is behind it.
func slowTag(r api.Raw) (string, bool) {
	if len(r.Texts) == 0 {
		return "", false
	}
	m := formTag.FindStringSubmatch(r.Texts[0])
	switch {
	case m == nil:
		return "", false
	case m[2] == " ":
		return m[1], true
	case len(r.Texts) == 1 && len(r.Literals) == 0 && m[0] == r.Texts[0]:
		return m[1], false
	}
	return "", false
}

func slowParse(r api.Raw) (api.Command, api.Errno) {
	tag, more := slowTag(r)
	none := api.Command{Tag: tag}
	if !more || len(r.Texts) != len(r.Literals)+1 {
		return none, api.ErrForm
	}
	var whole []api.Command
	last := len(r.Texts) - 1
	for _, one := range slowCommand(r, spot{0, len(tag) + 1}) {
		if one.end == (spot{last, len(r.Texts[last])}) {
			one.v.Tag = tag
			whole = append(whole, one.v)
		}
	}
	switch len(whole) {
	case 0:
		return none, api.ErrForm
	case 1:
		return whole[0], api.OK
	}
	panic("a command can be read in several ways: " + tell(r))
}
