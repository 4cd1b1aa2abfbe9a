package cmd_test

import (
	"slices"
	"strings"
	"testing"

	"haversack/api"
)

// P14.1: each command of the table, but for what wants_test.go and keys_test.go have.

// first is the chapter's example.
var first = api.Command{
	Tag: "a1", Name: "FETCH", UID: true, Set: []api.Span{{From: 1}},
	Wants: []api.Want{{Name: "FLAGS"}, {Name: "BODY", Part: true, Peek: true, Path: []int{1}, What: "FIELDS", Names: []string{"to"}, Cut: true, N: 9}},
}

func TestExample(t *testing.T) {
	wantCommand(t, "the example", rawOf("a1 uid Fetch 1:* (flags BODY.peek[1.HEADER.fields (to)]<0.9>)"), first)
}

// plainCommands have each command of the table with what stands behind its word, whose words are great.
var plainCommands = []struct {
	behind string
	wanted api.Command
}{
	{"CAPABILITY", api.Command{}},
	{"NOOP", api.Command{}},
	{"LOGOUT", api.Command{}},
	{"IDLE", api.Command{}},
	{"CLOSE", api.Command{}},
	{"UNSELECT", api.Command{}},
	{"EXPUNGE", api.Command{}},
	{"LOGIN 1 2", api.Command{Words: []string{"1", "2"}}},
	{"SELECT 1", api.Command{Words: []string{"1"}}},
	{"EXAMINE 1", api.Command{Words: []string{"1"}}},
	{"CREATE 1/2", api.Command{Words: []string{"1/2"}}},
	{"DELETE 1", api.Command{Words: []string{"1"}}},
	{"SUBSCRIBE 1", api.Command{Words: []string{"1"}}},
	{"UNSUBSCRIBE 1", api.Command{Words: []string{"1"}}},
	{`GETQUOTA ""`, api.Command{Words: []string{""}}},
	{"RENAME 1 2", api.Command{Words: []string{"1", "2"}}},
	{`LIST "" *`, api.Command{Words: []string{"", "*"}}},
	{"LSUB 1/ %", api.Command{Words: []string{"1/", "%"}}},
	{"STATUS 1 (MESSAGES)", api.Command{Words: []string{"1"}, Items: []string{"MESSAGES"}}},
	{"STATUS 1 (UIDNEXT UIDVALIDITY UNSEEN DELETED SIZE MAILBOXID MESSAGES)", api.Command{Words: []string{"1"}, Items: []string{"UIDNEXT", "UIDVALIDITY", "UNSEEN", "DELETED", "SIZE", "MAILBOXID", "MESSAGES"}}},
	{"SEARCH ALL", api.Command{Key: api.Key{Op: "AND", Kids: []api.Key{{Op: "ALL"}}}}},
	{"FETCH 1 FLAGS", api.Command{Set: set(1, 1), Wants: []api.Want{{Name: "FLAGS"}}}},
	{"STORE 1 FLAGS 3", api.Command{Set: set(1, 1), Flags: []string{"3"}}},
	{"STORE 1 +FLAGS.SILENT (3)", api.Command{Set: set(1, 1), Mode: 1, Silent: true, Flags: []string{"3"}}},
	{"COPY 1 2", api.Command{Set: set(1, 1), Words: []string{"2"}}},
	{"MOVE 1:2,* 2", api.Command{Set: set(1, 2, 0, 0), Words: []string{"2"}}},
	{"UID EXPUNGE 1:*", api.Command{UID: true, Set: set(1, 0)}},
	{"UID SEARCH ALL", api.Command{UID: true, Key: api.Key{Op: "AND", Kids: []api.Key{{Op: "ALL"}}}}},
	{"UID FETCH 1 UID", api.Command{UID: true, Set: set(1, 1), Wants: []api.Want{{Name: "UID"}}}},
	{"UID STORE 1 -FLAGS ()", api.Command{UID: true, Set: set(1, 1), Mode: 2}},
	{"UID COPY 1 2", api.Command{UID: true, Set: set(1, 1), Words: []string{"2"}}},
	{"UID MOVE 1 2", api.Command{UID: true, Set: set(1, 1), Words: []string{"2"}}},
}

// named is what stands behind UID, if that stands ahead, and the command's word.
func named(behind string) (string, string) {
	behind = strings.TrimPrefix(behind, "UID ")
	word, _, _ := strings.Cut(behind, " ")
	return behind, word
}

func TestEachCommand(t *testing.T) {
	for _, one := range plainCommands {
		_, one.wanted.Name = named(one.behind)
		one.wanted.Tag = "t"
		for _, letters := range []func(byte) byte{great, small, mixed} {
			s := "t " + inLetters(one.behind, letters)
			wantCommand(t, "a command", rawOf(s), one.wanted)
			refused(t, "a blank at its end", rawOf(s+" "), "t")
			for _, tail := range []string{"\r", "\n", "\x00", ")", "\"", "{1}", "\t"} {
				refused(t, "a byte more", rawOf(s+tail), "t")
			}
			refused(t, "a literal behind it", rawOf(s, "x", ""), "t")
			refused(t, "a literal behind it", rawOf(s+" ", "x", ""), "t")
			refused(t, "a literal behind it, and what goes on", rawOf(s, "x", " NOOP"), "t")
			refused(t, "two literals behind it", rawOf(s+" ", "x", " ", "", ""), "t")
			refused(t, "a text too many", api.Raw{Texts: []string{s, ""}}, "t")
			refused(t, "a literal too many", api.Raw{Texts: []string{s}, Literals: []string{""}}, "t")
		}
	}
}

func TestBlanks(t *testing.T) {
	for _, one := range plainCommands {
		for at := range one.behind {
			if one.behind[at] != ' ' {
				continue
			}
			none := rawOf("t " + one.behind[:at] + one.behind[at+1:])
			asSlow(t, none) // SEARCH ALL without its blank is none, a set and a number may become another set
			refused(t, "two blanks", rawOf("t "+one.behind[:at]+" "+one.behind[at:]), "t")
			refused(t, "a byte 9", rawOf("t "+one.behind[:at]+"\t"+one.behind[at+1:]), "t")
			refused(t, "an empty literal for a blank", rawOf("t "+one.behind[:at], "", one.behind[at+1:]), "t")
			refused(t, "a blank that is a literal", rawOf("t "+one.behind[:at], " ", one.behind[at+1:]), "t")
		}
		asSlow(t, rawOf("t"+one.behind)) // without UID that may be a command with another tag
		refused(t, "two blanks behind the tag", rawOf("t  "+one.behind), "t")
	}
}

func TestWordsThatAreNone(t *testing.T) {
	for _, one := range plainCommands {
		behind, word := named(one.behind)
		rest := behind[len(word):]
		for _, other := range []string{"", word[1:], word[:len(word)-1], word + "X", word + ".", word + "1", "X" + word, word + word, `"` + word + `"`, "(" + word + ")", "\\" + word, word + "\x00", word[:1] + " " + word[1:]} {
			asSlow(t, rawOf("t "+other+rest)) // IDLE is within none, but UID may come of MUID
			asSlow(t, rawOf("t UID "+other+rest))
		}
		refused(t, "a word that is a literal", rawOf("t ", word, rest), "t")
		refused(t, "a word that a literal parts", rawOf("t "+word[:2], "", word[2:]+rest), "t")
	}
	for _, s := range []string{"FROB", "", "UID", "UID ", "UID FROB", "UID UID", "UID UID FETCH 1 UID", "NOOP NOOP", "FETCH", "1", "*", "AUTHENTICATE PLAIN", "STARTTLS", "DONE", "LOGIN\u017F"} {
		refused(t, "a word that is none", rawOf("t "+s), "t")
	}
}

// UID stands ahead of six words alone.
func TestUID(t *testing.T) {
	for _, one := range plainCommands {
		behind, word := named(one.behind)
		_, one.wanted.Name = named(one.behind)
		one.wanted.Tag, one.wanted.UID = "t", true
		r := rawOf("t UID " + behind)
		if slices.Contains([]string{"SEARCH", "FETCH", "STORE", "COPY", "MOVE"}, word) || behind == "EXPUNGE 1:*" {
			wantCommand(t, "UID", r, one.wanted)
			refused(t, "two UIDs", rawOf("t UID UID "+behind), "t")
		} else {
			refused(t, "UID", r, "t")
		}
	}
	refused(t, "EXPUNGE with a set", rawOf("a EXPUNGE 1"), "a")
	refused(t, "UID EXPUNGE without one", rawOf("a UID EXPUNGE"), "a")
}

// names are astrings as names have them, and the names that they tell.
var nameTexts = map[string]string{
	"x": "x", `"x"`: "x", "INBOX": "INBOX", "inbox": "INBOX", `"inBox"`: "INBOX", "Inbox/a": "INBOX/a", "a/inbox": "a/inbox", "inboxes": "inboxes", "&AOk-": "é", `"a&AOk-/b"`: "aé/b",
	"a&-b": "a&b", `"&-"`: "&", `"a b"`: "a b", "a]": "a]", "]": "]", `"%"`: "%", `"a*"`: "a*", `"\\"`: `\`, `"\""`: `"`, `""`: "", "/": "/", "//a//": "//a//", `"(x)"`: "(x)", "[x": "[x", "}": "}",
	"&2D3eAA-": "\U0001F600", times("n", 100): times("n", 100), "&AAA-": "\x00", "NOOP": "NOOP", "1": "1", "inbo&AOk-": "inboé", "&IT8-": "\u213F",
}

// noNames are astrings that are no names: no text is so written in seven bits.
var noNames = []string{"&", "a&b", "&AOk", "&AOk-&AOk-", "&AGE-", "&AOk=-", "&AO-", "&&-", "&AOl-x&", `"é"`, "\"\x80\"", `"&"`, "&2D0-", "&AOj-\u00e9"}

func TestNames(t *testing.T) {
	for text, name := range nameTexts {
		for _, word := range []string{"SELECT", "EXAMINE", "CREATE", "DELETE", "SUBSCRIBE", "UNSUBSCRIBE", "GETQUOTA"} {
			wantCommand(t, "a name", rawOf("a "+word+" "+text), api.Command{Tag: "a", Name: word, Words: []string{name}})
		}
		wantCommand(t, "two names", rawOf("a RENAME "+text+" y"), api.Command{Tag: "a", Name: "RENAME", Words: []string{name, "y"}})
		wantCommand(t, "two names", rawOf("a RENAME y "+text), api.Command{Tag: "a", Name: "RENAME", Words: []string{"y", name}})
		for _, word := range []string{"LIST", "LSUB"} {
			wantCommand(t, "a name and a pattern", rawOf("a "+word+" "+text+" y"), api.Command{Tag: "a", Name: word, Words: []string{name, "y"}})
			wantCommand(t, "a name and a pattern", rawOf("a "+word+" y "+text), api.Command{Tag: "a", Name: word, Words: []string{"y", name}})
		}
		wantCommand(t, "a name", rawOf("a STATUS "+text+" (SIZE)"), api.Command{Tag: "a", Name: "STATUS", Words: []string{name}, Items: []string{"SIZE"}})
		wantCommand(t, "a name", rawOf("a COPY 1 "+text), api.Command{Tag: "a", Name: "COPY", Set: set(1, 1), Words: []string{name}})
		wantCommand(t, "a name", rawOf("a UID MOVE 1 "+text), api.Command{Tag: "a", Name: "MOVE", UID: true, Set: set(1, 1), Words: []string{name}})
		wantCommand(t, "a name", rawOf("a APPEND "+text+" ", "x", ""), appending(name, api.Letter{Text: "x"}))
		// What a name changes, other words do not.
		if !strings.HasPrefix(text, `"`) {
			wantCommand(t, "an astring that is no name", rawOf("a LOGIN "+text+" "+text), login(text, text))
		}
	}
	for _, text := range noNames {
		for _, s := range []string{"SELECT " + text, "EXAMINE " + text, "CREATE " + text, "DELETE " + text, "SUBSCRIBE " + text, "UNSUBSCRIBE " + text, "GETQUOTA " + text, "RENAME " + text + " y", "RENAME y " + text, "LIST " + text + " y", "LIST y " + text, "LSUB y " + text, "STATUS " + text + " (SIZE)", "COPY 1 " + text, "MOVE 1 " + text} {
			refused(t, "no name", rawOf("a "+s), "a")
		}
		refused(t, "no name", rawOf("a APPEND "+text+" ", "x", ""), "a")
	}
}

func TestPatterns(t *testing.T) {
	for text, pattern := range map[string]string{
		"*": "*", "%": "%", "a*b%": "a*b%", "inbox/*": "INBOX/*", "inbox": "INBOX", "inbox*": "inbox*", "%/inbox": "%/inbox", "&AOk-*": "é*", "*&-": "*&", `"*"`: "*", `"a b%"`: "a b%", `""`: "", "]%]": "]%]",
	} {
		for _, word := range []string{"LIST", "LSUB"} {
			wantCommand(t, "a pattern", rawOf("a "+word+` "" `+text), api.Command{Tag: "a", Name: word, Words: []string{"", pattern}})
			wantCommand(t, "a pattern that is a literal", rawOf("a "+word+` "" `, strings.Trim(text, `"`), ""), api.Command{Tag: "a", Name: word, Words: []string{"", pattern}})
		}
	}
	for _, text := range []string{"&*", "*&AOk", `"%&"`, "(*)", "{*", `\*`, `"*`, "* *", "&AOk-&AOk-*", "%\x80"} {
		refused(t, "no pattern", rawOf(`a LIST "" `+text), "a")
	}
	for _, s := range []string{"LIST", "LIST ", `LIST ""`, `LIST "" `, "LIST * *", "LIST () * *", `LIST "" (* %)`} {
		refused(t, "no name and pattern", rawOf("a "+s), "a")
	}
}

// Literals stand where strings, astrings, names, patterns and letters may.
func TestLiterals(t *testing.T) {
	const each = "\x00\r\n\"\\ é\xff{1}"
	for _, l := range []string{"", "u", " ", each, times("x", 60000)} {
		wantCommand(t, "a literal", rawOf("a LOGIN ", l, " p"), login(l, "p"))
		wantCommand(t, "a literal", rawOf("a LOGIN u ", l, ""), login("u", l))
		wantCommand(t, "two literals", rawOf("a LOGIN ", l, " ", each, ""), login(l, each))
		wantCommand(t, "a letter", rawOf("a APPEND b ", l, ""), appending("b", api.Letter{Text: l}))
		wantCommand(t, "a text that is looked for", rawOf("a SEARCH TEXT ", l, " HEADER ", l, " ", l, " ALL"),
			searching(api.Key{Op: "TEXT", Text: l}, api.Key{Op: "HEADER", Field: l, Text: l}, api.Key{Op: "ALL"}))
		wantCommand(t, "fields", rawOf("a FETCH 1 BODY[HEADER.FIELDS (", l, " ", l, " x)]"),
			api.Command{Tag: "a", Name: "FETCH", Set: set(1, 1), Wants: []api.Want{{Name: "BODY", Part: true, What: "FIELDS", Names: []string{l, l, "x"}}}})
	}
	wantCommand(t, "a name", rawOf("a SELECT ", "inbox", ""), api.Command{Tag: "a", Name: "SELECT", Words: []string{"INBOX"}})
	wantCommand(t, "an empty name", rawOf("a SELECT ", "", ""), api.Command{Tag: "a", Name: "SELECT", Words: []string{""}})
	wantCommand(t, "two names", rawOf("a RENAME ", "inbox", " ", "&AOk- x", ""), api.Command{Tag: "a", Name: "RENAME", Words: []string{"INBOX", "é x"}})
	wantCommand(t, "a name", rawOf("a STATUS ", "b", " (SIZE)"), api.Command{Tag: "a", Name: "STATUS", Words: []string{"b"}, Items: []string{"SIZE"}})
	wantCommand(t, "a name", rawOf("a COPY 1 ", "b", ""), api.Command{Tag: "a", Name: "COPY", Set: set(1, 1), Words: []string{"b"}})
	wantCommand(t, "a name and a letter", rawOf("a APPEND ", "b", " ", "x", ""), appending("b", api.Letter{Text: "x"}))
	for _, l := range []string{"é", "&", "a\x00", "\r\n", "\x7f"} {
		refused(t, "no name", rawOf("a SELECT ", l, ""), "a")
		refused(t, "no pattern", rawOf(`a LIST "" `, l, ""), "a")
	}
	for _, r := range []api.Raw{
		rawOf("a SELECT x", "b", ""), rawOf("a SELECT ", "b", "x"), rawOf("a SELECT ", "b", " "), rawOf("a SELECT", "b", ""), rawOf("a SELECT ", "b", "", "b", ""), rawOf("a SELECT ", "b", " ", "b", ""),
		rawOf("a FETCH ", "1", " FLAGS"), rawOf("a FETCH 1 ", "FLAGS", ""), rawOf("a FETCH 1 (", "FLAGS", ")"), rawOf("a FETCH 1 BODY[", "1", "]"), rawOf("a FETCH 1 BODY[]<", "0", ".1>"),
		rawOf("a SEARCH ", "ALL", ""), rawOf("a SEARCH ", "1", ""), rawOf("a SEARCH ON ", "1-feb-1994", ""), rawOf("a SEARCH LARGER ", "1", ""), rawOf("a SEARCH UID ", "1", ""), rawOf("a SEARCH NOT ", "ALL", ""),
		rawOf("a STATUS b ", "(SIZE)", ""), rawOf("a STATUS b (", "SIZE", ")"), rawOf("a STORE 1 ", "FLAGS", " x"), rawOf("a STORE ", "1", " FLAGS x"), rawOf("a COPY ", "1", " b"),
	} {
		refused(t, "a literal where none may stand", r, "a")
	}
}

func TestNumbersOfWords(t *testing.T) {
	for _, s := range []string{
		"LOGIN", "LOGIN ", "LOGIN u", "LOGIN u ", "LOGIN u p q", "LOGIN (u p)", "SELECT", "SELECT ", "SELECT a b", "SELECT (a)", "RENAME", "RENAME a", "RENAME a ", "RENAME a b c", "GETQUOTA", "GETQUOTA a b",
		"STATUS", "STATUS b", "STATUS b ", "COPY", "COPY 1", "COPY 1 ", "COPY b", "COPY 1 b c", "MOVE 1", "STORE", "STORE 1", "STORE 1 ", "FETCH", "FETCH 1", "FETCH 1 ", "SEARCH", "SEARCH ", "APPEND", "APPEND b", "APPEND b ",
	} {
		refused(t, "too few words, or too many", rawOf("a "+s), "a")
	}
}

func TestSets(t *testing.T) {
	many := "1" + times(",1", api.MaxSpans-1)
	for text, l := range map[string][]api.Span{
		"1": set(1, 1), "*": set(0, 0), "1:2": set(1, 2), "2:1": set(2, 1), "*:1": set(0, 1), "1:*": set(1, 0), "*:*": set(0, 0), "5:5": set(5, 5), "1,2:3,*": set(1, 1, 2, 3, 0, 0), "4294967295": set(1<<32-1, 1<<32-1), "3,1,2": set(3, 3, 1, 1, 2, 2),
		many: slices.Repeat(set(1, 1), api.MaxSpans),
	} {
		for behind, wanted := range map[string]api.Command{
			"UID EXPUNGE " + text:        {Name: "EXPUNGE", UID: true, Set: l},
			"FETCH " + text + " UID":     {Name: "FETCH", Set: l, Wants: []api.Want{{Name: "UID"}}},
			"STORE " + text + " FLAGS x": {Name: "STORE", Set: l, Flags: []string{"x"}},
			"COPY " + text + " b":        {Name: "COPY", Set: l, Words: []string{"b"}},
			"UID MOVE " + text + " b":    {Name: "MOVE", UID: true, Set: l, Words: []string{"b"}},
			"SEARCH " + text:             {Name: "SEARCH", Key: api.Key{Op: "AND", Kids: []api.Key{{Op: "SEQ", Set: l}}}},
			"SEARCH UID " + text:         {Name: "SEARCH", Key: api.Key{Op: "AND", Kids: []api.Key{{Op: "UID", Set: l}}}},
		} {
			wanted.Tag = "a"
			wantCommand(t, "a set", rawOf("a "+behind), wanted)
		}
	}
	for _, text := range []string{"0", "01", "1:", ":1", "1,", ",1", "1,,2", "1:2:3", "**", "1*", "4294967296", "1:4294967296", times("9", 100), many + ",1", "-1", "+1", "1-2", "a", `"1"`, "(1)", "1 2", "1: 2", "1,0", ""} {
		for _, behind := range []string{"UID EXPUNGE " + text, "FETCH " + text + " UID", "STORE " + text + " FLAGS x", "COPY " + text + " b", "MOVE " + text + " b", "UID COPY " + text + " b", "SEARCH UID " + text} {
			if text != "1 2" || strings.HasSuffix(behind, text) && !strings.HasPrefix(behind, "SEARCH") {
				refused(t, "no set", rawOf("a "+behind), "a")
			}
		}
	}
}

func TestStatus(t *testing.T) {
	items := []string{"MESSAGES", "UIDNEXT", "UIDVALIDITY", "UNSEEN", "DELETED", "SIZE", "MAILBOXID"}
	status := func(l ...string) api.Command {
		return api.Command{Tag: "a", Name: "STATUS", Words: []string{"b"}, Items: l}
	}
	for _, item := range items {
		wantCommand(t, "one", rawOf("a STATUS b ("+item+")"), status(item))
		wantCommand(t, "one in other letters", rawOf("a STATUS b ("+inLetters(item, mixed)+")"), status(item))
		wantCommand(t, "one twice", rawOf("a STATUS b ("+item+" "+inLetters(item, small)+")"), status(item, item))
		for _, other := range items {
			wantCommand(t, "two", rawOf("a STATUS b ("+item+" "+other+")"), status(item, other))
			refused(t, "two without a blank", rawOf("a STATUS b ("+item+other+")"), "a")
		}
		for _, s := range []string{item, item + ")", "(" + item, "(" + item + " )", "( " + item + ")", "(" + item + "))", "((" + item + "))", "(" + item + ") ", "(" + item + "  SIZE)", "(" + item + ",SIZE)", "(" + item + ")(SIZE)", "(" + item + ") (SIZE)", "(" + item + "X)", "(X" + item + ")", "(" + item[1:] + ")", "(\"" + item + "\")", "[" + item + "]"} {
			refused(t, "no items", rawOf("a STATUS b "+s), "a")
		}
	}
	for _, s := range []string{"", "()", "( )", "(", ")", "(RECENT)", "(HIGHESTMODSEQ)", "(ALL)", "(1)", "(SIZE RECENT)", "(RECENT SIZE)", "(FLAGS)"} {
		refused(t, "no items", rawOf("a STATUS b "+s), "a")
	}
	refused(t, "no blank ahead of items", rawOf("a STATUS b(SIZE)"), "a")
	refused(t, "no blank ahead of items", rawOf(`a STATUS "b"(SIZE)`), "a")
	wantCommand(t, "many", rawOf("a STATUS b (SIZE"+times(" SIZE", 199)+")"), status(slices.Repeat([]string{"SIZE"}, 200)...))
}

func TestStore(t *testing.T) {
	for mode, sign := range []string{"", "+", "-"} {
		for _, word := range []string{"FLAGS", "flags", "fLaGs", "FLAGS.SILENT", "flags.silent", "Flags.Silent"} {
			silent := len(word) > 5
			for text, flags := range map[string][]string{
				"()": nil, "(x)": {"x"}, "x": {"x"}, `\Seen`: {`\Seen`}, `(\Seen)`: {`\Seen`}, `\Seen x \seen`: {`\Seen`, "x", `\seen`}, `(\Seen x \seen)`: {`\Seen`, "x", `\seen`}, "FLAGS": {"FLAGS"}, "1": {"1"}, "nil": {"nil"}, "}": {"}"}, "+": {"+"}, "[x": {"[x"},
			} {
				wantCommand(t, "flags", rawOf("a STORE 1 "+sign+word+" "+text), storing(mode, silent, flags...))
				uid := storing(mode, silent, flags...)
				uid.UID = true
				wantCommand(t, "flags", rawOf("a uid store 1 "+sign+word+" "+text), uid)
			}
			for _, text := range []string{"", " ", "( )", "(x", "x)", "(x ", "(x )", "( x)", "(x  y)", "x  y", "x ", "(x) ", "(x) y", "x (y)", "(x)(y)", "(x) (y)", "((x))", "(())", "(", ")", "())", "{"} {
				refused(t, "no flags", rawOf("a STORE 1 "+sign+word+" "+text), "a")
			}
			refused(t, "no blank", rawOf("a STORE 1 "+sign+word), "a")
			refused(t, "no blank", rawOf("a STORE 1 "+sign+word+"(x)"), "a")
			refused(t, "no blank", rawOf("a STORE 1"+sign+word+" (x)"), "a")
			refused(t, "a blank", rawOf("a STORE 1 "+sign+" "+word+" (x)"), "a")
			for _, other := range []string{"+", "-"} {
				refused(t, "two signs", rawOf("a STORE 1 "+other+sign+word+"X (x)"), "a")
				refused(t, "a sign behind it", rawOf("a STORE 1 "+sign+word+other+" (x)"), "a")
			}
			refused(t, "SILENT once more", rawOf("a STORE 1 "+sign+word+".SILENT.SILENT x"), "a")
		}
		for _, word := range []string{"", "FLAG", "FLAGSS", ".SILENT", "SILENT", "FLAGS.", "FLAGS.SILEN", "FLAGS.SILENTX", "FLAGSSILENT", "X-GM-LABELS", "(FLAGS)", "++FLAGS", "+-FLAGS", "=FLAGS"} {
			refused(t, "no word", rawOf("a STORE 1 "+sign+word+" x"), "a")
		}
	}
}

var someDay = api.Date{Year: 1996, Month: 7, Day: 17, Hour: 2, Min: 44, Sec: 25, Zone: -420}

func TestAppend(t *testing.T) {
	const day = `"17-Jul-1996 02:44:25 -0700"`
	for ahead, l := range map[string]api.Letter{
		"":                              {},
		"() ":                           {},
		"(x) ":                          {Flags: []string{"x"}},
		`(\Seen x \seen x) `:            {Flags: []string{`\Seen`, "x", `\seen`, "x"}},
		day + " ":                       {Date: []api.Date{someDay}},
		"() " + day + " ":               {Date: []api.Date{someDay}},
		`(\Draft) ` + day + " ":         {Flags: []string{`\Draft`}, Date: []api.Date{someDay}},
		`" 1-Jan-0001 00:00:00 +0000" `: {Date: []api.Date{{Year: 1, Month: 1, Day: 1}}},
		`"31-Dec-9999 23:59:59 +2359" `: {Date: []api.Date{{Year: 9999, Month: 12, Day: 31, Hour: 23, Min: 59, Sec: 59, Zone: 1439}}},
	} {
		l.Text = "text\r\n"
		wantCommand(t, "a letter", rawOf("a APPEND b "+ahead, l.Text, ""), appending("b", l))
		wantCommand(t, "a letter, in other letters", rawOf("a append inbox "+ahead, l.Text, ""), appending("INBOX", l))
		other := api.Letter{Flags: []string{"y"}, Text: "other"}
		wantCommand(t, "two letters", rawOf("a APPEND b "+ahead, l.Text, " (y) ", "other", ""), appending("b", l, other))
		wantCommand(t, "three letters", rawOf("a APPEND b (y) ", "other", " "+ahead, l.Text, " ", "", ""), appending("b", other, l, api.Letter{}))
		refused(t, "no blank", rawOf("a APPEND b "+strings.TrimSuffix(ahead, " ")+"x", l.Text, ""), "a")
		refused(t, "two blanks", rawOf("a APPEND b "+ahead+" ", l.Text, ""), "a")
		refused(t, "something behind it", rawOf("a APPEND b "+ahead, l.Text, " "), "a")
		refused(t, "something behind it", rawOf("a APPEND b "+ahead, l.Text, "x"), "a")
		refused(t, "something behind it", rawOf("a APPEND b "+ahead, l.Text, " (x)"), "a")
		refused(t, "something behind it", rawOf("a APPEND b "+ahead, l.Text, " (x) "), "a")
		refused(t, "no blank ahead of the next one", rawOf("a APPEND b "+ahead, l.Text, "", "other", ""), "a")
		refused(t, "no literal", rawOf("a APPEND b "+ahead+"x"), "a")
		refused(t, "no literal", rawOf("a APPEND b "+ahead+`"x"`), "a")
		if ahead != "" {
			refused(t, "no blank behind it", rawOf("a APPEND b "+strings.TrimSuffix(ahead, " "), l.Text, ""), "a")
			refused(t, "no blank ahead", rawOf("a APPEND b"+ahead, l.Text, ""), "a")
		}
	}
	refused(t, "no blank", rawOf("a APPEND b", "x", ""), "a")
	refused(t, "no name", rawOf("a APPEND ", "x", ""), "a")
	refused(t, "no name", rawOf("a APPEND  ", "x", ""), "a")
	refused(t, "no name", rawOf("a APPEND (x) ", "x", ""), "a")
	for _, ahead := range []string{
		"(x", "x", "x)", "( )", "(x )", "(x  y)", "((x))", "(x) (y)", "(x) x", day + " (x)", day + " " + day, "() () " + day,
		`""`, `"17-Jul-1996"`, `"17-jul-1996 02:44:25 -0700"`, `"17-Jul-1996 02:44:25 -0000"`, `"1-Jul-1996 02:44:25 +0000"`, `"01-Jul-1996 02:44:25 +0000"`, `" 0-Jul-1996 02:44:25 +0000"`, `"31-Jun-1996 02:44:25 +0000"`, `"17-Jul-1996 24:00:00 +0000"`, `"17-Jul-1996 02:44:25"`, `"Wed, 17 Jul 1996 02:44:25 -0700"`,
		"17-Jul-1996", `17-Jul-1996 02:44:25 -0700`, `"17-Jul-1996 02:44:25 -0700`, `"17-Jul-1996\ 02:44:25 -0700"`, `"17-Jul-0000 02:44:25 -0700"`, "NIL", "~",
	} {
		refused(t, "what may not be ahead of a letter", rawOf("a APPEND b "+ahead+" ", "x", ""), "a")
	}
	refused(t, "a date that is a literal", rawOf("a APPEND b ", strings.Trim(day, `"`), " x"), "a")
	wantCommand(t, "a text that looks like a date", rawOf("a APPEND b ", strings.Trim(day, `"`), " ", "x", ""), appending("b", api.Letter{Text: strings.Trim(day, `"`)}, api.Letter{Text: "x"}))
	var all []string
	var letters []api.Letter
	all = append(all, "a APPEND b ")
	for range 100 {
		all = append(all, "x", " ")
		letters = append(letters, api.Letter{Text: "x"})
	}
	all[len(all)-1] = ""
	wantCommand(t, "many letters", rawOf(all...), appending("b", letters...))
}
