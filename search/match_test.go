package search_test

import (
	"math"
	"strings"
	"testing"

	"haversack/api"
	"haversack/search"
)

// P16.3, of keys that are about a message alone; those about others stand in kids_test.go.

func TestExampleOfMatch(t *testing.T) {
	wantMatch(t, "the example", op("SUBJECT", "he"), of("Subject: =?utf-8?q?Hello?="), true)
}

// words are those that a key may have.
var allWords = strings.Fields("ALL ANSWERED DELETED DRAFT FLAGGED SEEN UNANSWERED UNDELETED UNDRAFT UNFLAGGED UNSEEN KEYWORD UNKEYWORD BCC CC FROM TO SUBJECT HEADER BODY TEXT BEFORE ON SINCE SENTBEFORE SENTON SENTSINCE LARGER SMALLER SEQ UID NOT OR AND")

// full is a key with all that any word asks for, which matches just with the right words.
func full(word string) api.Key {
	return api.Key{Op: word, Text: "a", Field: "to", N: 10, Set: ranged("", 1, 2).Set, Kids: []api.Key{yes, no}}
}

// rich is a message of which each word but some is true.
func rich(l ...string) place {
	text := "To: a" + end + "Cc: a" + end + "Bcc: a" + end + "From: a" + end + "Subject: a" + end + "Date: 11 Jan 1970 23:00:00 -1200" + end + end + "a"
	return place{api.Mail{UID: 2, Flags: l, Date: api.Date{Year: 1970, Month: 1, Day: 11}, Text: text}, 1, 5, 6}
}

func TestEachWord(t *testing.T) {
	without := strings.Fields("ANSWERED DELETED DRAFT FLAGGED SEEN KEYWORD BEFORE SENTBEFORE SMALLER NOT AND ")
	with := strings.Fields("UNANSWERED UNDELETED UNDRAFT UNFLAGGED UNSEEN UNKEYWORD BEFORE SENTBEFORE SMALLER NOT AND")
	for _, word := range allWords {
		no := " " + word + " "
		wantMatch(t, "with no flags", full(word), rich(), !strings.Contains(" "+strings.Join(without, " ")+" ", no))
		wantMatch(t, "with all flags", full(word), rich(append(flags("a"), system...)...), !strings.Contains(" "+strings.Join(with, " ")+" ", no))
	}
}

// Words are in great letters, and no others are some.
func TestOtherWords(t *testing.T) {
	for _, p := range []place{rich(), rich(append(flags("a"), system...)...)} {
		for _, word := range allWords {
			for _, other := range append(inLetters(word), word+" ", " "+word, "UN"+word, "SENT"+word, word[1:], word[:len(word)-1], `\`+word, word+"\x00", "X"+word) {
				if !strings.Contains(" "+strings.Join(allWords, " ")+" ", " "+other+" ") || strings.Contains(other, " ") {
					wantMatch(t, "another word", full(other), p, false)
				}
			}
		}
		for _, other := range []string{"", " ", "FROB", "NEW", "OLD", "RECENT", "UN", "SENT", "UNALL", "UNNOT", "SENTALL", "REPLY-TO", "DATE", "=", "\xff", "UNUNSEEN", times("UN", 1000) + "SEEN"} {
			wantMatch(t, "no word", full(other), p, false)
		}
	}
}

func TestFlagsThatAMessageHas(t *testing.T) {
	for _, flag := range system {
		word := strings.ToUpper(flag[1:])
		for _, other := range inLetters(flag) {
			wantMatch(t, "has it", op(word, ""), flagged("x", other), true)
			wantMatch(t, "has it", op("UN"+word, ""), flagged("x", other), false)
			wantMatch(t, "has it", op("KEYWORD", flag), flagged("x", other), true)
			wantMatch(t, "has it, in other letters", op("KEYWORD", other), flagged("x", flag), true)
			wantMatch(t, "has it, in other letters", op("UNKEYWORD", other), flagged("x", flag), false)
		}
		for _, l := range [][]string{nil, flags(flag[1:]), flags(flag + "x"), flags("x"), flags(word)} {
			wantMatch(t, "has it not", op(word, flag), flagged(l...), false)
			wantMatch(t, "has it not", op("UN"+word, flag), flagged(l...), true)
			wantMatch(t, "has it not", op("KEYWORD", flag), flagged(l...), false)
			wantMatch(t, "has it not", op("UNKEYWORD", flag), flagged(l...), true)
		}
		for _, other := range system {
			wantMatch(t, "has another one", op(word, ""), flagged(other), other == flag)
			wantMatch(t, "has another one", op("UN"+word, ""), flagged(other), other != flag)
		}
		wantMatch(t, "no room for it", op(word, ""), flagged(append(upper(letters(20)), flag)...), false)
		wantMatch(t, "no room for it", op("UN"+word, ""), flagged(append(upper(letters(20)), flag)...), true)
	}
}

func TestKeywords(t *testing.T) {
	p := flagged("b", "A", "1", "nil", `\x`, "", "b", times("x", 31))
	for flag, is := range map[string]bool{
		"b": true, "A": true, "B": false, "a": false, "": false, "1": false, "nil": false, "NIL": false, `\x`: false, "x": false, "bb": false, "b ": false, `\b`: false, times("x", 31): false, times("x", 30): false,
	} {
		wantMatch(t, "a flag", op("KEYWORD", flag), p, is)
		wantMatch(t, "a flag", op("UNKEYWORD", flag), p, !is)
		wantMatch(t, "a flag, of none", op("KEYWORD", flag), flagged(), false)
		wantMatch(t, "a flag, of none", op("UNKEYWORD", flag), flagged(), true)
	}
	many := flagged(append(letters(22), "!")...)
	wantMatch(t, "the last one with room", op("KEYWORD", "s"), many, true)
	wantMatch(t, "no room", op("KEYWORD", "t"), many, false)
	wantMatch(t, "no room", op("UNKEYWORD", "t"), many, true)
}

// eachField goes through the words that are about fields, and the letters in which a field's name may be.
func eachField(do func(word, name string)) {
	for _, word := range []string{"BCC", "CC", "FROM", "TO", "SUBJECT"} {
		for _, name := range inLetters(word) {
			do(word, name)
		}
	}
}

func TestFields(t *testing.T) {
	eachField(func(word, name string) {
		for text, parts := range map[string]string{
			name + ": Ann <a@b>":                                              "ann|ANN <|@B|<a@b>||n",
			name + ":Ann <a@b>" + end + end:                                   "ann|@B|<a@b>|",
			name + ": x" + end + name + ": Ann" + end:                         "ann|x|A|",
			name + ": x" + end + " Ann" + end:                                 "x ann|ann|",
			name + ": x" + end + "\t  Ann\n y" + end + end + "z":              "x\t  ann y|n y|",
			name + ": =?utf-8?B?w6k=?= =?ISO-8859-1?q?=E9_x?=":                "éé x|É|É|\xa9|",
			"x: y" + end + name + ": =?us-ascii?q?a=3Fb?= c" + end:            "a?b c|B C|",
			name + ": =?utf-8?q?a?= =?utf-8?q?b?=":                            "ab|AB|",
			name + ": =?utf-8?q?a?=" + end + " =?utf-8?q?b?=" + end + end:     "ab|",
			name + ": =?utf-9?q?a?=":                                          "=?utf-9?q?a?=|",
			"x" + name + ": no" + end + name + ": a" + end + name + "x: no\n": "a|",
		} {
			for _, part := range strings.Split(parts, "|") {
				wantMatch(t, "has it", op(word, part), of(text), part != "É")
			}
			for _, part := range []string{"no", "zz", "utf-8", "=?u", "z", "Ann <a@b> ", end, "\n", ":", name + ":"} {
				wantMatch(t, "has it not", op(word, part), of(text), part == "=?u" && strings.Contains(text, "utf-9"))
			}
		}
	})
}

func TestNoSuchField(t *testing.T) {
	eachField(func(word, name string) {
		for _, text := range []string{
			"", end, "\n", name, name + end, ": a", "x: a", name + "x: a", "x" + name + ": a", " " + name + ": a", name + " : a", "\t" + name + ":a", "x: a" + end + " " + name + ": a",
			end + name + ": a", "x: a" + end + end + name + ": a", "\n" + name + ": a" + end, "x: a\n\n" + name + ": a", name + "\x7f: a", name + "é: a",
		} {
			wantMatch(t, "no such field", op(word, "a"), of(text), false)
			wantMatch(t, "no such field", op(word, ""), of(text), false)
		}
		for _, text := range []string{name + ":", name + ": ", name + ":" + end, "x" + end + name + ":" + end + end + "a", name + ":\n\n" + name + ": a"} {
			wantMatch(t, "an empty one", op(word, "a"), of(text), false)
			wantMatch(t, "an empty one", op(word, ""), of(text), true)
		}
		for _, other := range []string{"BCC", "CC", "FROM", "TO", "SUBJECT", "REPLY-TO", "SENDER"} {
			wantMatch(t, "another field", op(word, "a"), of(other+": a"+end+end), other == word)
			wantMatch(t, "another field", op(word, ""), of(other+": a"+end+end), other == word)
		}
	})
}

// Names of other fields are no words.
func TestFieldsThatAreNoWords(t *testing.T) {
	for _, word := range []string{"REPLY-TO", "SENDER", "DATE", "MESSAGE-ID", "IN-REPLY-TO", "X", "Subject", "to"} {
		wantMatch(t, "no word", op(word, "a"), of(word+": a"+end+end+"a"), false)
		wantMatch(t, "no word", op(word, ""), of(word+": a"+end+end+"a"), false)
		wantMatch(t, "a name", within(word, "a"), of(word+": a"+end+end+"a"), true)
	}
}

func TestHeader(t *testing.T) {
	text := "X-Y: Ann" + end + "Subject: =?utf-8?q?Hello?=" + end + "x-y: bob" + end + " Carl" + end + "empty:" + end + end + "Z: a"
	for _, name := range inLetters("X-Y") {
		for _, part := range []string{"", "ann", "BOB", "bob carl", "l"} {
			wantMatch(t, "has it", within(name, part), of(text), true)
		}
		for _, part := range []string{"ann bob", "annbob", "hello", "x-y", " ann", "ann ", "bob" + end, "\n"} {
			wantMatch(t, "has it not", within(name, part), of(text), false)
		}
	}
	wantMatch(t, "as it stands there", within("subject", "=?UTF-8?Q?HELLO?="), of(text), true)
	wantMatch(t, "not what it says", within("subject", "he llo"), of("Subject: =?utf-8?q?he_llo?="), false)
	wantMatch(t, "as it stands there", within("subject", "hello"), of(text), true)
	wantMatch(t, "an empty one", within("EMPTY", ""), of(text), true)
	wantMatch(t, "an empty one", within("EMPTY", "a"), of(text), false)
	for _, name := range []string{"", " ", "x", "x-y:", "x-y ", " x-y", "z", "x_y", "X-YZ", "-", "*", "x-y\x00", "subjec"} {
		for _, part := range []string{"", "a", "ann"} {
			wantMatch(t, "no such field", within(name, part), of(text), false)
		}
	}
	wantMatch(t, "an empty name is none", within("", ""), of(": a"), false)
	wantMatch(t, "Text is no field's name", api.Key{Op: "HEADER", Text: "x-y"}, of(text), false)
}

func TestBodyAndText(t *testing.T) {
	for _, p := range []struct{ head, body string }{
		{"", ""}, {end, ""}, {"\n", ""}, {"A: b", ""}, {"A: b" + end, ""}, {"A: b" + end + end, ""}, {"A: b\n\n", ""},
		{end, "body"}, {"\n", "body"}, {"A: b" + end + end, "body"}, {"A: b\n\n", "To: body" + end + end + "more"}, {"no field" + end + end, end + end + "x"}, {"A: b" + end + end, "=?utf-8?q?Hello?="},
	} {
		at := of(p.head + p.body)
		wantMatch(t, "nothing", op("BODY", ""), at, true)
		wantMatch(t, "nothing", op("TEXT", ""), at, true)
		for _, part := range []string{p.body, strings.ToUpper(p.body), p.body[len(p.body)/2:]} {
			wantMatch(t, "the body", op("BODY", part), at, true)
			wantMatch(t, "the body", op("TEXT", part), at, true)
		}
		wantMatch(t, "the text", op("TEXT", p.head+p.body), at, true)
		wantMatch(t, "the text", op("BODY", p.head+p.body), at, p.head == "")
		wantMatch(t, "the header", op("TEXT", p.head), at, true)
		wantMatch(t, "the header", op("BODY", "a: b"), at, false)
		wantMatch(t, "the header", op("TEXT", "a: b"), at, strings.Contains(p.head, "A: b"))
		wantMatch(t, "more than that", op("TEXT", p.head+p.body+"x"), at, false)
		wantMatch(t, "more than that", op("BODY", p.body+"x"), at, false)
	}
	wantMatch(t, "not what it says", op("TEXT", "a b"), of("Subject: =?utf-8?q?a_b?="+end+end+"=?utf-8?q?a_b?="), false)
	wantMatch(t, "not what it says", op("BODY", "a b"), of("Subject: =?utf-8?q?a_b?="+end+end+"=?utf-8?q?a_b?="), false)
	wantMatch(t, "over the border", op("TEXT", "b"+end+end+"c"), of("A: b"+end+end+"c"), true)
	wantMatch(t, "folded", op("TEXT", "b c"), of("A: b"+end+" c"), false)
}

func TestLargerAndSmaller(t *testing.T) {
	for _, n := range []int{0, 1, 2, 19, 20, 21, 30, 1000} {
		p := of(times("é", n/2) + times("x", n%2))
		p.Size = 50 - n
		for _, edge := range append([]int{n - 1, n, n + 1, 50 - n}, edges...) {
			wantMatch(t, "larger", counted("LARGER", edge), p, n > edge)
			wantMatch(t, "smaller", counted("SMALLER", edge), p, n < edge)
		}
	}
}

func TestSeqAndUID(t *testing.T) {
	for _, one := range []struct {
		ends    []int
		most    int
		members []int
	}{
		{nil, 5, nil},
		{[]int{3, 3}, 5, []int{3}},
		{[]int{2, 4}, 5, []int{2, 3, 4}},
		{[]int{4, 2}, 5, []int{2, 3, 4}},
		{[]int{0, 0}, 5, []int{5}},
		{[]int{0, 3}, 5, []int{3, 4, 5}},
		{[]int{3, 0}, 5, []int{3, 4, 5}},
		{[]int{7, 0}, 5, []int{5, 6, 7}},
		{[]int{0, 7}, 5, []int{5, 6, 7}},
		{[]int{6, 8}, 5, []int{6, 7, 8}},
		{[]int{1, 1, 0, 0, 3, 3}, 5, []int{1, 3, 5}},
		{[]int{0, 0}, 0, nil},
		{[]int{0, 0}, -1, nil},
		{[]int{0, 9}, 0, nil},
		{[]int{1, 0}, 0, nil},
		{[]int{1, 9}, 0, []int{1, 2, 3, 4, 5, 6, 7, 8, 9}},
		{[]int{0, 0, 2, 2}, 0, []int{2}},
		{[]int{1, api.MaxNumber}, 1, []int{1, 2, 3, 4, 5, 6, 7, 8, 9}},
		{[]int{api.MaxNumber, 8}, 1, []int{8, 9}},
	} {
		for n := range 10 {
			is := false
			for _, member := range one.members {
				is = is || member == n
			}
			for _, other := range []int{-1, 0, n, 9, math.MaxInt} {
				wantMatch(t, "a place", ranged("SEQ", one.ends...), place{api.Mail{UID: other}, n, one.most, other}, is)
				wantMatch(t, "a UID", ranged("UID", one.ends...), place{api.Mail{UID: n}, other, other, one.most}, is)
			}
		}
	}
	wantMatch(t, "the greatest number", ranged("UID", 0, 0), place{api.Mail{UID: api.MaxNumber}, 1, 1, api.MaxNumber}, true)
	wantMatch(t, "the greatest number", ranged("SEQ", 0, 0), place{api.Mail{UID: api.MaxNumber}, 1, 1, api.MaxNumber}, true)
	wantMatch(t, "the greatest number", ranged("SEQ", 5, 0), place{api.Mail{UID: 9}, 4, 9, 9}, false)
}

// What is read of a message's fields for one key is not asked of another message.
func TestOtherMessages(t *testing.T) {
	k := about("AND", op("SUBJECT", "a"), op("TO", "b"), op("SUBJECT", "a"))
	for range 3 {
		wantMatch(t, "this one", k, of("To: b"+end+"Subject: a"), true)
		wantMatch(t, "another one", k, of("To: a"+end+"Subject: b"), false)
		wantMatch(t, "one without fields", k, of(""), false)
	}
	if !search.Match(k, api.Mail{Text: "To: b\nSubject: a"}, 0, 0, 0) {
		t.Fatal("with no numbers it does not match")
	}
}
