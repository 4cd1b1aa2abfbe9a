package cmd_test

import (
	"math"
	"slices"
	"testing"

	"haversack/api"
	"haversack/cmd"
	"haversack/date"
)

// P14.3

// prints are commands as they come, and as Print tells them.
var prints = []struct{ came, wanted api.Raw }{
	{rawOf("a1 uid Fetch 1:* (flags BODY.peek[1.HEADER.fields (to)]<0.9>)"), rawOf(`a1 UID FETCH 1:* (FLAGS BODY.PEEK[1.HEADER.FIELDS ("to")]<0.9>)`)},
	{rawOf("Ab.1 noop"), rawOf("Ab.1 NOOP")},
	{rawOf("a capability"), rawOf("a CAPABILITY")},
	{rawOf("a logout"), rawOf("a LOGOUT")},
	{rawOf("a idle"), rawOf("a IDLE")},
	{rawOf("a close"), rawOf("a CLOSE")},
	{rawOf("a unselect"), rawOf("a UNSELECT")},
	{rawOf("a expunge"), rawOf("a EXPUNGE")},
	{rawOf("a uid expunge 5:5,2:1,*"), rawOf("a UID EXPUNGE 5,2:1,*")},
	{rawOf("a login Ann p]"), rawOf(`a LOGIN "Ann" "p]"`)},
	{rawOf(`a login "" "a\"b\\"`), rawOf(`a LOGIN "" "a\"b\\"`)},
	{rawOf("a login ", "Ann", " ", "é\xff", ""), rawOf("a LOGIN \"Ann\" \"é\xff\"")},
	{rawOf("a login ", "", " ", "a\nb", ""), rawOf(`a LOGIN "" `, "a\nb", "")},
	{rawOf("a login ", "\x7f", " ", "\x00", ""), rawOf(`a LOGIN `, "\x7f", " ", "\x00", "")},
	{rawOf("a login ", "\x1f", " p"), rawOf(`a LOGIN `, "\x1f", ` "p"`)},
	{rawOf("a select inbox/X"), rawOf(`a SELECT "INBOX/X"`)},
	{rawOf("a examine b"), rawOf(`a EXAMINE "b"`)},
	{rawOf("a create &AOk-&-"), rawOf(`a CREATE "&AOk-&-"`)},
	{rawOf(`a delete "a\\\"b"`), rawOf(`a DELETE "a\\\"b"`)},
	{rawOf("a subscribe &AAo-"), rawOf(`a SUBSCRIBE "&AAo-"`)},
	{rawOf("a unsubscribe ", "b c", ""), rawOf(`a UNSUBSCRIBE "b c"`)},
	{rawOf(`a getquota ""`), rawOf(`a GETQUOTA ""`)},
	{rawOf("a rename Inbox ", "b", ""), rawOf(`a RENAME "INBOX" "b"`)},
	{rawOf(`a list "" *`), rawOf(`a LIST "" "*"`)},
	{rawOf(`a lsub inbox/ "&AOk-%]"`), rawOf(`a LSUB "INBOX/" "&AOk-%]"`)},
	{rawOf("a status b (messages Size sizE)"), rawOf(`a STATUS "b" (MESSAGES SIZE SIZE)`)},
	{rawOf("a append inbox ", "x", ""), rawOf(`a APPEND "INBOX" () `, "x", "")},
	{rawOf("a append b () ", "", ""), rawOf(`a APPEND "b" () `, "", "")},
	{rawOf(`a append b (\seen X) " 1-Feb-1994 00:00:00 -0130" `, "x", " ", "y\r\n", ""), rawOf(`a APPEND "b" (\seen X) " 1-Feb-1994 00:00:00 -0130" `, "x", " () ", "y\r\n", "")},
	{rawOf(`a append `, "b", ` "31-Dec-9999 23:59:59 +2359" `, "x", ` (x) `, "y", ""), rawOf(`a APPEND "b" () "31-Dec-9999 23:59:59 +2359" `, "x", " (x) ", "y", "")},
	{rawOf("a search all"), rawOf("a SEARCH ALL")},
	{rawOf("a uid search 1:2 uid *:*"), rawOf("a UID SEARCH 1:2 UID *")},
	{rawOf("a search (all) not (not (seen 1))"), rawOf("a SEARCH (ALL) NOT (NOT (SEEN 1))")},
	{rawOf("a search or or 1 2 not 3 or all seen"), rawOf("a SEARCH OR OR 1 2 NOT 3 OR ALL SEEN")},
	{rawOf("a search or (or 1 2) or all not seen"), rawOf("a SEARCH OR (OR 1 2) OR ALL NOT SEEN")},
	{rawOf("a search keyword $Junk unkeyword x}"), rawOf("a SEARCH KEYWORD $Junk UNKEYWORD x}")},
	{rawOf(`a search bcc x body "" cc "\\" from a] subject "é" text ALL to TO`), rawOf(`a SEARCH BCC "x" BODY "" CC "\\" FROM "a]" SUBJECT "é" TEXT "ALL" TO "TO"`)},
	{rawOf("a search header ", "a\x00", " x header x ", "\r\n", " header ", "b", " y"), rawOf("a SEARCH HEADER ", "a\x00", ` "x" HEADER "x" `, "\r\n", ` HEADER "b" "y"`)},
	{rawOf("a search before 1-feb-1994 on 01-FEB-0001 since \"31-dec-9999\" sentbefore 29-Feb-2000 senton 9-jan-0999 sentsince 10-Oct-1010"),
		rawOf("a SEARCH BEFORE 01-Feb-1994 ON 01-Feb-0001 SINCE 31-Dec-9999 SENTBEFORE 29-Feb-2000 SENTON 09-Jan-0999 SENTSINCE 10-Oct-1010")},
	{rawOf("a search larger 0 smaller 4294967295"), rawOf("a SEARCH LARGER 0 SMALLER 4294967295")},
	{rawOf("a fetch 1 flags"), rawOf("a FETCH 1 (FLAGS)")},
	{rawOf("a fetch 1 fast"), rawOf("a FETCH 1 (FLAGS INTERNALDATE RFC822.SIZE)")},
	{rawOf("a fetch 1 all"), rawOf("a FETCH 1 (FLAGS INTERNALDATE RFC822.SIZE ENVELOPE)")},
	{rawOf("a fetch 1 full"), rawOf("a FETCH 1 (FLAGS INTERNALDATE RFC822.SIZE ENVELOPE BODY)")},
	{rawOf("a fetch 1 (uid emailid bodystructure body[])"), rawOf("a FETCH 1 (UID EMAILID BODYSTRUCTURE BODY[])")},
	{rawOf("a fetch 1 (body[1.2] body.peek[text] body[3.mime] body[header]<4.5>)"), rawOf("a FETCH 1 (BODY[1.2] BODY.PEEK[TEXT] BODY[3.MIME] BODY[HEADER]<4.5>)")},
	{rawOf("a fetch 1 body[header.fields.not (a ", "b\x01", ` "c d")]<0.1>`), rawOf(`a FETCH 1 (BODY[HEADER.FIELDS.NOT ("a" `, "b\x01", ` "c d")]<0.1>)`)},
	{rawOf("a store 1 flags x"), rawOf("a STORE 1 FLAGS (x)")},
	{rawOf(`a store 1,2 +flags.silent \Seen \seen`), rawOf(`a STORE 1,2 +FLAGS.SILENT (\Seen \seen)`)},
	{rawOf("a uid store 1:* -flags ()"), rawOf("a UID STORE 1:* -FLAGS ()")},
	{rawOf("a copy 1 b"), rawOf(`a COPY 1 "b"`)},
	{rawOf("a uid copy 1 b"), rawOf(`a UID COPY 1 "b"`)},
	{rawOf("a move 4294967295:1 ", "b", ""), rawOf(`a MOVE 4294967295:1 "b"`)},
	{rawOf("a uid move 1 inbox"), rawOf(`a UID MOVE 1 "INBOX"`)},
}

func TestPrint(t *testing.T) {
	for _, one := range prints {
		c, e := parsed(t, one.came)
		if e != api.OK {
			t.Fatalf("Parse of %s: %v", tell(one.came), e)
		}
		if got := printed(t, c); !sameRaw(got, one.wanted) {
			t.Fatalf("Print of %s is %s; want %s", tell(one.came), tell(got), tell(one.wanted))
		}
		wantCommand(t, "printed", one.wanted, c)
		wantCommand(t, "as it came", one.came, c)
	}
}

func TestPrintOfEachCommand(t *testing.T) {
	for _, one := range plainCommands {
		c, e := parsed(t, rawOf("t "+one.behind))
		if e != api.OK {
			t.Fatalf("Parse of %s: %v", one.behind, e)
		}
		for _, letters := range []func(byte) byte{great, small, mixed} {
			other, _ := parsed(t, rawOf("t "+inLetters(one.behind, letters)))
			if a, b := printed(t, c), printed(t, other); !sameRaw(a, b) {
				t.Fatalf("Print of %s is %s, in other letters %s", one.behind, tell(a), tell(b))
			}
		}
	}
}

// Each byte that may stand in a string is told as a quoted text, if Quote tells it so, else as a literal.
func TestPrintOfEachByteOfAString(t *testing.T) {
	for _, b := range allBytes() {
		eachPlace(b, func(s string) {
			c := login("u", s)
			wanted := rawOf(`a LOGIN "u" ` + cmd.Quote(s))
			if b < 32 || b == 127 {
				wanted = rawOf(`a LOGIN "u" `, s, "")
			}
			if got := printed(t, c); !sameRaw(got, wanted) {
				t.Fatalf("Print of %s is %s; want %s", tell(c), tell(got), tell(wanted))
			}
			wantCommand(t, "printed", wanted, c)
		})
	}
}

// Each day that is at an edge of a month or of a year.
func TestPrintOfDays(t *testing.T) {
	for _, year := range []int{1, 9, 10, 99, 100, 999, 1000, 1900, 1969, 1970, 2000, 2024, 9999} {
		for month := 1; month <= 12; month++ {
			for day := 1; day <= 31; day++ {
				n := date.Days(year, month, day)
				if y, _, _ := date.Civil(n); y != year {
					continue
				}
				c := searching(api.Key{Op: "ON", N: n})
				wantParse(t, "a day, printed", printed(t, c), c)
				if text := printed(t, c).Texts[0]; len(text) != len("a SEARCH ON 01-Feb-1994") {
					t.Fatalf("Print of %s is %q", tell(c), text)
				}
			}
		}
	}
}

// A set of as many spans as may be, and a search of as many keys.
func TestPrintOfMuch(t *testing.T) {
	c := searching(slices.Repeat([]api.Key{{Op: "UID", Set: slices.Repeat(set(1, 2), api.MaxSpans)}}, api.MaxKeys-1)...)
	wantParse(t, "much, printed", printed(t, c), c)
}

// itself is keys of which each has all of them as its kids.
func itself(op string, many int) []api.Key {
	l := make([]api.Key, many)
	for i := range l {
		l[i] = api.Key{Op: op, Kids: l}
	}
	return l
}

// doubled is a key that has 2 to the power of so many keys in it, though few of them are there.
func doubled(op string, deep int) api.Key {
	k := api.Key{Op: "ALL"}
	for range deep {
		k = api.Key{Op: op, Kids: []api.Key{k, k}}
	}
	return k
}

// nested is a key with so many within one another.
func nested(op string, deep int) api.Key {
	k := api.Key{Op: "ALL"}
	for range deep {
		k = api.Key{Op: op, Kids: []api.Key{k}}
	}
	return k
}

// Of what Parse does not tell Print tells whatever, but it ends, and leaves it as it was.
func TestPrintOfOthers(t *testing.T) {
	names := []string{"", "FROB", "noop", "NOOP", "LOGIN", "SELECT", "RENAME", "LIST", "STATUS", "APPEND", "EXPUNGE", "SEARCH", "FETCH", "STORE", "COPY", "IDLE", "UID", "\x00", " "}
	words := []string{"", "&", "\xff", "a\x00", "(", "é", "a b"}
	numbers := []int{math.MinInt, -1, 0, 1, 1 << 32, math.MaxInt}
	var keys []api.Key
	for _, op := range []string{"AND", "OR", "NOT", "SEQ", "UID", "ALL", "FROB", "", "HEADER", "KEYWORD", "TEXT", "ON", "LARGER"} {
		keys = append(keys, itself(op, 1)[0], itself(op, 3)[1], itself(op, 1000)[0], doubled(op, 64), nested(op, 9), nested(op, 1<<16), api.Key{Op: op})
		for _, n := range numbers {
			keys = append(keys, api.Key{Op: op, Text: "\x00(", Field: "\xff", N: n, Set: set(n, 0)})
		}
	}
	for _, name := range names {
		for i, n := range numbers {
			c := api.Command{
				Tag: words[i], Name: name, UID: i%2 == 0, Words: words, Set: set(n, 0, 1, n), Items: words, Mode: n, Silent: true, Flags: words,
				Wants:   []api.Want{{}, {Name: "FROB", Part: true, Path: numbers, What: "\x00"}, {Name: "BODY", Part: true, Path: numbers, What: "FIELDS", Not: true, Names: words, Cut: true, From: n, N: n}, {What: "FIELDS"}, {Part: true, What: "FIELDS"}},
				Letters: []api.Letter{{}, {Flags: words, Date: []api.Date{{}, someDay, {Year: n, Month: n, Day: n, Zone: n}}, Text: "\x00"}},
			}
			cmd.Print(c)
			cmd.Print(api.Command{Name: name, Mode: n})
			for _, k := range keys {
				c.Key = k
				cmd.Print(c)
			}
		}
	}
	if !same(numbers, []int{math.MinInt, -1, 0, 1, 1 << 32, math.MaxInt}) || !same(words, []string{"", "&", "\xff", "a\x00", "(", "é", "a b"}) {
		t.Fatalf("Print changed what it was handed: %v, %q", numbers, words)
	}
	many := api.Command{Tag: times("t", 100000), Name: "LOGIN", Words: slices.Repeat([]string{"\x00"}, 100000)}
	if r := cmd.Print(many); len(r.Literals) != 100000 {
		t.Fatalf("Print of many words has %d literals", len(r.Literals))
	}
	cmd.Print(api.Command{})
}

// What is handed in by lists of lists stays, too.
func TestPrintChangesNothing(t *testing.T) {
	for _, one := range prints {
		c, _ := cmd.Parse(one.came)
		again, _ := cmd.Parse(one.came)
		cmd.Print(c)
		if !same(c, again) {
			t.Fatalf("Print made %s of %s", tell(c), tell(again))
		}
	}
}
