package cmd_test

import (
	"math/rand"
	"slices"
	"testing"

	"haversack/api"
)

// P14.4, P14.5 and P14.6 are held of each command that wantCommand and asSlow are asked for; here are many more of these.

// examples are texts of commands without literals that have each kind of thing.
var examples = []string{
	"a1 uid Fetch 1:* (flags BODY.peek[1.HEADER.fields (to)]<0.9>)",
	"ab.1 Noop",
	`t LOGIN ann "p\\ \"x"`,
	"t select inbox/&AOk-",
	`a LIST "" a%&-*]`,
	"a STATUS b (SIZE UNSEEN)",
	"a uid expunge 1,3:*",
	`a SEARCH or (1 not all) keyword x from "a b" header a b]`,
	`a SEARCH on 1-feb-1994 since "01-Feb-1994" larger 10 uid 2`,
	`a STORE 1 +flags.silent (\Seen x)`,
	`a uid store 2 -flags \Seen x`,
	"a MOVE 1:2 b",
	`a FETCH 1 BODY[HEADER.FIELDS.NOT (a "b" c])]<10.20>`,
	"a fetch 1 (all)",
	"a fetch 1 Full",
}

// telling are the bytes that mean something somewhere, and some that mean nothing.
var telling = []byte("aZ019 \"\\(){}[]<>%*&+-.,:/\x00\r\n\t\x7f\x80\xff")

func TestNearExamples(t *testing.T) {
	for i, s := range examples {
		t.Run(s, func(t *testing.T) {
			t.Parallel()
			bytes := telling
			if i < 4 {
				bytes = allBytes()
			}
			eachNear(s, bytes, func(near string) { asSlow(t, rawOf(near)) })
		})
	}
}

// A literal at each place of an example, ahead of what is there, or for some of it.
func TestLiteralsAtEachPlace(t *testing.T) {
	for _, s := range examples {
		for at := range len(s) + 1 {
			for _, l := range []string{"", "x", "INBOX", "\x00\r\n"} {
				asSlow(t, rawOf(s[:at], l, s[at:]))
				for more := 1; more <= 6 && at+more <= len(s); more++ {
					asSlow(t, rawOf(s[:at], l, s[at+more:]))
				}
			}
		}
	}
}

// An example with a literal, near which all is held against the slow reader.
func TestNearExamplesWithLiterals(t *testing.T) {
	for _, r := range []api.Raw{
		rawOf(`a APPEND inbox (\Seen x) "17-Jul-1996 02:44:25 -0700" `, "x", ` (y) `, "z", ""),
		rawOf("a LOGIN ", "u\x00", " ", "p", ""),
		rawOf("a SEARCH text ", "u", " (header ", "v", " x)"),
		rawOf("a FETCH 1 body[header.fields (", "u", " ", "v", " x)]"),
	} {
		for i, s := range r.Texts {
			eachNear(s, telling, func(near string) {
				other := copyOf(r)
				other.Texts[i] = near
				asSlow(t, other)
			})
		}
		for i := range r.Literals {
			other := copyOf(r)
			other.Literals = slices.Delete(other.Literals, i, i+1)
			asSlow(t, other)
			other.Texts = slices.Delete(other.Texts, i, i+1)
			asSlow(t, other)
			other = copyOf(r)
			other.Literals = slices.Insert(other.Literals, i, "more")
			asSlow(t, other)
			other.Texts = slices.Insert(other.Texts, i, " ")
			asSlow(t, other)
		}
	}
}

// pieces are such that a few of them behind the right word make commands, and things that are nearly so.
var pieces = map[string][]string{
	"LOGIN ":         {"u", " ", `"p"`, `"`, `\\`, `\"`, "]", "é", "x"},
	"RENAME ":        {"a", " ", `"b"`, "&AOk-", "&", "inbox", "/", `"`, "%"},
	"LIST ":          {`""`, " ", "*", "%", "a", "&-", "inbox", "/", `"`},
	"STATUS b":       {" (SIZE", " unseen", ")", " ", "(", " uidnext", "SIZE", "x"},
	"SEARCH ":        {"ALL", " ", "NOT ", "OR ", "(", ")", "1", "TEXT x", "ON 1-feb-1994", "LARGER 1", "UID 2", " all", " 3"},
	"FETCH 1":        {" ", " flags", "BODY", "[]", "[1]", "[1.MIME]", " (", "(", ")", "<0.1>", " ALL", ".PEEK", ":*", " UID", " body[text]"},
	"FETCH 1 BODY[":  {"1", ".", "TEXT", "MIME", "HEADER", ".FIELDS", " (", "x", ")", "]", "<0.1>", ".NOT", `"y"`, "0"},
	"STORE 1":        {" ", "+", "-", "FLAGS", ".SILENT", "(", ")", `\x`, "y", " y", " flags"},
	"UID ":           {"EXPUNGE ", "SEARCH ", "COPY ", " ", "1", "all", " b", "NOOP", ":2", "UID ", "MOVE "},
	"APPEND b":       {" ", " (", ")", "x", ` "17-Jul-1996 02:44:25 -0700"`, `\y`, " (x)", " ()"},
	"":               {"NOOP", "IDLE", "CLOSE", " ", "EXPUNGE", "UID", "1", "GETQUOTA", `""`, "COPY", "x", "SELECT"},
	"SEARCH HEADER ": {"x", " ", `"a b"`, "NOT", "]", "(", ")", "1", `"\""`},
}

func TestCommandsByChance(t *testing.T) {
	for word, some := range pieces {
		t.Run(word, func(t *testing.T) {
			t.Parallel()
			r := rand.New(rand.NewSource(int64(len(word))))
			commands := 0
			for range 12000 {
				raw := rawOf("a " + word + chance(r, 8, some...))
				for r.Intn(3) == 0 {
					raw.Literals = append(raw.Literals, chance(r, 2, "l", "INBOX", "\x00", "&"))
					raw.Texts = append(raw.Texts, chance(r, 4, some...))
				}
				if last := len(raw.Literals); last > 0 && r.Intn(2) == 0 {
					raw.Texts[last] = "" // a literal ends it
				}
				if asSlow(t, raw) {
					commands++
				}
			}
			if commands < 20 {
				t.Fatalf("just %d of them are commands", commands)
			}
		})
	}
}
