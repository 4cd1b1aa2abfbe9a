package cmd_test

import (
	"slices"
	"strings"
	"testing"

	"haversack/api"
	"haversack/cmd"
)

// P14.1: which bytes may stand where. P14.2.

// The bytes from 33 to 126 that are no letters of tags and of atoms, as the chapter has them.
const (
	noTag  = `(){}%*"\[]<>+`
	noAtom = `(){%*"\]`
)

// seenBut tells whether a byte is from 33 to 126, and none of some.
func seenBut(b byte, none string) bool {
	return b >= 33 && b <= 126 && !strings.Contains(none, string([]byte{b}))
}

// without is some bytes but for some others.
func without(s, but string) string {
	return strings.Map(func(r rune) rune {
		if strings.ContainsRune(but, r) {
			return -1
		}
		return r
	}, s)
}

func noop(tag string) api.Command { return api.Command{Tag: tag, Name: "NOOP"} }

func TestEachByteOfATag(t *testing.T) {
	for _, b := range allBytes() {
		one := string([]byte{b})
		for _, tag := range []string{one, "a" + one, one + "a", "a" + one + "a", times("a", 19) + one} {
			if seenBut(b, noTag) {
				wantCommand(t, "a letter of a tag", rawOf(tag+" NOOP"), noop(tag))
				refused(t, "a tag alone", rawOf(tag), tag)
				continue
			}
			known := ""
			if b == ' ' { // the tag ends there
				known, _, _ = strings.Cut(tag, one)
			}
			refused(t, "no letter of a tag", rawOf(tag+" NOOP"), known)
			refused(t, "no letter of a tag alone", rawOf(tag), known)
			refused(t, "no letter of a tag, and a blank", rawOf(tag+" "), known)
		}
	}
}

func TestTags(t *testing.T) {
	for n := 1; n <= api.MaxTag; n++ {
		tag := times("t", n)
		wantCommand(t, "a tag", rawOf(tag+" NOOP"), noop(tag))
		for _, s := range []string{tag, tag + " ", tag + "  ", tag + "  NOOP", tag + " NOOP ", tag + " FROB", tag + " \x00", tag + " \r\n"} {
			refused(t, "a tag alone, or with what is none", rawOf(s), tag)
		}
		refused(t, "a tag and a byte", rawOf(tag+"\r"), "")
		refused(t, "a tag behind a blank", rawOf(" "+tag+" NOOP"), "")
	}
	for _, tag := range []string{"", times("t", api.MaxTag+1), times("t", api.MaxTag+2), times("t", 5000)} {
		for _, s := range []string{tag, tag + " ", tag + " NOOP", tag + " FROB"} {
			refused(t, "no tag", rawOf(s), "")
		}
	}
	for _, tag := range []string{"a1", "A1", "1", "NOOP", "UID", "a.b", "!#$&',-./:;=?@^_`|~"} {
		wantCommand(t, "a tag", rawOf(tag+" noop"), noop(tag))
	}
}

// A tag is alone, if nothing comes behind it, not even a literal.
func TestTagsAndLiterals(t *testing.T) {
	refused(t, "a literal", rawOf("a", "x", ""), "")
	refused(t, "a literal", rawOf("a", "", ""), "")
	refused(t, "a literal", rawOf("a", " NOOP", ""), "")
	refused(t, "a literal", rawOf("a", "", " NOOP"), "")
	refused(t, "a literal", rawOf("", "a", " NOOP"), "")
	refused(t, "a literal", rawOf("a", "x"), "")
	refused(t, "a literal", rawOf("a ", "NOOP", ""), "a")
	refused(t, "a literal", rawOf("a ", "x"), "a")
	refused(t, "a literal", rawOf("a NOOP", "x"), "a")
	refused(t, "a text", api.Raw{Texts: []string{"a", ""}}, "")
	refused(t, "a text", api.Raw{Texts: []string{"a", " NOOP"}}, "")
	refused(t, "a text", api.Raw{Texts: []string{"a ", "NOOP"}}, "a")
	refused(t, "a text", api.Raw{Texts: []string{"a NOOP", ""}}, "a")
	refused(t, "no text", api.Raw{}, "")
	refused(t, "no text", api.Raw{Literals: []string{"a"}}, "")
	refused(t, "no text", api.Raw{Literals: []string{"a NOOP", "x"}}, "")
	refused(t, "an empty text", rawOf(""), "")
}

// eachPlace goes through a byte in the midst of letters, at both ends of them, and alone.
func eachPlace(b byte, do func(s string)) {
	one := string([]byte{b})
	for _, s := range []string{one, one + one, "x" + one, one + "x", "x" + one + "y"} {
		do(s)
	}
}

func TestEachByteOfAnAtom(t *testing.T) {
	for _, b := range allBytes() {
		eachPlace(b, func(s string) {
			r := rawOf("a SEARCH KEYWORD " + s)
			switch {
			case seenBut(b, noAtom):
				for _, word := range []string{"KEYWORD", "UNKEYWORD"} {
					wantCommand(t, "a letter of an atom", rawOf("a SEARCH "+word+" "+s), searching(api.Key{Op: word, Text: s}))
				}
			case b == ' ':
				asSlow(t, r)
			default:
				refused(t, "no letter of an atom", r, "a")
			}
		})
	}
	refused(t, "no atom", rawOf("a SEARCH KEYWORD "), "a")
	refused(t, "no atom", rawOf("a SEARCH KEYWORD"), "a")
	refused(t, "a quoted text", rawOf(`a SEARCH KEYWORD "x"`), "a")
	refused(t, "a literal", rawOf("a SEARCH KEYWORD ", "x", ""), "a")
}

func TestEachByteOfAnAstring(t *testing.T) {
	for _, b := range allBytes() {
		eachPlace(b, func(s string) {
			first, second := rawOf("a LOGIN "+s+" p"), rawOf("a LOGIN u "+s)
			switch {
			case seenBut(b, without(noAtom, "]")):
				wantCommand(t, "a letter of an astring", first, login(s, "p"))
				wantCommand(t, "a letter of an astring", second, login("u", s))
			case b == '"' && s == `""`:
				wantCommand(t, "an empty quoted text", first, login("", "p"))
				wantCommand(t, "an empty quoted text", second, login("u", ""))
			default:
				refused(t, "no letter of an astring", first, "a")
				refused(t, "no letter of an astring", second, "a")
			}
			wantCommand(t, "a literal", rawOf("a LOGIN u ", s, ""), login("u", s))
		})
	}
}

func TestEachByteOfAPattern(t *testing.T) {
	for _, b := range allBytes() {
		eachPlace(b, func(s string) {
			for _, word := range []string{"LIST", "LSUB"} {
				r := rawOf("a " + word + ` "" ` + s)
				switch {
				case b == '&' || s == `""`:
					asSlow(t, r)
				case seenBut(b, without(noAtom, "]%*")):
					wantCommand(t, "a letter of a pattern", r, api.Command{Tag: "a", Name: word, Words: []string{"", s}})
				default:
					refused(t, "no letter of a pattern", r, "a")
				}
			}
		})
	}
	for _, s := range []string{"%", "*", "x%", "a*b"} {
		refused(t, "a pattern that stands for a name", rawOf("a LIST "+s+" x"), "a")
		refused(t, "a pattern that stands for a name", rawOf("a SELECT "+s), "a")
	}
}

func TestEachByteOfAFlag(t *testing.T) {
	for _, b := range allBytes() {
		eachPlace(b, func(s string) {
			for _, flag := range []string{s, `\` + s} {
				bare, within := rawOf("a STORE 1 FLAGS "+flag), rawOf("a STORE 1 FLAGS ("+flag+")")
				switch {
				case seenBut(b, noAtom):
					wantCommand(t, "a letter of a flag", bare, storing(0, false, flag))
					wantCommand(t, "a letter of a flag", within, storing(0, false, flag))
					wantCommand(t, "a letter of a flag", rawOf("a APPEND b ("+flag+") ", "x", ""), appending("b", api.Letter{Flags: []string{flag}, Text: "x"}))
				default:
					asSlow(t, bare)
					asSlow(t, within)
				}
			}
		})
	}
	for _, flag := range []string{``, `\`, `\\`, `\\x`, `x\`, `x\y`, `\x\`, `"x"`, `\"x"`, `\*`, `\(x)`, `]`, `\]`, `x]`, `{`, `%`} {
		refused(t, "no flag", rawOf("a STORE 1 FLAGS "+flag), "a")
		refused(t, "no flag among others", rawOf("a STORE 1 FLAGS (y "+flag+")"), "a")
	}
	refused(t, "a literal", rawOf("a STORE 1 FLAGS ", "x", ""), "a")
	refused(t, "a literal", rawOf("a STORE 1 FLAGS (", "x", ")"), "a")
	refused(t, "a literal", rawOf(`a STORE 1 FLAGS \`, "x", ""), "a")
}

func TestEachByteOfAQuotedText(t *testing.T) {
	for _, b := range allBytes() {
		one := string([]byte{b})
		for _, around := range [][2]string{{"", ""}, {"x", ""}, {"", "y"}, {" x ", " y "}, {`\\`, `\"`}} {
			before := strings.NewReplacer(`\\`, `\`, `\"`, `"`).Replace(around[0])
			after := strings.NewReplacer(`\\`, `\`, `\"`, `"`).Replace(around[1])
			plain := rawOf(`a LOGIN "` + around[0] + one + around[1] + `" p`)
			behind := rawOf(`a LOGIN "` + around[0] + `\` + one + around[1] + `" p`)
			switch {
			case b == '"' || b == '\\':
				wantCommand(t, `behind a \`, behind, login(before+one+after, "p"))
				if around[1] != `\"` || b != '\\' { // else it is the \ of another one
					refused(t, `without a \`, plain, "a")
				}
			case b < 32 || b == 127:
				refused(t, "no byte of a quoted text", plain, "a")
				refused(t, `no byte of a quoted text, behind a \`, behind, "a")
			default:
				wantCommand(t, "a byte of a quoted text", plain, login(before+one+after, "p"))
				refused(t, `a byte behind a \`, behind, "a")
			}
		}
	}
}

func TestQuotedTexts(t *testing.T) {
	for quoted, said := range map[string]string{
		`""`: ``, `" "`: ` `, `"  x  "`: `  x  `, `"\\"`: `\`, `"\""`: `"`, `"\\\""`: `\"`, `"\"\\"`: `"\`, `"\\\\"`: `\\`, `"(){%*]"`: `(){%*]`,
		`"{1}"`: `{1}`, `"é"`: "é", "\"\x80\xff\"": "\x80\xff", `"NOOP"`: `NOOP`, `"\"a\" b"`: `"a" b`,
	} {
		wantCommand(t, "a quoted text", rawOf("a LOGIN "+quoted+" p"), login(said, "p"))
		wantCommand(t, "a quoted text", rawOf("a LOGIN u "+quoted), login("u", said))
		wantCommand(t, "a quoted text", rawOf("a LOGIN "+quoted+" "+quoted), login(said, said))
	}
	for _, quoted := range []string{`"`, `"""`, `"x`, `x"`, `"x\"`, `"\`, `"\x"`, `"\\\"`, `"x"y`, `"x" `, `"x""y"`, `x"y"`, "\"\r\n\"", "\"\t\"", "\"\x00\"", "\"\x7f\""} {
		refused(t, "no quoted text", rawOf("a LOGIN u "+quoted), "a")
	}
	refused(t, "a quoted text that ends behind a literal", rawOf(`a LOGIN u "x`, "l", `y"`), "a")
	refused(t, "a quoted text and a literal", rawOf(`a LOGIN u "x"`, "l", ""), "a")
	refused(t, "a literal and a quoted text", rawOf(`a LOGIN u `, "l", `"x"`), "a")
	refused(t, "letters and a literal", rawOf(`a LOGIN u x`, "l", ""), "a")
	refused(t, "a literal and letters", rawOf(`a LOGIN u `, "l", "x"), "a")
	refused(t, "two literals", rawOf(`a LOGIN u `, "l", "", "m", ""), "a")
}

// P14.2
func TestQuote(t *testing.T) {
	for s, wanted := range map[string]string{
		"": `""`, "a": `"a"`, " ": `" "`, `"`: `"\""`, `\`: `"\\"`, `\"`: `"\\\""`, `a"b\c`: `"a\"b\\c"`, "é": `"é"`, "\xff\x80": "\"\xff\x80\"", "~": `"~"`,
		"(){%*]": `"(){%*]"`, "\x00": "", "\r\n": "", "a\tb": "", "a\x1f": "", "\x7fa": "", "a\x7f\x80": "",
	} {
		if got := cmd.Quote(s); got != wanted {
			t.Fatalf("Quote(%q) = %q; want %q", s, got, wanted)
		}
	}
}

func TestQuoteOfEachByte(t *testing.T) {
	for _, b := range allBytes() {
		eachPlace(b, func(s string) {
			wanted := `"` + strings.NewReplacer(`\`, `\\`, `"`, `\"`).Replace(s) + `"`
			if b < 32 || b == 127 {
				wanted = ""
			}
			if got := cmd.Quote(s); got != wanted {
				t.Fatalf("Quote(%q) = %q; want %q", s, got, wanted)
			}
			if wanted != "" {
				wantCommand(t, "what Quote tells", rawOf("a LOGIN "+wanted+" p"), login(s, "p"))
			}
		})
	}
}

func TestQuoteOfShortTexts(t *testing.T) {
	signs := []string{`\`, `"`, "a", " ", "\x00", "\x7f", "\x80"}
	unlike := map[string]string{}
	eachText(signs, 5, func(s string) {
		quoted := cmd.Quote(s)
		if strings.ContainsAny(s, "\x00\x7f") != (quoted == "") {
			t.Fatalf("Quote(%q) = %q", s, quoted)
		}
		if quoted == "" {
			return
		}
		if other, is := unlike[quoted]; is {
			t.Fatalf("Quote(%q) and Quote(%q) are %q", s, other, quoted)
		}
		unlike[quoted] = s
		wantParse(t, "what Quote tells", rawOf("a LOGIN u "+quoted), login("u", s))
	})
	eachText(signs, 5, func(s string) {
		said, is := unlike[`"`+s+`"`]
		if r := rawOf(`a LOGIN u "` + s + `"`); is {
			wantParse(t, "what Quote tells", r, login("u", said))
		} else {
			wantRefused(t, "what Quote does not tell", r, "a")
		}
	})
}

func login(words ...string) api.Command {
	return api.Command{Tag: "a", Name: "LOGIN", Words: slices.Clone(words)}
}

func searching(kids ...api.Key) api.Command {
	return api.Command{Tag: "a", Name: "SEARCH", Key: api.Key{Op: "AND", Kids: kids}}
}

func storing(mode int, silent bool, flags ...string) api.Command {
	return api.Command{Tag: "a", Name: "STORE", Set: set(1, 1), Mode: mode, Silent: silent, Flags: flags}
}

func appending(name string, l ...api.Letter) api.Command {
	return api.Command{Tag: "a", Name: "APPEND", Words: []string{name}, Letters: l}
}
