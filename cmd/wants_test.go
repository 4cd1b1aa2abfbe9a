package cmd_test

import (
	"math/rand"
	"slices"
	"strconv"
	"strings"
	"testing"

	"haversack/api"
)

// P14.1: what FETCH asks for.

func fetching(wants ...api.Want) api.Command {
	return api.Command{Tag: "a", Name: "FETCH", Set: set(1, 1), Wants: wants}
}

// body is a want with [ ].
func body(path ...int) api.Want { return api.Want{Name: "BODY", Part: true, Path: path} }

func what(w api.Want, what string) api.Want {
	w.What = what
	return w
}

func fieldsOf(w api.Want, not bool, names ...string) api.Want {
	w.What, w.Not, w.Names = "FIELDS", not, names
	return w
}

func cut(w api.Want, from, n int) api.Want {
	w.Cut, w.From, w.N = true, from, n
	return w
}

func peek(w api.Want) api.Want {
	w.Peek = true
	return w
}

func namesOnly(names ...string) []api.Want {
	var l []api.Want
	for _, name := range names {
		l = append(l, api.Want{Name: name})
	}
	return l
}

var wantWords = []string{"ENVELOPE", "FLAGS", "INTERNALDATE", "RFC822.SIZE", "BODYSTRUCTURE", "BODY", "UID", "EMAILID"}

// sections are texts that stand in [ ], and what they are.
var sections = map[string]api.Want{
	"":                                     body(),
	"1":                                    body(1),
	"1.2.3":                                body(1, 2, 3),
	"4294967295.10":                        body(1<<32-1, 10),
	"TEXT":                                 what(body(), "TEXT"),
	"HEADER":                               what(body(), "HEADER"),
	"1.TEXT":                               what(body(1), "TEXT"),
	"1.HEADER":                             what(body(1), "HEADER"),
	"1.MIME":                               what(body(1), "MIME"),
	"20.3.MIME":                            what(body(20, 3), "MIME"),
	"20.3.TEXT":                            what(body(20, 3), "TEXT"),
	"HEADER.FIELDS (1)":                    fieldsOf(body(), false, "1"),
	"HEADER.FIELDS.NOT (1)":                fieldsOf(body(), true, "1"),
	"7.HEADER.FIELDS (1 2 1)":              fieldsOf(body(7), false, "1", "2", "1"),
	"7.8.HEADER.FIELDS.NOT (1 ] 2])":       fieldsOf(body(7, 8), true, "1", "]", "2]"),
	`HEADER.FIELDS ("1 2" "" "\"\\" ")]")`: fieldsOf(body(), false, "1 2", "", `"\`, ")]"),
}

func TestEachWant(t *testing.T) {
	for _, word := range wantWords {
		for _, letters := range []func(byte) byte{great, small, mixed} {
			s := inLetters(word, letters)
			wantCommand(t, "one", rawOf("a FETCH 1 "+s), fetching(api.Want{Name: word}))
			wantCommand(t, "one in ( )", rawOf("a FETCH 1 ("+s+")"), fetching(api.Want{Name: word}))
			wantCommand(t, "two alike", rawOf("a FETCH 1 ("+s+" "+word+")"), fetching(namesOnly(word, word)...))
		}
		for _, other := range wantWords {
			wantCommand(t, "two", rawOf("a FETCH 1 ("+word+" "+other+")"), fetching(namesOnly(word, other)...))
			refused(t, "two without ( )", rawOf("a FETCH 1 "+word+" "+other), "a")
			refused(t, "two without a blank", rawOf("a FETCH 1 ("+word+","+other+")"), "a")
		}
		for _, s := range []string{word + "X", "X" + word, word + ".", word[1:], word[:len(word)-1], word + ".PEEK", word + "<0.1>", word + "()", `"` + word + `"`, `\` + word, "[" + word + "]", word + " ", word + ")", "(" + word} {
			refused(t, "none", rawOf("a FETCH 1 "+s), "a")
			refused(t, "none among others", rawOf("a FETCH 1 (UID "+s+")"), "a")
		}
		if word != "BODY" {
			refused(t, "a section of others", rawOf("a FETCH 1 "+word+"[]"), "a")
		}
	}
	wantCommand(t, "all", rawOf("a FETCH 1 ("+strings.Join(wantWords, " ")+")"), fetching(namesOnly(wantWords...)...))
	for _, s := range []string{"", "()", "( )", "(", ")", "(UID )", "( UID)", "(UID  UID)", "((UID))", "(UID (UID))", "(UID))", "(UID) ", "(UID)(UID)", "(UID) (UID)", "(UID)UID", "(UID) UID", "UID (UID)", "(UID UID", "UID UID)",
		"RFC822", "RFC822.HEADER", "RFC822.TEXT", "MODSEQ", "BINARY[]", "PREVIEW", "THREADID", "*", "1", "BODY.PEEK", "BODY.PEEKX[]", "BODY.PEE[]", "BODYPEEK[]", "BODYSTRUCTURE[]", "BODY PEEK[]", "BODY []", "BODY.PEEK []",
	} {
		refused(t, "no wants", rawOf("a FETCH 1 "+s), "a")
	}
	refused(t, "no blank", rawOf("a FETCH 1(UID)"), "a")
}

// Words that stand for several wants stand alone.
func TestShortWants(t *testing.T) {
	full := []string{"FLAGS", "INTERNALDATE", "RFC822.SIZE", "ENVELOPE", "BODY"}
	for word, many := range map[string]int{"FAST": 3, "ALL": 4, "FULL": 5} {
		for _, letters := range []func(byte) byte{great, small, mixed} {
			s := inLetters(word, letters)
			wantCommand(t, "alone", rawOf("a FETCH 1 "+s), fetching(namesOnly(full[:many]...)...))
			c := fetching(namesOnly(full[:many]...)...)
			c.UID = true
			wantCommand(t, "alone", rawOf("a UID FETCH 1 "+s), c)
			for _, other := range []string{"(" + s + ")", "(" + s + " UID)", "(UID " + s + ")", s + " UID", "UID " + s, s + "[]", s + "X", s + " ", "(" + s, s + "<0.1>", s + ".PEEK[]", s + " " + s} {
				refused(t, "not alone", rawOf("a FETCH 1 "+other), "a")
			}
		}
	}
}

func TestSections(t *testing.T) {
	for s, w := range sections {
		for _, letters := range []func(byte) byte{great, small, mixed} {
			s := inLetters(s, letters)
			for cutText, w := range map[string]api.Want{
				"": w, "<0.1>": cut(w, 0, 1), "<7.4294967295>": cut(w, 7, 1<<32-1), "<4294967295.10>": cut(w, 1<<32-1, 10),
			} {
				text, peeked := "["+s+"]"+cutText, peek(w)
				wantCommand(t, "a section", rawOf("a FETCH 1 body"+text), fetching(w))
				wantCommand(t, "a section", rawOf("a FETCH 1 Body.Peek"+text), fetching(peeked))
				wantCommand(t, "sections in ( )", rawOf("a FETCH 1 (UID BODY.PEEK"+text+" BODY"+text+" BODY FLAGS)"),
					fetching(api.Want{Name: "UID"}, peeked, w, api.Want{Name: "BODY"}, api.Want{Name: "FLAGS"}))
				for _, tail := range []string{"]", "[]", "<0.1>", "x", " UID", "<", ">", ".PEEK", "()", " "} {
					if tail != "<0.1>" || cutText != "" {
						refused(t, "something behind it", rawOf("a FETCH 1 BODY"+text+tail), "a")
					}
				}
			}
		}
		for _, text := range []string{"[" + s, s + "]", "[[" + s + "]]", "[ " + s + "]", "[" + s + " ]", "[." + s + "]", "[" + s + ".]", "(" + s + ")", "[" + s + "]]", "[" + s + "\x00]", "[" + s + "x]"} {
			refused(t, "no section", rawOf("a FETCH 1 BODY"+text), "a")
			refused(t, "no section", rawOf("a FETCH 1 (BODY.PEEK"+text+")"), "a")
		}
	}
	for _, s := range []string{
		"0", "1.0", "0.1", "01", "1.02", "4294967296", "1.4294967296", times("9", 100), "1.", ".1", "1..2", "1,2", "1:2", "*", "-1", "+1", "1 2", "1.a", "1TEXT", "TEXT1", "TEXT.1", "HEADER.1", "1TEXT.2",
		"MIME", ".MIME", "1.MIME.TEXT", "MIME.1", "TEXT.MIME", ".TEXT", "1..TEXT", "TEXTX", "XTEXT", "TEX", "BODY", "FIELDS", "1.FIELDS (x)", "PEEK",
		"HEADER.FIELDS", "HEADER.FIELDS ", "HEADER.FIELDS ()", "HEADER.FIELDS ( )", "HEADER.FIELDS(x)", "HEADER.FIELDS x", "HEADER.FIELDS  (x)", "HEADER.FIELDS (x", "HEADER.FIELDS x)", "HEADER.FIELDS (x )", "HEADER.FIELDS ( x)", "HEADER.FIELDS (x  y)",
		"HEADER.FIELDS ((x))", "HEADER.FIELDS (x) ", "HEADER.FIELDS (x) (y)", "HEADER.FIELDS (x)(y)", "HEADER.FIELDS (%)", "HEADER.FIELDS (*)", `HEADER.FIELDS (\x)`, `HEADER.FIELDS ("x)`, `HEADER.FIELDS ("x""y")`, "HEADER.FIELDS.NOT", "HEADER.FIELDS.NOT ()",
		"HEADER.FIELDS.NOTX (x)", "HEADER.FIELDS.NO (x)", "HEADER.FIELDSX (x)", "HEADER.FIELD (x)", "HEADER.NOT (x)", "HEADER.FIELDS.NOT.NOT (x)", "HEADER.FIELDS.1 (x)", "HEADER.FIELDS.MIME (x)", "HEADER (x)", "TEXT (x)", "1 (x)", "(x)", "HEADERFIELDS (x)", "HEADER.FIELDS.TEXT (x)", "HEADER FIELDS (x)",
	} {
		refused(t, "no section", rawOf("a FETCH 1 BODY["+s+"]"), "a")
		refused(t, "no section", rawOf("a FETCH 1 (BODY.PEEK["+s+"]<0.1>)"), "a")
	}
	path := make([]int, 500)
	var digits []string
	for i := range path {
		path[i] = i + 1
		digits = append(digits, strconv.Itoa(i+1))
	}
	long := strings.Join(digits, ".")
	wantParse(t, "a long path", rawOf("a FETCH 1 BODY["+long+"]"), fetching(body(path...)))
	wantParse(t, "a long path", rawOf("a FETCH 1 BODY["+long+".MIME]"), fetching(what(body(path...), "MIME")))
}

func TestCuts(t *testing.T) {
	for text, ends := range map[string][]int{"<0.1>": {0, 1}, "<1.1>": {1, 1}, "<10.20>": {10, 20}, "<4294967295.4294967295>": {1<<32 - 1, 1<<32 - 1}} {
		wantCommand(t, "a cut", rawOf("a FETCH 1 BODY[]"+text), fetching(cut(body(), ends[0], ends[1])))
	}
	for _, text := range []string{
		"<>", "<0>", "<0.>", "<.1>", "<.>", "<0.0>", "<1.0>", "<00.1>", "<01.1>", "<0.01>", "<0.1", "0.1>", "<0.1.2>", "<0,1>", "<0 1>", "< 0.1>", "<0.1 >", "<0. 1>", "<-1.1>", "<0.-1>", "<0.+1>", "<0.1>>", "<<0.1>>", "<0.1><0.1>",
		"<4294967296.1>", "<0.4294967296>", "<" + times("9", 100) + ".1>", "<0." + times("9", 100) + ">", "<a.1>", "<0.a>", "<*.1>", "<0.*>", " <0.1>", "[0.1]", "(0.1)", "<0..1>", "<\"0\".1>", "<0.1>x",
	} {
		refused(t, "no cut", rawOf("a FETCH 1 BODY[]"+text), "a")
		refused(t, "no cut", rawOf("a FETCH 1 (UID BODY.PEEK[1.TEXT]"+text+" UID)"), "a")
	}
}

// What is short is all held against the slow reader.
func TestShortWantsAsSlow(t *testing.T) {
	t.Parallel()
	commands := 0
	eachText([]string{"1", "0", ".", "TEXT", "MIME", "HEADER", " ", "(x)"}, 5, func(s string) {
		if asSlow(t, rawOf("a FETCH 1 BODY["+s+"]")) {
			commands++
		}
	})
	eachText([]string{"UID", "BODY", "ALL", "[]", "<0.1>", "(", ")", " "}, 5, func(s string) {
		if asSlow(t, rawOf("a FETCH 1 "+s)) {
			commands++
		}
	})
	if commands < 80 {
		t.Fatalf("just %d of them are commands", commands)
	}
}

// wantByChance is one, and a text of it.
func wantByChance(r *rand.Rand) (api.Want, string) {
	if r.Intn(3) == 0 {
		word := wantWords[r.Intn(len(wantWords))]
		return api.Want{Name: word}, word
	}
	w, s := body(), "BODY"
	if w.Peek = r.Intn(2) == 0; w.Peek {
		s += ".PEEK"
	}
	var texts []string
	for range r.Intn(4) {
		n := 1 + r.Intn(1<<uint(r.Intn(32)))
		w.Path = append(w.Path, n)
		texts = append(texts, strconv.Itoa(n))
	}
	whats := []string{"", "TEXT", "HEADER", "FIELDS", "MIME"}
	if len(w.Path) == 0 {
		whats = whats[:4]
	}
	w.What = whats[r.Intn(len(whats))]
	switch w.What {
	case "":
	case "FIELDS":
		text := "HEADER.FIELDS"
		if w.Not = r.Intn(2) == 0; w.Not {
			text += ".NOT"
		}
		w.Names = []string{"to", "X-a]", "cc"}[:1+r.Intn(3)]
		texts = append(texts, text+" ("+strings.Join(w.Names, " ")+")")
	default:
		texts = append(texts, w.What)
	}
	s += "[" + strings.Join(texts, ".") + "]"
	if r.Intn(3) == 0 {
		w = cut(w, r.Intn(3)*r.Intn(1<<31), 1+r.Intn(1<<32-1))
		s += "<" + strconv.Itoa(w.From) + "." + strconv.Itoa(w.N) + ">"
	}
	return w, s
}

func TestWantsByChance(t *testing.T) {
	r := rand.New(rand.NewSource(14))
	for range 2000 {
		var wants []api.Want
		var texts []string
		for range 1 + r.Intn(5) {
			w, s := wantByChance(r)
			wants, texts = append(wants, w), append(texts, s)
		}
		wantCommand(t, "wants by chance", rawOf("a FETCH 1 ("+strings.Join(texts, " ")+")"), fetching(wants...))
		wantCommand(t, "a want by chance", rawOf("a FETCH 1 "+texts[0]), fetching(wants[0]))
	}
}

func TestManyWants(t *testing.T) {
	wantParse(t, "many", rawOf("a FETCH 1 (UID"+times(" UID", 9999)+")"), fetching(slices.Repeat(namesOnly("UID"), 10000)...))
	names := fieldsOf(body(), false, slices.Repeat([]string{"x"}, 10000)...)
	wantParse(t, "many names", rawOf("a FETCH 1 BODY[HEADER.FIELDS (x"+times(" x", 9999)+")]"), fetching(names))
}
