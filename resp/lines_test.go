package resp_test

import (
	"strings"
	"testing"

	"haversack/api"
	"haversack/resp"
)

// P15.1, P15.2 and P15.3, of lines.

// toldWith goes through lines with a tag that are not those of +.
func toldWith(tag string, do func(l api.Line, told string)) {
	do(api.Line{Tag: tag, Vals: vals(number(1), atom("a"))}, tag+" 1 a"+end)
	do(status(tag, "OK", "done"), tag+" OK done"+end)
	do(status(tag, "NO", "", atom("A"), number(2)), tag+" NO [A 2] "+end)
}

func wantTag(t *testing.T, why, tag string) {
	t.Helper()
	toldWith(tag, func(l api.Line, told string) { wantTold(t, why, lines(l), told) })
}

func wantNoTag(t *testing.T, why, tag string) {
	t.Helper()
	toldWith(tag, func(l api.Line, told string) {
		wantWrong(t, why, l)
		if strings.Contains(tag, " ") { // what is ahead of the blank may be one
			asSlow(t, told)
			return
		}
		wantRefused(t, why, told)
		wantRefused(t, why+", behind another line", "* 1"+end+told)
	})
}

func TestTags(t *testing.T) {
	for _, tag := range []string{"*", "a", "A1", "a1b2", "1", "12", "007", "NIL", "nil", "OK", "BYE", "%", `\`, "a.b", "~", "!#$&',-./:;=?@^_`|", times("a", 30), times("z", 1000)} {
		wantTag(t, "a tag", tag)
	}
	for _, tag := range []string{"", "**", "*a", "a*", "a*b", "++", "a+", "+a", "a+b", "*+", "+*", " ", "a b", " a", "a ", "(", "a)", "{", "}", `"`, `"a"`, "[", "]", "<", ">", "a\x00", "\r", "a\n", "\r\n", "\x7f", "é", "\xff"} {
		wantNoTag(t, "no tag", tag)
	}
	for _, l := range []api.Line{{}, {Text: "x"}, {Tag: "*"}, {Tag: "a"}, {Tag: "", Vals: vals(nothing)}, {Status: "OK"}} {
		wantWrong(t, "nearly nothing", l)
	}
}

func TestEachByteInTags(t *testing.T) {
	for b := range 256 {
		one := string([]byte{byte(b)})
		for _, tag := range []string{one, "a" + one, one + "a", "a" + one + "b", one + one, "1" + one} {
			switch {
			case tag == "+":
				wantTold(t, "+", lines(goOn("1 a")), "+ 1 a"+end)
				toldWith(tag, func(l api.Line, _ string) { wantWrong(t, "+ with more", l) })
			case tag == "*" || okInAtoms(b) && one != "*" && one != "+":
				wantTag(t, "a tag", tag)
			default:
				wantNoTag(t, "no tag", tag)
			}
		}
	}
}

func TestGoOn(t *testing.T) {
	for _, s := range []string{"", " ", "x", "go on", "idling", "  x  ", "OK", "OK x", "BAD [A] x", "NIL", "(a)", "(", `"`, "]", "{1}", "x [", " [x", "+", "+ x", "~", times("x", 3000)} {
		wantTold(t, "a text", lines(goOn(s)), "+ "+s+end)
	}
	for _, s := range []string{"[", "[x", "[A] x", "[]", "a\n", "\r\n", "\r", "\x00", "\x1f", "\x7f", "\x80", "é", "a\tb"} {
		wantWrong(t, "no text", goOn(s))
		wantRefused(t, "no text", "+ "+s+end)
	}
	for _, put := range []func(l *api.Line){
		func(l *api.Line) { l.Status = "OK" },
		func(l *api.Line) { l.Status = "x" },
		func(l *api.Line) { l.Code = vals(atom("A")) },
		func(l *api.Line) { l.Code = vals(nothing) },
		func(l *api.Line) { l.Vals = vals(atom("a")) },
		func(l *api.Line) { l.Vals = vals(nothing) },
		func(l *api.Line) { l.Status, l.Code = "OK", vals(atom("A")) },
		func(l *api.Line) { l.Status, l.Vals = "OK", vals(atom("A")) },
	} {
		for _, s := range []string{"", "x", "[x"} {
			l := goOn(s)
			put(&l)
			wantWrong(t, "+ with more", l)
		}
	}
	wantTold(t, "+ with empty lists", lines(api.Line{Tag: "+", Vals: vals(), Code: []api.Val{}}), "+ "+end)
	wantRefused(t, "+ alone", "+"+end)
	wantRefused(t, "+ and a text", "+x"+end)
}

func TestStatuses(t *testing.T) {
	for _, word := range []string{"OK", "NO", "BAD", "BYE", "PREAUTH"} {
		for _, tag := range []string{"*", "a", "12"} {
			ahead := tag + " " + word + " "
			wantTold(t, "alone", lines(status(tag, word, "")), ahead+end)
			wantTold(t, "a text", lines(status(tag, word, "done")), ahead+"done"+end)
			wantTold(t, "a code", lines(status(tag, word, "done", atom("A"))), ahead+"[A] done"+end)
			wantTold(t, "a code alone", lines(status(tag, word, "", atom("A"))), ahead+"[A] "+end)
			wantTold(t, "a long code", lines(status(tag, word, "x", atom("A"), number(1), list(text("b"), nothing), section("B", []int{1}, text("\n")))), ahead+"[A 1 (\"b\" NIL) B[{1}"+end+"\n]<1>] x"+end)
			wantTold(t, "a code that is none of a name", lines(status(tag, word, "x", nothing)), ahead+"[NIL] x"+end)
			wantTold(t, "a code like a status", lines(status(tag, word, "x", atom("OK"), atom("NO"))), ahead+"[OK NO] x"+end)
			wantTold(t, "a text like a status", lines(status(tag, word, word+" x")), ahead+word+" x"+end)
			wantTold(t, "empty lists", lines(api.Line{Tag: tag, Status: word, Vals: vals(), Code: []api.Val{}}), ahead+end)
			for _, wrong := range []string{tag + " " + word, tag + "  " + word + " x", " " + ahead + "x", ahead + "[A]x", ahead + "[A]", ahead + "[] x", ahead + "[ ] x", ahead + "[ A] x", ahead + "[A ] x", ahead + "[A  B] x", ahead + "[A", ahead + "[A x", ahead + "[", ahead + "]["[1:] + "x"} {
				wantRefused(t, "nearly one", wrong+end)
			}
		}
	}
}

func TestOtherStatuses(t *testing.T) {
	for _, word := range []string{"ok", "Ok", "oK", "no", "No", "bad", "Bad", "bye", "BYe", "preauth", "PreAuth", "PREAUT", "OKAY", "O", "N", "OKNO", "x", "*", "+"} {
		wantWrong(t, "no status", status("a", word, ""))
		wantWrong(t, "no status", status("a", word, "x"))
		wantWrong(t, "no status", status("*", word, "x", atom("A")))
		wantTold(t, "an atom", lines(values(atom(word), atom("x"))), "* "+word+" x"+end)
		wantTold(t, "an atom alone", lines(values(atom(word))), "* "+word+end)
		wantRefused(t, "an atom, and a blank", "* "+word+" "+end)
		wantRefused(t, "an atom, and a code", "* "+word+" [A] x"+end)
	}
	for _, word := range []string{" ", "OK ", " OK", "OK\x00", "OK\r\n", "OK NO", "12", "NIL", `"OK"`, "(OK)", "OK[]", "[OK]"} {
		wantWrong(t, "no status", status("a", word, "x"))
		wantWrong(t, "no status", status("a", word, "", atom("A")))
	}
}

func TestStatusesWithMore(t *testing.T) {
	for _, v := range vals(nothing, number(1), atom("a"), text(""), list(), section("B", nil)) {
		l := status("a", "OK", "x")
		l.Vals = vals(v)
		wantWrong(t, "Vals beside a status", l)
		l.Code = vals(v)
		wantWrong(t, "Vals beside a status and a code", l)
		wantWrong(t, "Vals and a text", api.Line{Tag: "a", Vals: vals(v), Text: "x"})
		wantWrong(t, "Vals and a code", api.Line{Tag: "a", Vals: vals(v), Code: vals(v)})
		wantWrong(t, "Vals, a text and a code", api.Line{Tag: "a", Vals: vals(v), Code: vals(v), Text: "x"})
		wantWrong(t, "a code alone", api.Line{Tag: "a", Code: vals(v)})
		wantWrong(t, "a code and a text", api.Line{Tag: "a", Code: vals(v), Text: "x"})
	}
	wantWrong(t, "a text alone", api.Line{Tag: "a", Text: "x"})
	wantWrong(t, "a text alone", api.Line{Tag: "*", Text: " "})
}

func TestTexts(t *testing.T) {
	for _, s := range []string{"", " ", "x", "done", " x", "x ", "a  b", "]", "x [A] y", " [A] x", "A] x", "(", `"`, "{3}", "<1>", "NIL", "*", "+", "~", "OK [A] x", times("x", 3000)} {
		wantTold(t, "a text", lines(status("a", "OK", s)), "a OK "+s+end)
		wantTold(t, "a text behind a code", lines(status("a", "NO", s, atom("A"))), "a NO [A] "+s+end)
	}
	for _, s := range []string{"[", "[]", "[x", "[[", "[A", "[ A] x", "[A]x", "[]A] x"} {
		wantWrong(t, "a text that begins with [", status("a", "OK", s))
		wantRefused(t, "a text that begins with [", "a OK "+s+end)
		wantTold(t, "behind a code", lines(status("a", "OK", s, atom("A"))), "a OK [A] "+s+end)
	}
	for _, s := range []string{"[A] x", "[A] ", "[1 2] [A] x", `["a"] x`, "[A B[C]] [D] E"} { // such a one would be read as a code
		wantWrong(t, "a text that begins with [", status("a", "OK", s))
		wantTold(t, "behind a code", lines(status("a", "OK", s, atom("A"))), "a OK [A] "+s+end)
		if l, e := resp.Parse("a OK " + s + end); e != api.OK || len(l[0].Code) == 0 {
			t.Fatalf("%s is read as %s, %v", s, tell(l), e)
		}
	}
}

func TestEachByteInTexts(t *testing.T) {
	for b := range 256 {
		one := string([]byte{byte(b)})
		for _, s := range []string{one, "a" + one, one + "a", "a" + one + "b", one + one} {
			is := b >= 32 && b <= 126
			for _, c := range []struct {
				l    api.Line
				told string
			}{
				{status("a", "OK", s), "a OK " + s + end},
				{goOn(s), "+ " + s + end},
				{status("a", "OK", s, atom("A")), "a OK [A] " + s + end},
			} {
				switch {
				case is && (s[0] != '[' || len(c.l.Code) > 0):
					wantTold(t, "a text", lines(c.l), c.told)
				default:
					wantWrong(t, "no text", c.l)
					wantRefused(t, "no text", c.told)
				}
			}
		}
	}
}

func TestFirstValues(t *testing.T) {
	wantWrong(t, "no values", api.Line{Tag: "*"})
	wantWrong(t, "no values", api.Line{Tag: "a", Vals: vals()})
	wantRefused(t, "no values", "* "+end)
	wantRefused(t, "no values, and no blank", "*"+end)
	for _, word := range []string{"OK", "NO", "BAD", "BYE", "PREAUTH"} {
		wantWrong(t, "an atom", values(atom(word)))
		wantWrong(t, "an atom, and more", values(atom(word), atom("x")))
		wantWrong(t, "an atom, and more", values(atom(word), list(atom("x")), text("")))
		wantRefused(t, "alone", "* "+word+end)
		wantRefused(t, "alone, behind a tag", "a "+word+end)
		wantTold(t, "a string", lines(values(text(word))), `* "`+word+`"`+end)
		wantTold(t, "a string, and more", lines(values(text(word), atom("x"))), `* "`+word+`" x`+end)
		wantTold(t, "a section", lines(values(section(word, nil))), "* "+word+"[]"+end)
		wantTold(t, "a section, and more", lines(values(section(word, nil, atom("A")), atom("x"))), "* "+word+"[A] x"+end)
		wantTold(t, "a section that begins somewhere", lines(values(section(word, []int{1}), atom("x"))), "* "+word+"[]<1> x"+end)
		wantTold(t, "a list", lines(values(list(atom(word)))), "* ("+word+")"+end)
		wantTold(t, "the second one", lines(values(number(1), atom(word), atom("x"))), "* 1 "+word+" x"+end)
		wantTold(t, "the second one, behind nothing", lines(values(nothing, atom(word))), "* NIL "+word+end)
		wantTold(t, "a tag", lines(api.Line{Tag: word, Vals: vals(atom("x"))}), word+" x"+end)
		wantTold(t, "more letters", lines(values(atom(word+"x"), atom(word))), "* "+word+"x "+word+end)
		wantTold(t, "more letters ahead", lines(values(atom("x"+word))), "* x"+word+end)
		wantTold(t, "small letters", lines(values(atom(strings.ToLower(word)), atom("x"))), "* "+strings.ToLower(word)+" x"+end)
	}
	wantTold(t, "many", lines(values(make([]api.Val, 200)...)), "*"+times(" NIL", 200)+end)
}

// whole are lines that have each kind of thing.
var whole = []string{
	`* 3 FETCH (FLAGS (\Seen) BODY[TEXT]<0> "a")`,
	"a1 OK [READ-WRITE] done",
	"* NIL",
	"+ go on",
	"* OK ",
	"a NO [X 1 (B)] x [y]",
	`* "q\"\\" {1}` + end + "\x00 B[a (b c) D[]<7>]<12> ()",
	"12 x",
}

// One blank more, and one too few, at each place.
func TestBlanks(t *testing.T) {
	for _, s := range whole {
		if !asSlow(t, s+end) {
			t.Fatalf("%s is no line", tell(s))
		}
		s += end
		for at := range len(s) + 1 {
			asSlow(t, s[:at]+" "+s[at:])
			asSlow(t, s[:at]+"  "+s[at:])
			asSlow(t, s[:at]+"\t"+s[at:])
			if at < len(s) {
				asSlow(t, s[:at]+s[at+1:])
				asSlow(t, s[:at]+" "+s[at+1:])
			}
		}
	}
	for _, s := range []string{
		" * NIL", "*  NIL", "*NIL", "* NIL ", "* NIL  1", "* (NIL )", "* ( NIL)", "* (NIL  1)", "* B [1]", "* B[1 ]", "* B[ 1]", "* B[1] <2>", "* 1 2 ", "a OK", "a  OK x", "a OK [1]x", "a OK [1 ] x", "a OK [ 1] x", "+", "+x", " + x",
	} {
		wantRefused(t, "a blank too many, or too few", s+end)
		wantRefused(t, "a blank too many, or too few, behind another line", "* 1"+end+s+end)
	}
	wantTold(t, "a blank of the text", lines(status("a", "OK", " [1] x")), "a OK  [1] x"+end)
	wantTold(t, "a blank of the text", lines(goOn(" [x ")), "+  [x "+end)
}

func TestEnds(t *testing.T) {
	for _, s := range whole {
		for _, other := range []string{"", "\n", "\r", "\n\r", "\r\r\n", "\r\n\n", "\r\n\r", "\r\n\r\n", " ", "\r\n ", "\r \n", "\x00", "\f", "\r\nx"} {
			wantRefused(t, "another end", s+other)
			wantRefused(t, "another end of the second one", "+ x"+end+s+other)
			if other != "" && !strings.HasPrefix(other, end) && other != " " {
				wantRefused(t, "another end of the first one", s+other+"+ x"+end)
			}
		}
		wantRefused(t, "an end ahead", end+s+end)
	}
	for _, s := range []string{"\n", "\r", end, end + end, " ", " " + end} {
		wantRefused(t, "an end alone", s)
	}
}

func TestHowMany(t *testing.T) {
	wantTold(t, "none", nil, "")
	wantTold(t, "none", lines(), "")
	var all []api.Line
	told := ""
	for i, s := range whole {
		l, _ := slowParse(s + end)
		all = append(all, l...)
		told += s + end
		wantTold(t, "several", all, told)
		wantTold(t, "one", l, s+end)
		wantTold(t, "the same twice", lines(l[0], l[0]), s+end+s+end)
		for at := range i + 1 {
			wrong := copiesOfLines(all)
			wrong[at] = api.Line{Tag: "*", Vals: vals(number(-1))}
			if got := resp.Print(wrong...); got != "" {
				t.Fatalf("of several of which one is not right is told %s", tell(got))
			}
		}
	}
	for at := range len(told) {
		s := told[:at]
		is := s == "" || strings.HasSuffix(s, end) && !strings.HasSuffix(s, "{1}"+end)
		if asSlow(t, s) != is {
			t.Fatalf("%s is lines: %t", tell(s), !is)
		}
	}
	wantRefused(t, "of several one is none", told+"* -"+end[:1]+told)
	wantRefused(t, "of several one is none", told+"x"+end+told)
	wantRefused(t, "of several one is none", told+end+told)
}
