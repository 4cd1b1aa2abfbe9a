package wire_test

import (
	"strings"
	"testing"

	"haversack/api"
	"haversack/wire"
)

// P13.1, of commands that are not too long.

func TestTheExample(t *testing.T) {
	f := wire.New()
	wantIdle(t, "a new one", f, true)
	s := "a {3}\r\n"
	wantEvents(t, "the first bytes", s, f.Take([]byte(s)...), []api.Event{more()})
	wantIdle(t, "while a literal is awaited", f, false)
	s = "xyz b\r\n"
	wantEvents(t, "the next bytes", s, f.Take([]byte(s)...), []api.Event{whole("a ", "xyz", " b")})
	wantIdle(t, "behind a command", f, true)
}

func TestLines(t *testing.T) {
	for _, c := range []struct {
		why, s string
		idle   bool
		wanted []api.Event
	}{
		{"no bytes", "", true, nil},
		{"an empty line", "\n", true, []api.Event{whole("")}},
		{"an empty line with a 13", "\r\n", true, []api.Event{whole("")}},
		{"a 13 ahead of an end with a 13", "\r\r\n", true, []api.Event{whole("\r")}},
		{"a 10 alone", "a b\n", true, []api.Event{whole("a b")}},
		{"13 10", "a b\r\n", true, []api.Event{whole("a b")}},
		{"a 13 within", "a\rb\r\n", true, []api.Event{whole("a\rb")}},
		{"a 13 within, and a 10 alone", "a\rb\n", true, []api.Event{whole("a\rb")}},
		{"a 13 at the beginning", "\ra\n", true, []api.Event{whole("\ra")}},
		{"two 13 ahead of a 10", "a\r\r\n", true, []api.Event{whole("a\r")}},
		{"three 13 ahead of a 10", "a\r\r\r\n", true, []api.Event{whole("a\r\r")}},
		{"no end", "a b", false, nil},
		{"a 13 at the end", "a b\r", false, nil},
		{"a 13 alone", "\r", false, nil},
		{"two 13 at the end", "a\r\r", false, nil},
		{"a 10 ahead of a 13", "a\n\r", false, []api.Event{whole("a")}},
		{"10 13 10", "a\n\r\n", true, []api.Event{whole("a"), whole("")}},
		{"two lines", "a\r\nb\n", true, []api.Event{whole("a"), whole("b")}},
		{"three empty ones", "\n\r\n\n", true, []api.Event{whole(""), whole(""), whole("")}},
		{"a line, and a beginning", "a\nb", false, []api.Event{whole("a")}},
		{"blanks", "  \r\n", true, []api.Event{whole("  ")}},
		{"all kinds of bytes", "\x00\xff\x7f\t\x0b\x0c\x85é\r\n", true, []api.Event{whole("\x00\xff\x7f\t\x0b\x0c\x85é")}},
	} {
		want(t, c.why, c.s, c.idle, c.wanted...)
	}
}

func TestA13AtTheEndOfWhatHasCome(t *testing.T) {
	for _, c := range []struct {
		then   string
		wanted []api.Event
	}{
		{"\n", []api.Event{whole("a")}},
		{"b\n", []api.Event{whole("a\rb")}},
		{"\r\n", []api.Event{whole("a\r")}},
		{"", nil},
	} {
		f := wire.New()
		wantEvents(t, "a 13", "a\r", f.Take('a', '\r'), nil)
		wantIdle(t, "a 13", f, false)
		wantEvents(t, "behind a 13", c.then, f.Take([]byte(c.then)...), c.wanted)
		wantIdleBehind(t, "behind a 13", c.then, f, c.then != "")
	}
}

func TestEachByteOfALine(t *testing.T) {
	for b := range 256 {
		one := string([]byte{byte(b)})
		if one == "\n" {
			continue
		}
		want(t, "a byte within", "a"+one+"b\r\n", true, whole("a"+one+"b"))
		want(t, "a byte within a literal", "a{1+}\r\n"+one+"b\r\n", true, whole("a", one, "b"))
		want(t, "a byte alone ahead of 13 10", one+"\r\n", true, whole(one))
		if one != "\r" {
			want(t, "a byte alone ahead of a 10", one+"\n", true, whole(one))
			want(t, "a byte behind a mark", "a{1+}"+one+"\n", true, whole("a{1+}"+one))
		}
	}
}

// Of each of these lines a literal of so many bytes follows, waiting to be told or not.
func TestMarks(t *testing.T) {
	for _, c := range []struct {
		line, text string
		size       int
		plus       bool
	}{
		{"a {3}", "a ", 3, false},
		{"a {3+}", "a ", 3, true},
		{"{3}", "", 3, false},
		{"{3+}", "", 3, true},
		{"{0}", "", 0, false},
		{"{0+}", "", 0, true},
		{"a{1}", "a", 1, false},
		{"a{9}", "a", 9, false},
		{"a{10+}", "a", 10, true},
		{"a{12345}", "a", 12345, false},
		{"a{012345}", "a", 12345, false},
		{"a{000000}", "a", 0, false},
		{"a{000000+}", "a", 0, true},
		{"a{000007}", "a", 7, false},
		{"a{00+}", "a", 0, true},
		{"a{08}", "a", 8, false},
		{"a{50000}", "a", 50000, false},
		{"a{050000+}", "a", 50000, true},
		{"{{3}", "{", 3, false},
		{"{{{3+}", "{{", 3, true},
		{"}{3}", "}", 3, false},
		{"{}{3}", "{}", 3, false},
		{"{1}{2}", "{1}", 2, false},
		{"{1+}{2}", "{1+}", 2, false},
		{"{2}{1+}", "{2}", 1, true},
		{"{1}{1}{3+}", "{1}{1}", 3, true},
		{"{60000}{3}", "{60000}", 3, false},
		{"1{3}", "1", 3, false},
		{"+{3}", "+", 3, false},
		{"a\r{3}", "a\r", 3, false},
		{"\"{3}", "\"", 3, false},
		{"\xff{3}", "\xff", 3, false},
	} {
		for _, end := range ends {
			literal := times("l", c.size)
			var told []api.Event
			if !c.plus {
				told = append(told, more())
			}
			want(t, "a mark", c.line+end, false, told...)
			want(t, "a mark and a literal", c.line+end+literal, false, told...)
			want(t, "a mark, a literal and a line", c.line+end+literal+" z"+end, true, append(told, whole(c.text, literal, " z"))...)
		}
	}
}

func TestNoMarks(t *testing.T) {
	for _, line := range []string{
		"{", "}", "{}", "{+}", "3", "3}", "{3", "3+}", "{3+", "+}", "{+", "+",
		"a {}", "a {+}", "a 3}", "a {3", "a {3+", "a 3+}",
		"{3++}", "{+3}", "{+3+}", "{3+3}", "{3-}", "{-3}", "{-0}", "{3.}", "{a}", "{0x3}", "{3a}", "{a3}", "{1_0}", "{1,0}",
		"{ 3}", "{3 }", "{3 +}", "{3+ }", "{1 2}", "{3} ", "{3}x", "{3}}", "{3}+", "{3}1", "{3+}+", "{3+}}", "{3}{", "{3}{}", "{3}\x00", "{3}\t",
		"{3}\r", "{3+}\r", "{3\r}", "{\r3}", "{3\r+}", "{3+\r}",
		"(3)", "[3]", "<3>", "{3)", "{3]", "(3}",
		"{1234567}", "{1234567+}", "{0000000}", "{0000003}", "{0000003+}", "a{1000000}", "{99999999999999999999999999}", "{00000000000000000000000001+}",
		"{{3}}", "{3}{1234567}", "{\xef\xbc\x93}", "{\xb3}",
	} {
		for _, end := range ends {
			s := line + end
			if end == "\n" && strings.HasSuffix(line, "\r") {
				continue // that 13 belongs to the end
			}
			want(t, "no mark", s, true, whole(line))
			want(t, "no mark, behind a literal", "a{1+}\nl"+s, true, whole("a", "l", line))
		}
	}
}

func TestA13BehindAMarkBelongsToTheEnd(t *testing.T) {
	want(t, "one", "a{0+}\r\n\n", true, whole("a", "", ""))
	want(t, "two", "a{0+}\r\r\n\n", true, whole("a{0+}\r"), whole(""))
	want(t, "two, without +", "a{0}\r\r\n", true, whole("a{0}\r"))
	want(t, "one that has come so far", "a{0}\r", false)
}

func TestLiterals(t *testing.T) {
	most := times("m", api.MaxLiteral)
	for _, literal := range []string{
		"", "l", "xyz", "\n", "\r", "\r\n", "\n\n\n", "\r\r\r", "a\r\nb\r\n", "{", "{1}", "{1}\n", "{1+}\r\n", "{3}\r\nabc\r\n", "}\n{0+}", "\x00\xff", " ",
		most, most[1:], times("\n", api.MaxLiteral), times("\r\n", api.MaxLiteral/2), times("{9}\r\n", 10000),
	} {
		mark := "{" + itoa(len(literal))
		want(t, "with +", "a "+mark+"+}\r\n"+literal+" b\r\n", true, whole("a ", literal, " b"))
		want(t, "without +", "a "+mark+"}\r\n"+literal+" b\r\n", true, more(), whole("a ", literal, " b"))
		want(t, "and the next command", mark+"+}\n"+literal+"\nc\n", true, whole("", literal, ""), whole("c"))
		want(t, "and the next line has not ended", mark+"+}\n"+literal+"c", false)
		want(t, "and nothing behind it", mark+"}\n"+literal, false, more())
		if literal != "" {
			want(t, "the last byte is missing", mark+"}\n"+literal[1:], false, more())
		}
	}
}

func TestSeveralLiterals(t *testing.T) {
	want(t, "two", "a {1}\r\nx {2}\r\nyz b\r\n", true, more(), more(), whole("a ", "x", " ", "yz", " b"))
	want(t, "two, with +", "a {1+}\r\nx {2+}\r\nyz b\r\n", true, whole("a ", "x", " ", "yz", " b"))
	want(t, "one with + and one without", "a {1+}\nx{2}\nyz\n", true, more(), whole("a ", "x", "", "yz", ""))
	want(t, "one without + and one with", "{2}\n\r\n{1+}\n\n\r\n", true, more(), whole("", "\r\n", "", "\n", ""))
	want(t, "empty ones", "{0}\n{0}\n{0+}\n\n", true, more(), more(), whole("", "", "", "", "", "", ""))
	want(t, "of two commands", "a{1+}\nx\nb{1}\ny\n", true, whole("a", "x", ""), more(), whole("b", "y", ""))
}

func TestAsManyLiteralsAsMayBe(t *testing.T) {
	all, s := []string{}, ""
	for i := range api.MaxLiterals {
		literal := times(string([]byte{byte('a' + i)}), i)
		s += "t" + itoa(i) + "{" + itoa(i) + "+}\r\n" + literal
		all = append(all, "t"+itoa(i), literal)
		want(t, "so many literals", s+"end\r\n", true, whole(append(all[:len(all):len(all)], "end")...))
	}
	waiting := strings.ReplaceAll(s, "+", "") + "end\r\n"
	var told []api.Event
	for range api.MaxLiterals {
		told = append(told, more())
	}
	want(t, "as many, waiting", waiting, true, append(told, whole(append(all, "end")...))...)
	great := times("g", api.MaxLiteral)
	all = nil
	for range api.MaxLiterals {
		all = append(all, "", great)
	}
	s = times("{50000+}\n"+great, api.MaxLiterals) + "\n"
	_, got := fed(s)
	wantEvents(t, "as many as may be, as long as may be", s, got, []api.Event{whole(append(all, "")...)})
}

// Each short text, alone and behind what brings a feed elsewhere; each beginning of it is one of them, too, so that it is held when something comes.
func TestEachShortText(t *testing.T) {
	eachText(signs, 6, func(s string) { asSlow(t, s) })
	for _, ahead := range []string{
		"a{1", "a{1}\n", "a{2+}\nz", "{0}\n", "{3+}\r\nx\n", "b\n", "{1+}\nl{1+}\nm", "{50001}\n",
	} {
		eachText(signs, 4, func(s string) { asSlow(t, ahead+s) })
	}
	eachText([]string{"{1}", "{0+}", "{2+}", "\r", "\n", "x"}, 6, func(s string) { asSlow(t, s) })
}

func TestIdle(t *testing.T) {
	s := "ab{2}\r\nxy c{0+}\n{1+}\r\n\nd\r\r\n"
	f := wire.New()
	for i := range len(s) {
		wantIdle(t, "ahead of the byte "+itoa(i), f, i == 0)
		wantIdle(t, "asked twice", f, i == 0)
		f.Take()
		wantIdle(t, "behind no bytes", f, i == 0)
		f.Take(s[i])
	}
	wantIdle(t, "behind a command", f, true)
	f.Take('\n')
	wantIdle(t, "behind an empty one", f, true)
	f.Take('\r')
	wantIdle(t, "behind a 13", f, false)
	f.Take('\n')
	wantIdle(t, "behind 13 10", f, true)
	f.Take([]byte("a\nb")...)
	wantIdle(t, "behind a command and a beginning", f, false)
}
