package words_test

import (
	"math/rand"
	"regexp"
	"slices"
	"strings"
	"testing"
	"unicode/utf8"

	"haversack/api"
	"haversack/words"
)

func wantWords(t *testing.T, wanted string, lines ...string) {
	t.Helper()
	if got := words.Words(lines...); got != wanted {
		t.Fatalf("Words(%q) = %q; want %q", lines, got, wanted)
	}
}

// P8.3

func TestLower(t *testing.T) {
	for _, w := range []struct{ s, wanted string }{
		{"", ""},
		{"ABCDEFGHIJKLMNOPQRSTUVWXYZ", "abcdefghijklmnopqrstuvwxyz"},
		{"abcdefghijklmnopqrstuvwxyz", "abcdefghijklmnopqrstuvwxyz"},
		{"@AZ[`az{", "@az[`az{"},
		{"0123456789 -_\r\n\x00\x7f", "0123456789 -_\r\n\x00\x7f"},
		{"É", "É"},
		{"éÉAÀ", "éÉaÀ"},
		{"\u212a\u0130\u03a3K", "\u212a\u0130\u03a3k"},
		{"\xc1\xe1\xffA\x80", "\xc1\xe1\xffa\x80"},
		{"UTF-8", "utf-8"},
	} {
		if got := words.Lower(w.s); got != w.wanted {
			t.Fatalf("Lower(%q) = %q; want %q", w.s, got, w.wanted)
		}
	}
}

func TestLatin(t *testing.T) {
	for _, w := range []struct{ s, wanted string }{
		{"", ""},
		{"a", "a"},
		{"\xe9", "é"},
		{"\xe9_x\xe9", "é_xé"},
		{"\x00\x7f", "\x00\x7f"},
		{"\x80", "\u0080"},
		{"\xa0\xff", "\u00a0ÿ"},
		{"\xc3\xa9", "Ã©"},
		{"é", "Ã©"},
		{"\r\n", "\r\n"},
	} {
		if got := words.Latin(w.s); got != w.wanted {
			t.Fatalf("Latin(%q) = %q; want %q", w.s, got, w.wanted)
		}
	}
}

func TestEachByteLowerAndLatin(t *testing.T) {
	for b := range 256 {
		s := string([]byte{byte(b)})
		lower := s
		if b >= 65 && b <= 90 {
			lower = string([]byte{byte(b + 32)})
		}
		if got := words.Lower("x" + s + s + "x"); got != "x"+lower+lower+"x" {
			t.Fatalf("Lower of the byte %d: %q", b, got)
		}
		got := words.Latin("x" + s + s)
		if !utf8.ValidString(got) || !slices.Equal([]rune(got), []rune{'x', rune(b), rune(b)}) {
			t.Fatalf("Latin of the byte %d: %q", b, got)
		}
	}
}

// P8.4

func TestLines(t *testing.T) {
	wantWords(t, "")
	wantWords(t, "", "")
	wantWords(t, "a", "a")
	wantWords(t, "a b", "a", "b")
	wantWords(t, "a b c", "a", "b", "c")
	wantWords(t, " ", "", "")
	wantWords(t, "  ", "", "", "")
	wantWords(t, " a ", "", "a", "")
	wantWords(t, "a  \t b", "a ", "\t b")
	wantWords(t, "a\r\n b", "a\r\n", "b")
	wantWords(t, "  a  b  ", "  a  b  ")
	wantWords(t, "\xff \x80", "\xff", "\x80")
}

// TestOneWord has texts of one line, and what they say.
func TestOneWord(t *testing.T) {
	for _, c := range []struct{ why, line, wanted string }{
		{"the chapter's example", "=?utf-8?B?w6k=?= =?ISO-8859-1?q?=E9_x?=", "éé x"},
		{"utf-8 in B", "=?utf-8?B?w6k=?=", "é"},
		{"utf-8 in b", "=?utf-8?b?w6k=?=", "é"},
		{"utf-8 in Q", "=?utf-8?Q?=C3=A9?=", "é"},
		{"utf-8 in q", "=?utf-8?q?=c3=a9?=", "é"},
		{"us-ascii in B", "=?us-ascii?B?YWI=?=", "ab"},
		{"us-ascii in q", "=?us-ascii?q?a=62?=", "ab"},
		{"iso-8859-1 in B", "=?iso-8859-1?B?6Q==?=", "é"},
		{"iso-8859-1 in q", "=?iso-8859-1?q?=E9?=", "é"},
		{"iso-8859-1 of bytes that are UTF-8", "=?iso-8859-1?q?=C3=A9?=", "Ã©"},
		{"utf-8 in great letters", "=?UTF-8?B?w6k=?=", "é"},
		{"utf-8 in letters of both kinds", "=?uTf-8?Q?=C3=A9?=", "é"},
		{"us-ascii in great letters", "=?US-ASCII?Q?a?=", "a"},
		{"us-ascii in letters of both kinds", "=?Us-Ascii?b?YQ==?=", "a"},
		{"iso-8859-1 in great letters", "=?ISO-8859-1?B?6Q==?=", "é"},
		{"iso-8859-1 in letters of both kinds", "=?Iso-8859-1?Q?=e9?=", "é"},
		{"utf-8 of what is no UTF-8", "=?utf-8?q?=E9?=", "\xe9"},
		{"us-ascii beyond 127", "=?us-ascii?q?=E9?=", "\xe9"},
		{"us-ascii beyond 127 in B", "=?us-ascii?B?6Q==?=", "\xe9"},

		{"another charset", "=?koi8-r?q?a?=", "=?koi8-r?q?a?="},
		{"a charset that goes on", "=?utf-8*en?q?a?=", "=?utf-8*en?q?a?="},
		{"a charset that goes on", "=?utf-88?q?a?=", "=?utf-88?q?a?="},
		{"a charset that ends early", "=?utf-?q?a?=", "=?utf-?q?a?="},
		{"a charset without its hyphen", "=?utf8?q?a?=", "=?utf8?q?a?="},
		{"the charset iso-8859-15", "=?iso-8859-15?q?a?=", "=?iso-8859-15?q?a?="},
		{"the charset iso-8859-2", "=?iso-8859-2?q?a?=", "=?iso-8859-2?q?a?="},
		{"the charset ascii", "=?ascii?q?a?=", "=?ascii?q?a?="},
		{"an empty charset", "=??q?a?=", "=??q?a?="},
		{"a charset with a blank", "=?utf-8 ?q?a?=", "=?utf-8 ?q?a?="},
		{"a charset behind a blank", "=? utf-8?q?a?=", "=? utf-8?q?a?="},
		{"a charset with a byte outside", "=?utf-8\x00?q?a?=", "=?utf-8\x00?q?a?="},
		{"a charset with letters that only look so", "=?u\u017f-ascii?q?a?=", "=?u\u017f-ascii?q?a?="},

		{"another way", "=?utf-8?x?a?=", "=?utf-8?x?a?="},
		{"no way", "=?utf-8??a?=", "=?utf-8??a?="},
		{"no way, and no text", "=?utf-8???=", "=?utf-8???="},
		{"two ways", "=?utf-8?bq?a?=", "=?utf-8?bq?a?="},
		{"a blank ahead of the way", "=?utf-8? q?a?=", "=?utf-8? q?a?="},
		{"a blank behind the way", "=?utf-8?q ?a?=", "=?utf-8?q ?a?="},

		{"an empty text in Q", "=?utf-8?q??=", ""},
		{"an empty text in B", "=?utf-8?B??=", ""},
		{"an empty text of iso-8859-1", "=?iso-8859-1?q??=", ""},
		{"an empty text, between others", "a=?utf-8?q??=b", "ab"},
		{"an empty text, between others and blanks", "a =?utf-8?q??= b", "a  b"},
		{"a text with a blank", "=?utf-8?q?a b?=", "=?utf-8?q?a b?="},
		{"a text with a byte 9", "=?utf-8?q?a\tb?=", "=?utf-8?q?a\tb?="},
		{"a text with a byte 10", "=?utf-8?q?a\nb?=", "=?utf-8?q?a\nb?="},
		{"a text with a byte 13", "=?utf-8?q?a\rb?=", "=?utf-8?q?a\rb?="},
		{"a text that a blank ends", "=?utf-8?q?a ?=", "=?utf-8?q?a ?="},
		{"a text with a ?", "=?utf-8?q?a?b?=", "=?utf-8?q?a?b?="},
		{"a text with two ?", "=?utf-8?q?a??=", "=?utf-8?q?a??="},
		{"a text of a ?", "=?utf-8?q???=", "=?utf-8?q???="},
		{"a text with the byte 31", "=?utf-8?q?a\x1f?=", "=?utf-8?q?a\x1f?="},
		{"a text with the byte 127", "=?utf-8?q?a\x7f?=", "=?utf-8?q?a\x7f?="},
		{"a text with the byte 0", "=?utf-8?q?\x00?=", "=?utf-8?q?\x00?="},
		{"a text beyond 127", "=?utf-8?q?é?=", "=?utf-8?q?é?="},
		{"a text with the byte 33", "=?utf-8?q?a!?=", "a!"},
		{"a text with the byte 126", "=?utf-8?q?a~?=", "a~"},

		{"a text that Unbase64 refuses: a letter", "=?utf-8?B?Y!==?=", "=?utf-8?B?Y!==?="},
		{"a text that Unbase64 refuses: its length", "=?utf-8?B?YQ?=", "=?utf-8?B?YQ?="},
		{"a text that Unbase64 refuses: one =", "=?utf-8?B?YQ=?=", "=?utf-8?B?YQ=?="},
		{"a text that Unbase64 refuses: bits", "=?utf-8?B?YR==?=", "=?utf-8?B?YR==?="},
		{"a text that Unbase64 refuses: _", "=?utf-8?b?YWJ_?=", "=?utf-8?b?YWJ_?="},
		{"a text that Unbase64 refuses, of iso-8859-1", "=?iso-8859-1?B?6?=", "=?iso-8859-1?B?6?="},
		{"a text of noughts", "=?utf-8?B?AAAA?=", "\x00\x00\x00"},

		{"what does not end", "=?utf-8?q?a", "=?utf-8?q?a"},
		{"what does not end", "=?utf-8?q?a?", "=?utf-8?q?a?"},
		{"what does not end", "=?utf-8?q?", "=?utf-8?q?"},
		{"what does not end", "=?utf-8?q", "=?utf-8?q"},
		{"what does not end", "=?utf-8?", "=?utf-8?"},
		{"what does not end", "=?utf-8", "=?utf-8"},
		{"what does not end", "=?", "=?"},
		{"what does not end", "=", "="},
		{"what does not end so", "=?utf-8?q?a=?", "=?utf-8?q?a=?"},
		{"what does not begin so", "?utf-8?q?a?=", "?utf-8?q?a?="},
		{"what does not begin so", "= ?utf-8?q?a?=", "= ?utf-8?q?a?="},
		{"what does not begin so", "=utf-8?q?a?=", "=utf-8?q?a?="},

		{"within a =?", "=?=?utf-8?q?a?=", "=?a"},
		{"within two =?", "=?=?=?utf-8?q?a?=", "=?=?a"},
		{"behind a =", "==?utf-8?q?a?=", "=a"},
		{"within another charset", "=?koi8-r?q?=?utf-8?q?a?=", "=?koi8-r?q?a"},
		{"within another way", "=?utf-8?x?=?utf-8?q?a?=", "=?utf-8?x?a"},
		{"within what does not end", "=?utf-8?q?=?utf-8?q?a?=", "=?utf-8?q?a"},
		{"within what does not end, behind letters", "=?utf-8?q?b=?utf-8?q?a?=", "=?utf-8?q?ba"},
		{"within what Unbase64 refuses, behind letters", "=?utf-8?B?b=?utf-8?q?a?=", "=?utf-8?B?ba"},
		{"within a text with a blank", "=?utf-8?q?b =?utf-8?q?a?= c?=", "=?utf-8?q?b a c?="},
		{"within what does not end, as its charset", "=?utf-8=?utf-8?q?a?=", "=?utf-8a"},
		{"at the end of what Unbase64 refuses", "=?utf-8?B?!?=?utf-8?q?a?=", "=?utf-8?B?!?a"},
		{"the first one has the = of both", "=?utf-8?q?a?=?utf-8?q?b?=", "a?utf-8?q?b?="},
		{"an empty one has the =", "=?utf-8?q??=41?=", "41?="},

		{"_ in Q", "=?utf-8?q?_a_b__c_?=", " a b  c "},
		{"_ that is so told", "=?utf-8?q?=5F=5f?=", "__"},
		{"_ behind what does not go on", "=?utf-8?q?=_4=4_?=", "= 4=4 "},
		{"= that is so told", "=?utf-8?q?=3D41?=", "=41"},
		{"? that is so told", "=?utf-8?q?=3F?=", "?"},
		{"a blank that is so told", "=?utf-8?q?=20=09=0D=0A?=", " \t\r\n"},
		{"= and one digit, at the end", "=?utf-8?q?a=4?=", "a=4"},
		{"= and one digit", "=?utf-8?q?=4g=g4?=", "=4g=g4"},
		{"= and no digit", "=?utf-8?q?=xy?=", "=xy"},
		{"= at the end", "=?utf-8?q?a=?=", "a="},
		{"= alone", "=?utf-8?q?=?=", "="},
		{"= twice, and digits", "=?utf-8?q?==41?=", "=A"},
		{"= with letters of both kinds", "=?utf-8?q?=aF=Fa?=", "\xaf\xfa"},
		{"_ of iso-8859-1", "=?iso-8859-1?Q?=E9_=5F=A0?=", "é _\u00a0"},
		{"_ outside", "_=?utf-8?q?_?=_", "_ _"},
		{"= outside", "=41=?utf-8?q?=41?==41", "=41A=41"},
		{"an encoded word that is so told", "=?utf-8?q?=3D=3Futf-8=3Fq=3Fa=3F=3D?=", "=?utf-8?q?a?="},
		{"halves of an encoded word that are so told", "=?utf-8?q?=3D?=?utf-8?q?a?=", "=?utf-8?q?a?="},

		{"letters on both sides", "a=?utf-8?q?b?=c", "abc"},
		{"quotes on both sides", "\"=?utf-8?q?b?=\"", "\"b\""},
		{"letters beyond 127 on both sides", "é=?utf-8?q?b?=\xff", "éb\xff"},
	} {
		if got := words.Words(c.line); got != c.wanted {
			t.Fatalf("%s: Words(%q) = %q; want %q", c.why, c.line, got, c.wanted)
		}
	}
}

func TestBlanks(t *testing.T) {
	const a, b, none = "=?utf-8?q?a?=", "=?us-ascii?B?Yg==?=", "=?koi8-r?q?x?="
	for _, gap := range []string{"", " ", "\t", "\n", "\r", "\r\n ", "  ", " \t\r\n \n\r\t "} {
		wantWords(t, "ab", a+gap+b)
		wantWords(t, "aba", a+gap+b+gap+a)
		wantWords(t, "x"+gap+"a", "x"+gap+a)
		wantWords(t, "a"+gap+"x", a+gap+"x")
		wantWords(t, "a"+gap+"x"+gap+"b", a+gap+"x"+gap+b)
		wantWords(t, "a"+gap+none+gap+"b", a+gap+none+gap+b)
		wantWords(t, gap+"a", gap+a)
		wantWords(t, "a"+gap, a+gap)
		wantWords(t, gap+"ab"+gap, gap+a+gap+b+gap)
		wantWords(t, "x"+gap+"ab"+gap+"x", "x"+gap+a+gap+b+gap+"x")
		wantWords(t, "ab", a+gap, gap+b)
		wantWords(t, "a"+gap+" "+gap+"x", a+gap, gap+"x")
		wantWords(t, "x"+gap+" "+gap+"a", "x"+gap, gap+a)
		wantWords(t, gap, gap)
	}
	for _, other := range []string{"\x00", "\v", "\f", "\x1f", "\u0085", "\u00a0", "_", ",", "\xa0"} {
		wantWords(t, "a"+other+"b", a+other+b)
		wantWords(t, "a "+other+" b", a+" "+other+" "+b)
	}
	wantWords(t, "a   b", "=?utf-8?q?a_?= =?utf-8?q?_?=\t=?utf-8?q?_b?=")
	wantWords(t, " \t\r\n \t\r\n", "=?utf-8?B?IAkNCg==?= =?utf-8?q?=20=09=0D=0A?=")
	wantWords(t, "ab", a+" =?utf-8?q??= "+b)
	wantWords(t, "", "=?utf-8?q??= =?utf-8?B??=")
	wantWords(t, "x  y", "x =?utf-8?q??= y")
	wantWords(t, "a =?utf-8?B?!?= b", a+" =?utf-8?B?!?= "+b)
}

func TestWordsOfLines(t *testing.T) {
	wantWords(t, "ab", "=?utf-8?q?a?=", "=?utf-8?q?b?=")
	wantWords(t, "abc", "=?utf-8?q?a?= ", "\t=?utf-8?q?b?=", "=?utf-8?q?c?=")
	wantWords(t, "ab", "=?utf-8?q?a?=", "", "", "=?utf-8?q?b?=")
	wantWords(t, "x ab y", "x", "=?utf-8?q?a?=", "=?utf-8?q?b?=", "y")
	wantWords(t, " a ", "", "=?utf-8?q?a?=", "")
	wantWords(t, "=?utf-8?q?a b?=", "=?utf-8?q?a", "b?=")
	wantWords(t, "=?utf-8?q?a? =", "=?utf-8?q?a?", "=")
	wantWords(t, "= ?utf-8?q?a?=", "=", "?utf-8?q?a?=")
	wantWords(t, "=?utf-8 a", "=?utf-8", "=?utf-8?q?a?=")
}

// Each byte in a charset, as the way, in a text, and ahead of the end.
func TestEachByteOfAWord(t *testing.T) {
	for b := range 256 {
		s := string([]byte{byte(b)})
		for _, line := range []string{
			"=?utf-8" + s + "?q?a?=", "=?" + s + "utf-8?q?a?=", "=?utf" + s + "8?q?a?=", "=?" + s + "?q?a?=", "=?utf-8?" + s + "?YWJj?=",
			"=?utf-8?q?a" + s + "b?=", "=?utf-8?q?" + s + "?=", "=?iso-8859-1?q?a" + s + "b?=", "=?utf-8?B?YWJ" + s + "?=", "=?utf-8?B?" + s + "WJj?=",
			"=?utf-8?q?a" + s + "=", "=?utf-8?q?a?" + s, "=" + s + "utf-8?q?a?=", s + "?utf-8?q?a?=", "=?utf-8" + s + "q?a?=", "=?utf-8?q" + s + "a?=",
			"=?utf-8?q?a?=" + s + "=?utf-8?q?b?=", "=?utf-8?q?=" + s + "0=0" + s + "?=", s + "=?utf-8?q?a?=" + s,
		} {
			wantWords(t, slowWords(line), line)
		}
	}
}

var wordAtStart = regexp.MustCompile(`^=\?([!->@-~]+)\?([BQbq])\?([!->@-~]*)\?=`)

// slowWord is how many bytes an encoded word at the beginning has, and what it says.
func slowWord(s string) (int, string) {
	m := wordAtStart.FindStringSubmatch(s)
	if m == nil {
		return 0, ""
	}
	b, is := slowUnquote(strings.ReplaceAll(m[3], "_", "=20")), true
	if strings.EqualFold(m[2], "b") {
		b, is = slowUnbase64(m[3])
	}
	switch charset := strings.ToLower(m[1]); {
	case is && (charset == "utf-8" || charset == "us-ascii"):
		return len(m[0]), b
	case is && charset == "iso-8859-1":
		return len(m[0]), slowLatin(b)
	}
	return 0, ""
}

func slowLatin(s string) string {
	var b strings.Builder
	for _, x := range []byte(s) {
		b.WriteRune(rune(x))
	}
	return b.String()
}

// slowWords is another way to the same: first the pieces between encoded words are cut, then those are left out that are blanks between two.
func slowWords(lines ...string) string {
	s := strings.Join(lines, " ")
	between, said := []string{""}, []string{}
	for s != "" {
		if n, text := slowWord(s); n > 0 {
			between, said, s = append(between, ""), append(said, text), s[n:]
			continue
		}
		between[len(between)-1] += s[:1]
		s = s[1:]
	}
	out := between[0]
	for i, text := range said {
		out += text
		if gap := between[i+1]; i+1 == len(said) || strings.Trim(gap, "\t\n\r ") != "" {
			out += gap
		}
	}
	return out
}

// Each short line of pieces that count.
func TestEachShortLine(t *testing.T) {
	pieces := []string{"=?utf-8?q?", "=?ISO-8859-1?B?", "=?koi8-r?q?", "?=", "?", "=", "6Q==", "_", " ", "\r\n"}
	var try func(s string, more int)
	try = func(s string, more int) {
		if got, wanted := words.Words(s), slowWords(s); got != wanted {
			t.Fatalf("Words(%q) = %q; want %q", s, got, wanted)
		}
		if more > 0 {
			for _, piece := range pieces {
				try(s+piece, more-1)
			}
		}
	}
	try("", 5)
}

// lineOf is one of pieces that count, in any order.
func lineOf(r *rand.Rand, most int) string {
	pieces := []string{
		"=?utf-8?q?a?=", "=?UTF-8?B?w6k=?=", "=?iso-8859-1?Q?=E9_x?=", "=?us-ascii?b??=", "=?koi8-r?q?a?=", "=?utf-8?B?YQ?=",
		"=?utf-8?q?", "=?utf-8?B?", "=?", "?=", "?", "=", "==", "YWJj", "=41", "_", " ", "\t", "\r\n ", "a", "é", "\xff", "\x00", "utf-8", "q", "B",
	}
	var b strings.Builder
	for range r.Intn(most + 1) {
		b.WriteString(pieces[r.Intn(len(pieces))])
	}
	return b.String()
}

func TestManyLines(t *testing.T) {
	r := rand.New(rand.NewSource(4))
	for range 30000 {
		lines := make([]string, r.Intn(4))
		for i := range lines {
			lines[i] = lineOf(r, 8)
		}
		wantWords(t, slowWords(lines...), lines...)
	}
}

// P8.6

func TestTextsWithoutWords(t *testing.T) {
	r := rand.New(rand.NewSource(6))
	for _, s := range []string{"", "a", "?=", "= ?", "=\x00?", "a?=b", "=", "?", "==", "??", "?utf-8?q?a?=", "a  b\t\r\n c", "=41_", "=C3=A9", "\xff\xfe"} {
		wantWords(t, s, s)
	}
	for range 30000 {
		s := lineOf(r, 10) + bytesOf(r, 5)
		for strings.Contains(s, "=?") {
			s = strings.ReplaceAll(s, "=?", "?=")
		}
		wantWords(t, s, s)
		wantWords(t, s+" "+s, s, s)
	}
}

func TestWordOfBase64(t *testing.T) {
	r := rand.New(rand.NewSource(7))
	back := func(b string) {
		wantWords(t, b, "=?utf-8?B?"+words.Base64(b)+"?=")
		wantWords(t, b, "=?Utf-8?b?"+words.Base64(b)+"?=")
		wantWords(t, words.Latin(b)+b, "=?iso-8859-1?B?"+words.Base64(b)+"?=", "=?us-ascii?B?"+words.Base64(b)+"?=")
	}
	for b := range 256 {
		back(string([]byte{byte(b)}))
	}
	for _, b := range []string{"", "ab", "abc", "abcd", " ", "  ", "=?utf-8?q?a?=", "=?utf-8?q?a?= =?utf-8?q?b?=", "=?", "?=", "é", "\r\n"} {
		back(b)
	}
	for range 20000 {
		back(bytesOf(r, 30))
	}
}

// What is handed in stays as it was.
func TestLinesStay(t *testing.T) {
	was := []string{"=?utf-8?q?a?=", "B =?koi8-r?q?x?=", "=?iso-8859-1?B?6Q==?=", "", "z"}
	lines := slices.Clone(was)
	for range 2 {
		wantWords(t, "a B =?koi8-r?q?x?= é", lines[:3]...)
		wantWords(t, "a B =?koi8-r?q?x?= é  z", lines...)
		if !slices.Equal(lines, was) {
			t.Fatalf("the lines are %q", lines)
		}
	}
	for _, s := range []string{"aB=41=\r\n_", "YWJj", "=?utf-8?q?a?=", "YQ"} {
		again := strings.Clone(s)
		words.Base64(s)
		words.Unbase64(s)
		words.Unquote(s)
		words.Lower(s)
		words.Latin(s)
		if s != again {
			t.Fatalf("%q became %q", again, s)
		}
	}
}

// P1: whatever the bytes are, every call ends, and with an error there is nothing else; and each answers the same again.
func TestAnyBytes(t *testing.T) {
	r := rand.New(rand.NewSource(1))
	for range 30000 {
		a, b := lineOf(r, 6)+bytesOf(r, 6), bytesOf(r, 3)+lineOf(r, 3)
		if s, e := words.Unbase64(a); e != api.OK && (e != api.ErrForm || s != "") {
			t.Fatalf("Unbase64(%q) = %q, %v", a, s, e)
		}
		if words.Words(a, b) != words.Words(a+" "+b) || words.Words(a, b) != slowWords(a, b) {
			t.Fatalf("Words(%q, %q) = %q", a, b, words.Words(a, b))
		}
		if words.Unquote(a) != slowUnquote(a) || words.Base64(a) != slowBase64(a) || words.Latin(a) != slowLatin(a) {
			t.Fatalf("Unquote, Base64 or Latin of %q", a)
		}
		if l := words.Lower(a); words.Lower(l) != l || len(l) != len(a) {
			t.Fatalf("Lower(%q) = %q", a, l)
		}
	}
}

// Long lines end soon, however many words begin in them and do not end.
func TestLongLines(t *testing.T) {
	const many = 300000
	for _, piece := range []string{"=?", "=?utf-8?q?", "=?utf-8?B?", "?=", "=", "?", " ", "a", "=?koi8-r?q?a?= "} {
		s := strings.Repeat(piece, many)
		wantWords(t, s, s)
	}
	long := strings.Repeat("a", many)
	wantWords(t, long+long, "=?utf-8?q?"+long+"?=", "=?utf-8?B?"+words.Base64(long)+"?=")
	wantWords(t, "=?"+long, "=?"+long)
	wantWords(t, "=?utf-8?q?"+long, "=?utf-8?q?"+long)
	wantWords(t, "=?utf-8?B?"+long+"!?=", "=?utf-8?B?"+long+"!?=")
	wantWords(t, long, strings.Repeat("=?utf-8?q?a?=\r\n ", many-1)+"=?utf-8?q?a?=")
	wantWords(t, "a"+strings.Repeat(" ", many)+"b", "a"+strings.Repeat(" ", many)+"b")
	wantWords(t, "ab", "=?utf-8?q?a?="+strings.Repeat(" ", many)+"=?utf-8?q?b?=")
}
