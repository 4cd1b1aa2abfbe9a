package header_test

import (
	"math/rand"
	"slices"
	"strings"
	"testing"

	"haversack/api"
	"haversack/header"
)

func at(name, box, host string) api.Address { return api.Address{Name: name, Box: box, Host: host} }

// P10.3

func TestAddresses(t *testing.T) {
	for _, c := range []struct {
		why, s string
		wanted []api.Address
	}{
		{"the chapter's example", "Ann <a@b>, c@d (x)", []api.Address{at("Ann", "a", "b"), at("", "c", "d")}},
		{"nothing", "", nil},
		{"one", "a@b", []api.Address{at("", "a", "b")}},
		{"no @", "a", []api.Address{at("", "a", "")}},
		{"no @ in an angle", "Ann <a>", []api.Address{at("Ann", "a", "")}},
		{"an angle alone", "<a@b>", []api.Address{at("", "a", "b")}},
		{"blanks at both ends", " \t\r\nAnn \n<\r a@b\t>\r\n ", []api.Address{at("Ann", "a", "b")}},
		{"blanks at both ends, without an angle", "\n\t a@b \r,\r\n c@d", []api.Address{at("", "a", "b"), at("", "c", "d")}},
		{"blanks within", "Ann  Bee\r\n Cee <a b\r\n\t@ c>", []api.Address{at("Ann  Bee\r\n Cee", "a b\r\n\t", " c")}},
		{"blanks beside an @", " a @ b ", []api.Address{at("", "a ", " b")}},
		{"bytes that are no blanks", "\x00Ann\v <\fa@b\x00>", []api.Address{at("\x00Ann\v", "\fa", "b\x00")}},
		{"bytes beyond seven bits", "\u00a0é\xff <\u0085@\xfe>", []api.Address{at("\u00a0é\xff", "\u0085", "\xfe")}},
		{"encoded words as they are", "=?utf-8?q?a?= <b@c>", []api.Address{at("=?utf-8?q?a?=", "b", "c")}},
		{"what stands behind an angle", "Ann <a@b> x@y", []api.Address{at("Ann", "a", "b")}},
		{"what stands behind an angle, and another", "Ann <a@b> x@y, c", []api.Address{at("Ann", "a", "b"), at("", "c", "")}},
		{"a > that ends nothing", "a>b@c>, > <d>", []api.Address{at("", "a>b", "c>"), at(">", "d", "")}},
		{"a ) that ends nothing", "a)b@c), ) <d)>", []api.Address{at("", "a)b", "c)"), at(")", "d)", "")}},
		{"other signs", "a;b:c[d]@e.f{g}", []api.Address{at("", "a;b:c[d]", "e.f{g}")}},
		{"a group", "All: a@b, c@d;", []api.Address{at("", "All: a", "b"), at("", "c", "d;")}},

		{"several @", "a@b@c", []api.Address{at("", "a@b", "c")}},
		{"several @ in an angle", "x@y <@a:b@c>", []api.Address{at("x@y", "@a:b", "c")}},
		{"several @, one behind the other", "a@@", []api.Address{at("", "a@", "")}},
		{"an @ at the end", "a@", []api.Address{at("", "a", "")}},
		{"an @ at the beginning", "@a", []api.Address{at("", "", "a")}},
		{"an @ alone", "@", nil},
		{"an @ alone in an angle", "<@>, A <@>", []api.Address{at("A", "", "")}},
		{"two @ alone", "@@", []api.Address{at("", "@", "")}},
		{"an @ in what is quoted", `"a@b"`, []api.Address{at("", "a", "b")}},
		{"an @ in what is quoted, and one behind", `"a@b"@c`, []api.Address{at("", "a@b", "c")}},
		{"an @ in what is quoted, and one ahead", `a@"b@c"`, []api.Address{at("", "a@b", "c")}},
		{"an @ in what is quoted, in an angle", `<"a@b"@c>`, []api.Address{at("", "a@b", "c")}},
		{"an @ in a name", `"a@b" <c>, d@e <f>`, []api.Address{at("a@b", "c", ""), at("d@e", "f", "")}},
		{"an @ in a remark", "a(@)b, c(@)@d", []api.Address{at("", "ab", ""), at("", "c", "d")}},
		{"an @ behind an angle", "<a>@b", []api.Address{at("", "a", "")}},

		{"a quoted name", `"Ann B" <a@b>`, []api.Address{at("Ann B", "a", "b")}},
		{"a name in pieces", `Ann "B" C"D"E <a@b>`, []api.Address{at("Ann B CDE", "a", "b")}},
		{"blanks in quotes", `" Ann " <" a "@b>, " c "`, []api.Address{at("Ann", "a ", "b"), at("", "c", "")}},
		{"an empty quoted text", `"" <a@b>, "", ""@c`, []api.Address{at("", "a", "b"), at("", "", "c")}},
		{"a comma in quotes", `"B, Ann" <a@b>, c`, []api.Address{at("B, Ann", "a", "b"), at("", "c", "")}},
		{"an angle in quotes", `"<x>" <a@b>, "<c>"`, []api.Address{at("<x>", "a", "b"), at("", "<c>", "")}},
		{"a remark in quotes", `"(x)"@y, "(" <a>, ")"`, []api.Address{at("", "(x)", "y"), at("(", "a", ""), at("", ")", "")}},
		{"quotes that do not end", `"a, b <c@d> (e)`, []api.Address{at("", "a, b <c", "d> (e)")}},
		{"quotes that do not end, behind another one", `a, "b, c`, []api.Address{at("", "a", ""), at("", "b, c", "")}},
		{"quotes that do not end, at once", `a"`, []api.Address{at("", "a", "")}},
		{"quotes that do not end, behind a name", `A "b <c>`, []api.Address{at("", "A b <c>", "")}},
		{"quotes alone", `"`, nil},
		{"line ends in quotes", "\"a\r\nb\" <c>", []api.Address{at("a\r\nb", "c", "")}},

		{"a remark behind", "a@b (x)", []api.Address{at("", "a", "b")}},
		{"a remark ahead", "(x) a@b", []api.Address{at("", "a", "b")}},
		{"a remark within", "a(x)b@(y)c", []api.Address{at("", "ab", "c")}},
		{"a remark in a name", "A (x) B <c>", []api.Address{at("A  B", "c", "")}},
		{"a remark in an angle", "A <b(x)@c(y)>", []api.Address{at("A", "b", "c")}},
		{"a remark alone", "(x)", nil},
		{"an empty remark", "a()b", []api.Address{at("", "ab", "")}},
		{"a remark within a remark", "a(b(c)d)e@f", []api.Address{at("", "ae", "f")}},
		{"remarks within remarks", "a((()(()))())b, c(((d)))", []api.Address{at("", "ab", ""), at("", "c", "")}},
		{"a comma in a remark", "a (x, y) <b>, c", []api.Address{at("a", "b", ""), at("", "c", "")}},
		{"a comma in a remark within a remark", "a ((x, y), z), c", []api.Address{at("", "a", ""), at("", "c", "")}},
		{"quotes in a remark", `a (") b, c (") d`, []api.Address{at("", "a  b", ""), at("", "c  d", "")}},
		{"an angle in a remark", "a (<b>) c, (<) d, (>) e", []api.Address{at("", "a  c", ""), at("", "d", ""), at("", "e", "")}},
		{"a remark that does not end", "a@b (x, c@d", []api.Address{at("", "a", "b")}},
		{"a remark that does not end, within another", "a@b (x (y), c@d", []api.Address{at("", "a", "b")}},
		{"a remark within that does not end", "a@b (x (y, c@d)", []api.Address{at("", "a", "b")}},
		{"a remark that does not end, at once", "a(", []api.Address{at("", "a", "")}},
		{"a remark that does not end, alone", "(", nil},
		{"a remark one ) too short", "a(b(c)(d), e@f", []api.Address{at("", "a", "")}},
		{"a remark with one ) too many", "a(b(c)))d", []api.Address{at("", "a)d", "")}},

		{"a comma in an angle", "A <a,b@c>, d", []api.Address{at("A", "a,b", "c"), at("", "d", "")}},
		{"a < in an angle", "A <a<b@c>, d>", []api.Address{at("A", "a<b", "c"), at("", "d>", "")}},
		{"an angle that does not end", "A <a@b, c", []api.Address{at("A", "a", "b, c")}},
		{"an angle that does not end, at once", "A <", []api.Address{at("A", "", "")}},
		{"an angle that does not end, alone", "<", nil},
		{"an empty angle", "A <>", []api.Address{at("A", "", "")}},
		{"an empty angle alone", "<>, < \r\n\t>", nil},
		{"an empty angle, and what stands behind", "<> a@b", nil},
		{"quotes in an angle", `<"a b"@c>`, []api.Address{at("", "a b", "c")}},
		{"a comma in quotes in an angle", `<"a,b"@c>, d`, []api.Address{at("", "a,b", "c"), at("", "d", "")}},
		{"a > in quotes in an angle", `<"a>b"@c>d`, []api.Address{at("", "a>b", "c")}},
		{"a > in a remark in an angle", "<a(>)b@c>d", []api.Address{at("", "ab", "c")}},
		{"a > in a remark within a remark in an angle", "<a((>)>)b@c>d", []api.Address{at("", "ab", "c")}},
		{"a comma in a remark in an angle", "<a(,)b>, c", []api.Address{at("", "ab", ""), at("", "c", "")}},
		{"quotes that do not end in an angle", `A <"a@b>, c`, []api.Address{at("A", "a", "b>, c")}},
		{"a remark that does not end in an angle", "A <a@b(>, c", []api.Address{at("A", "a", "b")}},
		{"a > in quotes alone", `A <a">", c`, []api.Address{at("A", "a>, c", "")}},
		{"two angles", "A <a@b> B <c@d>", []api.Address{at("A", "a", "b")}},
		{"two angles, the first empty", "A <> B <c@d>", []api.Address{at("A", "", "")}},
		{"two angles, the first empty, without a name", "<> B <c@d>, <><e>", nil},
		{"two angles, a comma in the second", "A <a@b> <c, d>, e", []api.Address{at("A", "a", "b"), at("", "e", "")}},
		{"two angles, the second without an end", "A <a@b> <c, d", []api.Address{at("A", "a", "b")}},
		{"three angles", "<a><b><c>, <d>", []api.Address{at("", "a", ""), at("", "d", "")}},
		{"quotes behind an angle", `A <a@b> "c, d", e`, []api.Address{at("A", "a", "b"), at("", "e", "")}},
		{"a remark behind an angle", "A <a@b> (c, d), e", []api.Address{at("A", "a", "b"), at("", "e", "")}},

		{"empty pieces", ",,a,,b,,", []api.Address{at("", "a", ""), at("", "b", "")}},
		{"empty pieces alone", ",,,", nil},
		{"a comma alone", ",", nil},
		{"pieces of blanks", " ,\t,\r\n,a, ", []api.Address{at("", "a", "")}},
		{"pieces of remarks", "(x),a,(y)(z), (\t) ", []api.Address{at("", "a", "")}},
		{"blanks alone", " \t\r\n", nil},
		{"no blanks behind a comma", "a,b,c", []api.Address{at("", "a", ""), at("", "b", ""), at("", "c", "")}},
		{"one twice", "a@b,a@b", []api.Address{at("", "a", "b"), at("", "a", "b")}},
	} {
		t.Log(c.why)
		wantAddresses(t, c.s, c.wanted...)
		if slow := slowAddresses(c.s); !slices.Equal(slow, c.wanted) {
			t.Fatalf("the slow reader tells %q", slow)
		}
	}
}

// A \ ahead of each of the bytes that mean something, and at the text's end.
func TestEscapes(t *testing.T) {
	for _, c := range []struct {
		why, s string
		wanted []api.Address
	}{
		{"at the end", `a\`, []api.Address{at("", `a\`, "")}},
		{"alone", `\`, []api.Address{at("", `\`, "")}},
		{"ahead of a letter", `a\b@c`, []api.Address{at("", `a\b`, "c")}},
		{"ahead of \"", `a\"b,c"d`, []api.Address{at("", `a\b,cd`, "")}},
		{"ahead of \\", `a\\b`, []api.Address{at("", `a\\b`, "")}},
		{"ahead of (", `a\(b,c)d`, []api.Address{at("", `a\d`, "")}},
		{"ahead of )", `a\)b`, []api.Address{at("", `a\)b`, "")}},
		{"ahead of <", `a\<b>c`, []api.Address{at(`a\`, "b", "")}},
		{"ahead of >", `a\>b`, []api.Address{at("", `a\>b`, "")}},
		{"ahead of ,", `a\,b`, []api.Address{at("", `a\`, ""), at("", "b", "")}},
		{"ahead of @", `a\@b`, []api.Address{at("", `a\`, "b")}},
		{"ahead of a blank", `a\ `, []api.Address{at("", `a\`, "")}},

		{"quoted, at the end", `"a\`, []api.Address{at("", `a\`, "")}},
		{"quoted, alone", `"\`, []api.Address{at("", `\`, "")}},
		{"quoted, twice at the end", `"a\\`, []api.Address{at("", `a\`, "")}},
		{"quoted, three times at the end", `"a\\\`, []api.Address{at("", `a\\`, "")}},
		{"quoted, ahead of a letter", `"a\b"c`, []api.Address{at("", "abc", "")}},
		{"quoted, ahead of \"", `"a\"b,c"d,e`, []api.Address{at("", `a"b,cd`, ""), at("", "e", "")}},
		{"quoted, ahead of the last \"", `"a\"`, []api.Address{at("", `a"`, "")}},
		{"quoted, ahead of \\", `"a\\"b,c`, []api.Address{at("", `a\b`, ""), at("", "c", "")}},
		{"quoted, ahead of \\ and \"", `"a\\\"b,c"d,e`, []api.Address{at("", `a\"b,cd`, ""), at("", "e", "")}},
		{"quoted, ahead of (", `"a\(b"c`, []api.Address{at("", "a(bc", "")}},
		{"quoted, ahead of )", `"a\)b"c`, []api.Address{at("", "a)bc", "")}},
		{"quoted, ahead of <", `"a\<b"c`, []api.Address{at("", "a<bc", "")}},
		{"quoted, ahead of >", `"a\>b"c`, []api.Address{at("", "a>bc", "")}},
		{"quoted, ahead of ,", `"a\,b"c`, []api.Address{at("", "a,bc", "")}},
		{"quoted, ahead of @", `"a\@b"c`, []api.Address{at("", "a", "bc")}},
		{"quoted, ahead of a blank", `"\ a\ " <b>`, []api.Address{at("a", "b", "")}},
		{"quoted, ahead of a line end", "\"a\\\r\nb\" <c>", []api.Address{at("a\r\nb", "c", "")}},

		{"a remark, at the end", `a(b\`, []api.Address{at("", "a", "")}},
		{"a remark, alone", `(\`, nil},
		{"a remark, ahead of a letter", `a(\b)c`, []api.Address{at("", "ac", "")}},
		{"a remark, ahead of \"", `a(b\"c)d,e"f`, []api.Address{at("", "ad", ""), at("", "ef", "")}},
		{"a remark, ahead of \\", `a(b\\)c,d`, []api.Address{at("", "ac", ""), at("", "d", "")}},
		{"a remark, ahead of (", `a(b\(c)d,e`, []api.Address{at("", "ad", ""), at("", "e", "")}},
		{"a remark, ahead of )", `a(b\)c,d)e`, []api.Address{at("", "ae", "")}},
		{"a remark, ahead of the last )", `a(b\),c`, []api.Address{at("", "a", "")}},
		{"a remark, ahead of <", `a(b\<c)d`, []api.Address{at("", "ad", "")}},
		{"a remark, ahead of >", `a(b\>c)d`, []api.Address{at("", "ad", "")}},
		{"a remark, ahead of ,", `a(b\,c)d`, []api.Address{at("", "ad", "")}},
		{"a remark, ahead of @", `a(b\@c)d`, []api.Address{at("", "ad", "")}},
		{"a remark within a remark, ahead of )", `a(b(c\)d)e)f`, []api.Address{at("", "af", "")}},
		{"a remark within a remark, ahead of (", `a(b(c\(d)e)f`, []api.Address{at("", "af", "")}},

		{"an angle, at the end", `A <a\`, []api.Address{at("A", `a\`, "")}},
		{"an angle, ahead of a letter", `<a\b>`, []api.Address{at("", `a\b`, "")}},
		{"an angle, ahead of \"", `<a\"b>"c>d`, []api.Address{at("", `a\b>c`, "")}},
		{"an angle, ahead of \\", `<a\\>b`, []api.Address{at("", `a\\`, "")}},
		{"an angle, ahead of (", `<a\(b>)c>d`, []api.Address{at("", `a\c`, "")}},
		{"an angle, ahead of )", `<a\)b>c`, []api.Address{at("", `a\)b`, "")}},
		{"an angle, ahead of <", `<a\<b>c`, []api.Address{at("", `a\<b`, "")}},
		{"an angle, ahead of >", `<a\>b>,c`, []api.Address{at("", `a\`, ""), at("", "c", "")}},
		{"an angle, ahead of ,", `<a\,b>c`, []api.Address{at("", `a\,b`, "")}},
		{"an angle, ahead of @", `<a\@b>c`, []api.Address{at("", `a\`, "b")}},
		{"quoted in an angle, at the end", `<"a\`, []api.Address{at("", `a\`, "")}},
		{"quoted in an angle, ahead of \"", `<"a\">"b>c`, []api.Address{at("", `a">b`, "")}},
		{"quoted in an angle, ahead of >", `<"a\>b"c>d`, []api.Address{at("", "a>bc", "")}},
		{"a remark in an angle, at the end", `<a(\`, []api.Address{at("", "a", "")}},
		{"a remark in an angle, ahead of )", `<a(\)>)b>c`, []api.Address{at("", "ab", "")}},
	} {
		t.Log(c.why)
		wantAddresses(t, c.s, c.wanted...)
		if slow := slowAddresses(c.s); !slices.Equal(slow, c.wanted) {
			t.Fatalf("the slow reader tells %q", slow)
		}
	}
}

// Each byte says itself, but for those that mean something.
func TestEachByteOfAnAddress(t *testing.T) {
	for n := range 256 {
		b := string([]byte{byte(n)})
		switch {
		case strings.Contains("\t\n\r ", b):
			wantAddresses(t, b+"x"+b+"<"+b+"y"+b+">", at("x", "y", ""))
			wantAddresses(t, b+"x"+b+"y"+b, at("", "x"+b+"y", ""))
			wantAddresses(t, b)
		case strings.Contains("\"(<,@", b):
		case b == ">":
			wantAddresses(t, b, at("", b, ""))
		default:
			wantAddresses(t, b+"x"+b+"<"+b+"y"+b+"@"+b+">", at(b+"x"+b, b+"y"+b, b))
			wantAddresses(t, b, at("", b, ""))
		}
	}
}

func addressesAsSlow(t *testing.T, s string) {
	t.Helper()
	wantAddresses(t, s, slowAddresses(s)...)
}

func TestEachShortTextOfAddresses(t *testing.T) {
	eachText([]string{"a", "@", "<", ">", "\"", "(", ")", ",", "\\", " "}, 6, func(s string) { addressesAsSlow(t, s) })
}

func TestNearTextsOfAddresses(t *testing.T) {
	for _, s := range []string{
		"Ann <a@b>, c@d (x)",
		`"B, \"A\"" (x (y\)) z) <"c>d"@e(>)f> g <h>, i@j@k`,
		"<a\r\n@b>,\t\"c\\",
	} {
		eachNear(s, func(near string) { addressesAsSlow(t, near) })
	}
}

func TestAddressesByChance(t *testing.T) {
	r := rand.New(rand.NewSource(3))
	for range 200000 {
		addressesAsSlow(t, chance(r, 25, "a", "b c", "@", "@", "<", "<", ">", ">", "\"", "\"", "(", ")", ")", ",", ",", "\\", " ", "\r\n ", "\t", "é", "\xff", "\x00"))
	}
}

// P10.7

func TestAddressesOfTwoTexts(t *testing.T) {
	r := rand.New(rand.NewSource(7))
	both := func(a, b string) {
		wantAddresses(t, a+","+b, append(header.Addresses(a), header.Addresses(b)...)...)
	}
	signs := []string{"a", "@", ">", ")", ",", "\\", " "}
	eachText(signs, 3, func(a string) {
		eachText(signs, 3, func(b string) { both(a, b) })
	})
	for range 50000 {
		one := func() string { return chance(r, 12, "a", "b@c", "@", ">", ")", ",", "\\", " ", "\r\n", "\t", "\xff") }
		both(one(), one())
	}
}

// P1

func TestLongAddresses(t *testing.T) {
	const many = 1000000
	for _, s := range []string{"a", "@", "<", ">", "\"", "(", ")", ",", "\\", " ", "\"\\", "(\\", "<(", "<>", "()", "\"\"", "a,", "<a>,", "\xff"} {
		addressesAsSlow(t, strings.Repeat(s, many))
	}
	wantAddresses(t, strings.Repeat("(", many)+strings.Repeat(")", many)+"a", at("", "a", ""))
	wantAddresses(t, strings.Repeat("(", many)+strings.Repeat(")", many-1)+"a")
	wantAddresses(t, "\""+strings.Repeat("\\\"", many)+"\"", at("", strings.Repeat("\"", many), ""))
	if n := len(header.Addresses(strings.Repeat("a@b,", many))); n != many {
		t.Fatalf("there are %d addresses", n)
	}
}
