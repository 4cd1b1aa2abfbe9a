package resp_test

import (
	"math"
	"math/big"
	"strconv"
	"strings"
	"testing"

	"haversack/api"
	"haversack/resp"
)

// P15.1, P15.2 and P15.3, of values: each is right or not, told and read wherever it stands.

func TestExamples(t *testing.T) {
	fetch := values(resp.Number(3), resp.Atom("FETCH"), resp.List(resp.Atom("FLAGS"), resp.List(resp.Atom(`\Seen`)), resp.Section("BODY", []int{0}, resp.Atom("TEXT")), resp.Text("a")))
	wantTold(t, "the first one", lines(fetch), `* 3 FETCH (FLAGS (\Seen) BODY[TEXT]<0> "a")`+end)
	wantTold(t, "the second one", lines(status("a1", "OK", "done", resp.Atom("READ-WRITE"))), "a1 OK [READ-WRITE] done"+end)
	wantTold(t, "both", lines(fetch, status("a1", "OK", "done", resp.Atom("READ-WRITE"))), `* 3 FETCH (FLAGS (\Seen) BODY[TEXT]<0> "a")`+end+"a1 OK [READ-WRITE] done"+end)
}

func TestMakers(t *testing.T) {
	for _, c := range []struct {
		why         string
		got, wanted api.Val
	}{
		{"Nil", resp.Nil(), api.Val{Kind: 0}},
		{"Number", resp.Number(7), api.Val{Kind: 1, N: 7}},
		{"Number 0", resp.Number(0), api.Val{Kind: 1}},
		{"Number, not right", resp.Number(-7), api.Val{Kind: 1, N: -7}},
		{"Number, the smallest", resp.Number(math.MinInt), api.Val{Kind: 1, N: math.MinInt}},
		{"Atom", resp.Atom("a"), api.Val{Kind: 2, Text: "a"}},
		{"Atom, not right", resp.Atom("("), api.Val{Kind: 2, Text: "("}},
		{"Atom, empty", resp.Atom(""), api.Val{Kind: 2}},
		{"Atom, NIL", resp.Atom("NIL"), api.Val{Kind: 2, Text: "NIL"}},
		{"Atom, digits", resp.Atom("12"), api.Val{Kind: 2, Text: "12"}},
		{"Text", resp.Text("a\x00"), api.Val{Kind: 3, Text: "a\x00"}},
		{"Text, empty", resp.Text(""), api.Val{Kind: 3}},
		{"List", resp.List(api.Val{}, api.Val{Kind: 9}), api.Val{Kind: 4, Kids: []api.Val{{}, {Kind: 9}}}},
		{"List, empty", resp.List(), api.Val{Kind: 4}},
		{"List, of no members", resp.List([]api.Val{}...), api.Val{Kind: 4}},
		{"Section", resp.Section("B", []int{3}, api.Val{Kind: 1, N: 2}), api.Val{Kind: 5, Text: "B", From: []int{3}, Kids: []api.Val{{Kind: 1, N: 2}}}},
		{"Section, empty", resp.Section("", nil), api.Val{Kind: 5}},
		{"Section, not right", resp.Section("1", []int{-1, 2}, api.Val{Kind: -1}), api.Val{Kind: 5, Text: "1", From: []int{-1, 2}, Kids: []api.Val{{Kind: -1}}}},
	} {
		if !same(c.got, c.wanted) {
			t.Fatalf("%s is %s; want %s", c.why, tell(c.got), tell(c.wanted))
		}
	}
	deep, wanted := resp.Nil(), api.Val{}
	for range 100 {
		deep, wanted = resp.List(resp.Section("x", []int{1}, deep)), list(section("x", []int{1}, wanted))
	}
	if !same(deep, wanted) {
		t.Fatalf("a deep one is %s", tell(deep))
	}
}

func TestNil(t *testing.T) {
	wantValue(t, "nothing", nothing, "NIL")
	for _, s := range []string{"nil", "Nil", "nIl", "niL", "NIl", "NiL", "nIL"} {
		wantNoValue(t, "nothing in other letters", s)
		wantWrongValue(t, "an atom", atom(s))
	}
	wantWrongValue(t, "an atom", atom("NIL"))
	for _, s := range []string{"NIL1", "NILL", "NI", "IL", "NIL.", `\NIL`, "nill", "xnil", "Nil-"} {
		wantValue(t, "nearly nothing", atom(s), s)
	}
}

func TestNumbers(t *testing.T) {
	for _, n := range []int{0, 1, 9, 10, 99, 100, 12345, 1<<31 - 1, 1 << 31, 1<<32 - 1, 1 << 32, math.MaxInt - 1, math.MaxInt} {
		wantValue(t, "a number", number(n), strconv.Itoa(n))
	}
	for _, n := range []int{-1, -10, math.MinInt, math.MinInt + 1, -math.MaxInt} {
		wantWrongValue(t, "a number below 0", number(n))
	}
	tooGreat := new(big.Int).Add(big.NewInt(math.MaxInt), big.NewInt(1)).String()
	for _, s := range []string{"00", "01", "007", "00000000000000000000000000007", "0" + strconv.Itoa(math.MaxInt), tooGreat, "10000000000000000000", "18446744073709551615", "18446744073709551616", "18446744073709551617", "99999999999999999999999999", times("1", 400)} {
		wantNoValue(t, "no number", s)
		wantWrongValue(t, "digits alone are no atom", atom(s))
	}
	wantNoValue(t, "other digits", "٣")
	for _, s := range []string{"+1", "-1", "-0", "1.0", "1e5", "0x1", "1_000", "+", "-", "1a", "a1", "0-", "1,2"} {
		wantValue(t, "nearly a number", atom(s), s)
	}
}

func TestNumbersUpTo(t *testing.T) {
	for n := range 12000 {
		wantTold(t, "a number", lines(values(number(n))), "* "+strconv.Itoa(n)+end)
	}
}

// okInAtoms tells whether a byte is a letter of an atom.
func okInAtoms(b int) bool {
	return b >= 33 && b <= 126 && !strings.ContainsRune(`(){}"[]<>`, rune(b))
}

func TestEachByteInAtoms(t *testing.T) {
	for b := range 256 {
		one := string([]byte{byte(b)})
		for _, s := range []string{one, "a" + one, one + "a", "a" + one + "a", one + one, "1" + one + "a", `\` + one} {
			alone := b >= '0' && b <= '9' && (s == one || s == one+one)
			if okInAtoms(b) && !alone {
				wantValue(t, "an atom", atom(s), s)
				wantValue(t, "a section", section(s, nil), s+"[]")
				wantValue(t, "a section with more", section(s, []int{1}, atom(s)), s+"["+s+"]<1>")
				continue
			}
			wantWrongValue(t, "an atom", atom(s))
			wantWrongValue(t, "a section", section(s, nil))
			if !strings.Contains(" ", one) && !alone { // a blank parts values
				asSlow(t, "* "+s+end)
			}
			asSlow(t, "* "+s+"[]"+end)
		}
	}
}

func TestAtoms(t *testing.T) {
	wantWrongValue(t, "an empty atom", atom(""))
	wantWrongValue(t, "a section without an atom", section("", nil))
	for _, s := range []string{"0", "1", "12", "000", "NIL", "nil", "nIL", "a b", " a", "a ", "é", "a\r\n", "a(b", "[]", "<1>"} {
		wantWrongValue(t, "no atom", atom(s))
		wantWrongValue(t, "a section of no atom", section(s, nil))
		wantWrongValue(t, "a section of no atom, with more", section(s, []int{1}, nothing))
	}
	long := times("x", 300)
	for _, s := range []string{"OK", "NO", "BAD", "BYE", "PREAUTH"} { // alone they are no value of a line
		wantTold(t, "a status's word as an atom", lines(values(number(1), atom(s))), "* 1 "+s+end)
	}
	for _, s := range []string{"1a", "12.34", "ok", `\Seen`, `\`, "*", "+", "$x", "#1", "%", "a*b", "~", "!", "a|b", "'", "`", long} {
		wantValue(t, "an atom", atom(s), s)
		wantValue(t, "a section", section(s, []int{12}, atom(s)), s+"["+s+"]<12>")
	}
	for _, s := range []string{"1[]", "12[a]", "0[]<1>", "NIL[]", "nil[a]", "NiL[]<0>", "[]", "[a]", "<1>", "a<1>", "(a)<1>", `"a"<1>`, "a[]b", "a[][]", "a[]<1>b", "a[]<1><2>", "()()", `""""`, `a""`, "NIL()", "a(b)", "1(b)", "1<2>"} {
		wantNoValue(t, "no value", s)
	}
}

func TestStrings(t *testing.T) {
	most := times("x", api.MaxQuoted)
	for _, c := range []struct{ s, told string }{
		{"", `""`}, {" ", `" "`}, {"a", `"a"`}, {"a b", `"a b"`}, {`"`, `"\""`}, {`\`, `"\\"`}, {`\"`, `"\\\""`}, {`a"b\c`, `"a\"b\\c"`},
		{"NIL", `"NIL"`}, {"12", `"12"`}, {"()", `"()"`}, {"{1}", `"{1}"`}, {"]", `"]"`},
		{most, `"` + most + `"`},
		{most + "x", "{101}" + end + most + "x"},
		{times(`"`, 100), `"` + times(`\"`, 100) + `"`},
		{times(`\`, 100), `"` + times(`\\`, 100) + `"`},
		{times(`"`, 101), "{101}" + end + times(`"`, 101)},
		{times(`\`, 101), "{101}" + end + times(`\`, 101)},
		{most[1:], `"` + most[1:] + `"`},
		{most[1:] + "\x00", "{100}" + end + most[1:] + "\x00"},
		{end, "{2}" + end + end}, {"\x00", "{1}" + end + "\x00"}, {"a\nb", "{3}" + end + "a\nb"}, {"é", "{2}" + end + "é"}, {"\xff", "{1}" + end + "\xff"},
		{`"` + "\n", "{2}" + end + `"` + "\n"}, {"* OK x" + end, "{8}" + end + "* OK x" + end}, {times("\r", 1000), "{1000}" + end + times("\r", 1000)},
		{times("y", 12345), "{12345}" + end + times("y", 12345)},
	} {
		wantValue(t, "a string", text(c.s), c.told)
	}
}

func TestEachByteInStrings(t *testing.T) {
	for b := range 256 {
		one := string([]byte{byte(b)})
		for _, s := range []string{one, "a" + one, one + "a", "a" + one + "b", one + one} {
			told := `"` + s + `"`
			switch {
			case b < 32 || b > 126:
				told = "{" + strconv.Itoa(len(s)) + "}" + end + s
			case b == '"' || b == '\\':
				told = `"` + strings.ReplaceAll(s, one, `\`+one) + `"`
			}
			wantValue(t, "a string", text(s), told)
			if told[0] == '{' {
				wantNoValue(t, "quoted, though it is told by its length", `"`+s+`"`)
			} else {
				wantNoValue(t, "told by its length, though it is quoted", "{"+strconv.Itoa(len(s))+"}"+end+s)
			}
			if b != '"' && b != '\\' {
				wantNoValue(t, "a byte behind a \\", `"\`+s+`"`)
			}
		}
	}
}

func TestEachLengthOfStrings(t *testing.T) {
	for n := range 250 {
		s := times("s", n)
		quoted, counted := `"`+s+`"`, "{"+strconv.Itoa(n)+"}"+end+s
		if n <= api.MaxQuoted {
			wantValue(t, "a string", text(s), quoted)
			wantNoValue(t, "told by its length", counted)
		} else {
			wantValue(t, "a string", text(s), counted)
			wantNoValue(t, "quoted", quoted)
		}
	}
}

func TestStringsThatAreNone(t *testing.T) {
	long := times("x", 101)
	for _, s := range []string{
		`"`, `"a`, `a"`, `"a\"`, `"\`, `"a" "`, `"a"b"`, `"a""b"`, `"\a"`, `"\ "`, `"\n"`, `"\101"`,
		"{", "{}", "{1", "{1}", "{1}\r", "{1}\n", "{1}" + end, "{1}a", "{1}\na", "{1}\ra", "{1}\n\ra", "{}" + end, "{-1}" + end, "{+1}" + end + "\x00", "{1+}" + end + "\x00", "{1 }" + end + "\x00", "{ 1}" + end + "\x00", "{a}" + end + "\x00", "{0x1}" + end + "\x00",
		"{0}" + end, "{00}" + end, "{01}" + end + "\x00", "{001}" + end + "\x00", "{0101}" + end + long,
		"{2}" + end + "\x00", "{0}" + end + "\x00", "{3}" + end + "\x00\x00", "{1}" + end + "\x00\x00", "{100}" + end + long, "{102}" + end + long, "{101}" + end + long + "x", "{101}" + end + long[1:],
		"{9223372036854775807}" + end + long, "{9223372036854775808}" + end + long, "{99999999999999999999999}" + end + long, "{18446744073709551617}" + end + "\x00",
		"{1}" + end + "\x00x", "~{1}" + end + "\x00", `{1}"` + "\x00" + `"`,
	} {
		wantNoValue(t, "no string", s)
	}
	for _, told := range []string{`* "a\"b\\c" (x)` + end, "* {3}" + end + "a\x00b" + end, "a OK [{5}" + end + "\x00\x01\x02\x03\x04] x" + end, "* B[{101}" + end + long + "]<1>" + end} {
		if !asSlow(t, told) {
			t.Fatalf("%s is no line", tell(told))
		}
		for at := range len(told) {
			if at == 0 {
				continue
			}
			wantRefused(t, "cut off", told[:at])
		}
	}
}

func TestListsAndSections(t *testing.T) {
	for _, c := range []struct {
		v    api.Val
		told string
	}{
		{list(), "()"},
		{list(nothing), "(NIL)"},
		{list(number(1), atom("a"), text("b"), nothing, list(), section("B", nil)), `(1 a "b" NIL () B[])`},
		{list(list(list(), list()), list(atom("a"))), "((() ()) (a))"},
		{list(text("\n"), text("\r")), "({1}" + end + "\n {1}" + end + "\r)"},
		{list(atom("OK")), "(OK)"},
		{section("B", nil), "B[]"},
		{section("B", []int{}), "B[]"},
		{section("B", nil, nothing), "B[NIL]"},
		{section("B", []int{0}), "B[]<0>"},
		{section("B", []int{12}, atom("1.2.TEXT")), "B[1.2.TEXT]<12>"},
		{section("B", []int{math.MaxInt}), "B[]<" + strconv.Itoa(math.MaxInt) + ">"},
		{section("BODY", nil, atom("HEADER.FIELDS"), list(text("to"), text("cc"))), `BODY[HEADER.FIELDS ("to" "cc")]`},
		{section("B", []int{1}, section("C", []int{2}, section("D", nil)), number(3)), "B[C[D[]]<2> 3]<1>"},
		{section("OK", nil, number(1)), "OK[1]"},
		{section("b", nil, text(`"`), text("\x00")), `b["\"" {1}` + end + "\x00]"},
		{api.Val{Kind: api.ValList, Kids: []api.Val{}, From: []int{}}, "()"},
		{api.Val{Kind: api.ValNil, Kids: []api.Val{}, From: []int{}}, "NIL"},
	} {
		wantValue(t, "a list, or a section", c.v, c.told)
	}
	many := make([]api.Val, 300)
	wantValue(t, "a list of many", list(many...), "("+strings.TrimSuffix(times("NIL ", 300), " ")+")")
	for _, s := range []string{
		"(", ")", "( )", "(a", "a)", "(a ", "( a)", "(a )", "(a  b)", "(a;b", "((a)", "(a))", "(a]", "[a)", "(a)b", "a(b)", "(a)(b)", "(\ta)",
		"B[", "B[ ]", "B[a", "B[ a]", "B[a ]", "B[a  b]", "B[a)", "B [a]", "B[[a]]", "B[a]b", "B[]()", "()B[]",
		"B[]<", "B[]>", "B[]<>", "B[]<1", "B[]1>", "B[]<01>", "B[]<00>", "B[]<-1>", "B[]<+1>", "B[]< 1>", "B[]<1 >", "B[]<a>", "B[] <1>", "B[]<1>>", "B[]<<1>", "B[]<1><1>", "B[]<1.2>", "B[]<9223372036854775808>", "B[]<18446744073709551616>", "B<1>[]", "B<1>", "()<1>", "B[]<NIL>", `B[]<"1">`, "B[]{1}",
	} {
		wantNoValue(t, "no list, and no section", s)
	}
	for _, s := range []string{"B]", "B[a]]", "]", "a] b]"} { // as a code they end it
		wantRefused(t, "too many ]", "* "+s+end)
		wantRefused(t, "too many ] in a list", "* ("+s+")"+end)
	}
}

func TestFrom(t *testing.T) {
	for _, n := range []int{0, 1, 10, math.MaxInt} {
		wantValue(t, "one number", section("B", []int{n}), "B[]<"+strconv.Itoa(n)+">")
	}
	for _, from := range [][]int{{-1}, {math.MinInt}, {0, 0}, {1, 2}, {1, -1}, {-1, 1}, {0, 0, 0}} {
		wantWrongValue(t, "From", section("B", from))
		wantWrongValue(t, "From", section("B", from, atom("a")))
	}
}

// What a kind does not have, in a value that is right otherwise.
func TestWhatAKindDoesNotHave(t *testing.T) {
	right := map[int]api.Val{
		api.ValNil: nothing, api.ValNumber: number(1), api.ValAtom: atom("a"), api.ValString: text("a"), api.ValList: list(atom("a")), api.ValSection: section("B", []int{1}, atom("a")),
	}
	fields := map[string]struct {
		of  []int
		put func(v *api.Val)
	}{
		"Text": {[]int{api.ValAtom, api.ValString, api.ValSection}, func(v *api.Val) { v.Text = "b" }},
		"N":    {[]int{api.ValNumber}, func(v *api.Val) { v.N = 5 }},
		"Kids": {[]int{api.ValList, api.ValSection}, func(v *api.Val) { v.Kids = vals(nothing) }},
		"From": {[]int{api.ValSection}, func(v *api.Val) { v.From = []int{5} }},
	}
	for kind, v := range right {
		for name, field := range fields {
			one := v
			field.put(&one)
			has := false
			for _, of := range field.of {
				has = has || of == kind
			}
			why := "kind " + strconv.Itoa(kind) + " with " + name
			if has {
				wantValue(t, why, one, slowValue(one))
			} else {
				wantWrongValue(t, why, one)
			}
		}
	}
	for kind, v := range right {
		if kind != api.ValNumber {
			v.N = -1
			wantWrongValue(t, "N below 0 of another kind", v)
		}
		if kind != api.ValSection {
			v = right[kind]
			v.From = []int{0}
			wantWrongValue(t, "a From of 0", v)
		}
	}
}

func TestKindsThatAreNone(t *testing.T) {
	for _, kind := range []int{-1, -5, 6, 7, 100, 1 << 8, 1<<8 + 1, 1 << 32, 1<<32 + 4, math.MaxInt, math.MinInt} {
		for _, v := range []api.Val{{}, {Text: "a"}, {N: 1}, {Kids: vals(nothing)}, {Text: "a", Kids: vals(nothing), From: []int{1}}} {
			v.Kind = kind
			wantWrongValue(t, "a kind that is none", v)
		}
	}
}

// A value that is wrong makes all around it wrong.
func TestWrongValuesAmongOthers(t *testing.T) {
	for _, v := range []api.Val{number(-1), atom("1"), {Kind: 6}, section("B", []int{1, 2}), list(list(atom(""))), section("B", nil, section("", nil))} {
		wantWrongValue(t, "a value", v)
		wantWrongValue(t, "in several", list(nothing, list(section("B", nil, v)), nothing))
		wantWrongValue(t, "as the last one", section("B", nil, number(1), number(2), v))
		wantWrong(t, "in a line", values(atom("a"), atom("b"), v))
		wantWrong(t, "in a code", status("a", "NO", "x", atom("a"), atom("b"), v))
	}
}

func TestHowDeep(t *testing.T) {
	for _, v := range vals(nothing, number(1), list(), section("B", nil), list(list(), nothing)) {
		own := deepOf(v, 9)
		for _, deep := range []int{1, 2, api.MaxVals - 1, api.MaxVals} {
			all := nested(v, deep-own)
			wantDeep(t, all, true)
			wantDeep(t, list(nested(v, deep-own-1), nothing), true)
			wantDeep(t, section("B", nil, nothing, nested(v, deep-own-1)), true)
		}
		for _, deep := range []int{api.MaxVals + 1, api.MaxVals + 2, 2 * api.MaxVals, 1000} {
			wantDeep(t, nested(v, deep-own), false)
			wantDeep(t, list(nothing, nested(v, deep-own-1)), false)
			wantDeep(t, section("B", []int{0}, nothing, nested(v, deep-own-1)), false)
		}
	}
	wide := nested(nothing, api.MaxVals-1)
	wantDeep(t, list(wide, wide, nested(atom("x"), api.MaxVals-1)), true)
	wantTold(t, "each as deep as may be", lines(values(nested(nothing, api.MaxVals), nested(nothing, api.MaxVals)), status("a", "OK", "", nested(nothing, api.MaxVals), nested(nothing, api.MaxVals))),
		"* "+slowValue(nested(nothing, api.MaxVals))+" "+slowValue(nested(nothing, api.MaxVals))+end+"a OK ["+slowValue(nested(nothing, api.MaxVals))+" "+slowValue(nested(nothing, api.MaxVals))+"] "+end)
}

// wantDeep: a value alone, and a code of it, is right, and is read, unless it is too deep.
func wantDeep(t *testing.T, v api.Val, is bool) {
	t.Helper()
	told := slowValue(v)
	for _, c := range []struct {
		l    api.Line
		told string
	}{
		{values(v), "* " + told + end}, {values(nothing, v), "* NIL " + told + end}, {status("a", "OK", "x", v), "a OK [" + told + "] x" + end},
	} {
		if is {
			wantTold(t, "as deep as may be", lines(c.l), c.told)
			continue
		}
		wantWrong(t, "too deep", c.l)
		wantRefused(t, "too deep", c.told)
		wantRefused(t, "too deep, behind another line", "+ x"+end+c.told)
	}
}
