package resp_test

import (
	"fmt"
	"math/rand"
	"reflect"
	"slices"
	"strconv"
	"strings"
	"testing"

	"haversack/api"
	"haversack/resp"
)

const end = "\r\n"

func times(s string, n int) string { return strings.Repeat(s, n) }

// tell makes what is told of a fault short enough.
func tell(v any) string {
	s := fmt.Sprintf("%+v", v)
	if text, is := v.(string); is {
		s = strconv.Quote(text)
	}
	if len(s) > 600 {
		return s[:300] + " .. " + s[len(s)-300:]
	}
	return s
}

// same holds values against each other, a list without members being nil or empty.
func same(a, b any) bool { return sameValue(reflect.ValueOf(a), reflect.ValueOf(b)) }

func sameValue(a, b reflect.Value) bool {
	switch a.Kind() {
	case reflect.Slice:
		if a.Len() != b.Len() {
			return false
		}
		for i := range a.Len() {
			if !sameValue(a.Index(i), b.Index(i)) {
				return false
			}
		}
		return true
	case reflect.Struct:
		for i := range a.NumField() {
			if !sameValue(a.Field(i), b.Field(i)) {
				return false
			}
		}
		return true
	}
	return a.Interface() == b.Interface()
}

func vals(l ...api.Val) []api.Val { return l }

func lines(l ...api.Line) []api.Line { return l }

// values is a line of these.
func values(l ...api.Val) api.Line { return api.Line{Tag: "*", Vals: l} }

func status(tag, word, text string, code ...api.Val) api.Line {
	return api.Line{Tag: tag, Status: word, Text: text, Code: code}
}

func goOn(text string) api.Line { return api.Line{Tag: "+", Text: text} }

// bare values are made without the calls that are tested.
func list(l ...api.Val) api.Val { return api.Val{Kind: api.ValList, Kids: l} }

func section(name string, from []int, l ...api.Val) api.Val {
	return api.Val{Kind: api.ValSection, Text: name, From: from, Kids: l}
}

func number(n int) api.Val { return api.Val{Kind: api.ValNumber, N: n} }

func atom(s string) api.Val { return api.Val{Kind: api.ValAtom, Text: s} }

func text(s string) api.Val { return api.Val{Kind: api.ValString, Text: s} }

var nothing = api.Val{Kind: api.ValNil}

// nested is a value in so many lists or sections, of both by turns.
func nested(v api.Val, deep int) api.Val {
	for i := range deep {
		switch i % 3 {
		case 0:
			v = list(v)
		case 1:
			v = section("S", []int{i}, v)
		default:
			v = list(number(i), v, atom("x"))
		}
	}
	return v
}

// copyOf is a value with lists of its own, which have room behind them.
func copyOf(v api.Val) api.Val {
	v.Kids = copiesOf(v.Kids)
	v.From = slices.Grow(slices.Clone(v.From), 3)
	return v
}

func copiesOf(l []api.Val) []api.Val {
	all := make([]api.Val, 0, len(l)+3)
	for _, v := range l {
		all = append(all, copyOf(v))
	}
	return all
}

func copyOfLine(l api.Line) api.Line {
	l.Vals, l.Code = copiesOf(l.Vals), copiesOf(l.Code)
	return l
}

func copiesOfLines(l []api.Line) []api.Line {
	all := make([]api.Line, 0, len(l)+3)
	for _, line := range l {
		all = append(all, copyOfLine(line))
	}
	return all
}

// wantTold: these lines are right and told so, and read so; and all that follows of them holds.
func wantTold(t *testing.T, why string, l []api.Line, told string) {
	t.Helper()
	wantPrint(t, why, l, told)
	wantParse(t, why, told, l)
	if slow, is := slowParse(told); !is || !same(slow, l) {
		t.Fatalf("%s: the slow reader of %s tells %s, %t", why, tell(told), tell(slow), is)
	}
	wantFollowing(t, why, l)
}

// wantPrint: these lines are right, and told so.
func wantPrint(t *testing.T, why string, l []api.Line, told string) {
	t.Helper()
	for _, line := range l {
		if !resp.Right(line) || !slowRight(line) {
			t.Fatalf("%s: Right of %s is %t, the slow one %t", why, tell(line), resp.Right(line), slowRight(line))
		}
	}
	was := copiesOfLines(l)
	if got := resp.Print(l...); got != told {
		t.Fatalf("%s: Print of %s is %s; want %s", why, tell(l), tell(got), tell(told))
	}
	if !same(l, was) {
		t.Fatalf("%s: Print made %s of %s", why, tell(l), tell(was))
	}
	if got := slowPrint(l...); got != told {
		t.Fatalf("%s: the slow Print of %s is %s; want %s", why, tell(l), tell(got), tell(told))
	}
}

func wantParse(t *testing.T, why, s string, wanted []api.Line) {
	t.Helper()
	got, e := resp.Parse(s)
	if e != api.OK || !same(got, wanted) {
		t.Fatalf("%s: Parse of %s is %s, %v; want %s", why, tell(s), tell(got), e, tell(wanted))
	}
}

// wantFollowing: P15.3 and P15.4 of right lines.
func wantFollowing(t *testing.T, why string, l []api.Line) {
	t.Helper()
	told := resp.Print(l...)
	wantParse(t, why+", back", told, l)
	for i := range len(l) + 1 {
		ahead, behind := resp.Print(l[:i]...), resp.Print(l[i:]...)
		if ahead+behind != told {
			t.Fatalf("%s: Print of %s is %s, of both parts %s and %s", why, tell(l), tell(told), tell(ahead), tell(behind))
		}
		wantParse(t, why+", a beginning", told[:len(ahead)], l[:i])
		wantParse(t, why+", what is behind a beginning", told[len(ahead):], l[i:])
	}
}

// wantWrong: a line is not right, and nothing is told of lines of which it is one.
func wantWrong(t *testing.T, why string, l api.Line) {
	t.Helper()
	if resp.Right(l) || slowRight(l) {
		t.Fatalf("%s: Right of %s is %t, the slow one %t", why, tell(l), resp.Right(l), slowRight(l))
	}
	right := goOn("x")
	for _, all := range [][]api.Line{{l}, {l, right}, {right, l}, {right, l, right}, {l, l}} {
		if got := resp.Print(all...); got != "" {
			t.Fatalf("%s: Print of %s is %s", why, tell(all), tell(got))
		}
	}
}

// wantRefused: a text is none of lines.
func wantRefused(t *testing.T, why, s string) {
	t.Helper()
	wantErrForm(t, why, s)
	if slow, is := slowParse(s); is {
		t.Fatalf("%s: the slow reader of %s tells %s", why, tell(s), tell(slow))
	}
}

func wantErrForm(t *testing.T, why, s string) {
	t.Helper()
	if l, e := resp.Parse(s); e != api.ErrForm || len(l) != 0 {
		t.Fatalf("%s: Parse of %s is %s, %v; want %v", why, tell(s), tell(l), e, api.ErrForm)
	}
}

// asSlow holds Parse against the slow reader, and tells whether the text is one of lines.
func asSlow(t *testing.T, s string) bool {
	t.Helper()
	wanted, is := slowParse(s)
	if !is {
		wantErrForm(t, "as the slow reader", s)
		return false
	}
	wantParse(t, "as the slow reader", s, wanted)
	wantPrint(t, "as the slow reader", wanted, s)
	return true
}

// asSlowRight holds Right and Print against the slow ones, and tells whether the line is right.
func asSlowRight(t *testing.T, why string, l api.Line) bool {
	t.Helper()
	if !slowRight(l) {
		wantWrong(t, why, l)
		return false
	}
	wantPrint(t, why, lines(l), slowPrint(l))
	wantFollowing(t, why, lines(l))
	return true
}

// wherever goes through lines that have a value: alone, behind another one, in a list, in a section, and as a code.
func wherever(v api.Val, do func(where string, l api.Line, ahead, behind string)) {
	do("alone", values(v), "* ", end)
	do("behind others", values(number(1), v, atom("x")), "* 1 ", " x"+end)
	do("in a list", values(list(v)), "* (", ")"+end)
	do("among others in a list", values(list(atom("x"), v, nothing)), "* (x ", " NIL)"+end)
	do("in a section", values(section("B", nil, v)), "* B[", "]"+end)
	do("among others in a section", values(section("B", []int{2}, text("t"), v, list())), `* B["t" `, " ()]<2>"+end)
	do("deep", values(list(section("B", nil, list(v)))), "* (B[(", ")])"+end)
	do("as a code", status("a", "OK", "x", v), "a OK [", "] x"+end)
	do("in a code", status("*", "BAD", "", atom("C"), v, number(0)), "* BAD [C ", " 0] "+end)
}

// wantValue: a value is right wherever it stands, and told so.
func wantValue(t *testing.T, why string, v api.Val, told string) {
	t.Helper()
	wherever(v, func(where string, l api.Line, ahead, behind string) {
		wantTold(t, why+", "+where, lines(l), ahead+told+behind)
	})
}

// wantWrongValue: a value is not right, wherever it stands.
func wantWrongValue(t *testing.T, why string, v api.Val) {
	t.Helper()
	wherever(v, func(where string, l api.Line, _, _ string) { wantWrong(t, why+", "+where, l) })
}

// wantNoValue: a text is none of a value, nor of several, wherever it stands.
func wantNoValue(t *testing.T, why, s string) {
	t.Helper()
	wherever(nothing, func(where string, _ api.Line, ahead, behind string) {
		wantRefused(t, why+", "+where, ahead+s+behind)
	})
}

// eachText goes through all texts of some signs, up to so many of them.
func eachText(signs []string, most int, do func(s string)) {
	var longer func(s string, more int)
	longer = func(s string, more int) {
		do(s)
		if more > 0 {
			for _, sign := range signs {
				longer(s+sign, more-1)
			}
		}
	}
	longer("", most)
}

// eachNear goes through a text with each byte at each place as another one, and as one more, with each byte left out, and cut off at each place.
func eachNear(s string, do func(near string)) {
	for at := range len(s) + 1 {
		do(s[:at])
		do(s[at:])
		for b := range 256 {
			one := string([]byte{byte(b)})
			do(s[:at] + one + s[at:])
			if at < len(s) {
				do(s[:at] + one + s[at+1:])
			}
		}
		if at < len(s) {
			do(s[:at] + s[at+1:])
		}
	}
}

// chance is a text of some pieces, up to so many.
func chance(r *rand.Rand, most int, pieces ...string) string {
	var s strings.Builder
	for range r.Intn(most + 1) {
		s.WriteString(pieces[r.Intn(len(pieces))])
	}
	return s.String()
}

func one(r *rand.Rand, l ...string) string { return l[r.Intn(len(l))] }

// rarely is true one time of so many.
func rarely(r *rand.Rand, many int) bool { return r.Intn(many) == 0 }

// valueByChance is a value that is right, but for some few.
func valueByChance(r *rand.Rand, deep int) api.Val {
	kinds := 8
	if deep == 0 {
		kinds = 4
	}
	if rarely(r, 200) {
		return []api.Val{number(-1), atom("7"), atom("nil"), atom(""), atom("("), section("B", []int{1, 2}), section("B", []int{-1}), section("1", nil), {Kind: 6}, {Text: "x"}}[r.Intn(10)]
	}
	switch r.Intn(kinds) {
	case 0:
		return nothing
	case 1:
		return number(r.Intn(30))
	case 2:
		return atom(one(r, "a", "OK", "NO", "nil1", "1a", `\Seen`, "*", "+", "a", "b", "c%"))
	case 3:
		return text(chance(r, 4, "a", " ", `"`, `\`, "]", ")", "{1}", "\r", "\n", times("b", 33), "é", end))
	case 4, 5:
		return list(valuesByChance(r, deep-1)...)
	}
	var from []int
	if rarely(r, 2) {
		from = append(from, r.Intn(20))
	}
	return section(one(r, "BODY", "B", "OK", "NO"), from, valuesByChance(r, deep-1)...)
}

func valuesByChance(r *rand.Rand, deep int) []api.Val {
	var l []api.Val
	for range r.Intn(4) {
		l = append(l, valueByChance(r, deep))
	}
	return l
}

func lineByChance(r *rand.Rand) api.Line {
	tag := one(r, "*", "*", "*", "a", "a1", "12", "NIL", `\`, "+", "OK")
	said := one(r, "", "done", " ", "a  b", "[", "x [y] ", "]", "[x] y", times("z", 70))
	switch {
	case tag == "+":
		return goOn(said)
	case rarely(r, 2):
		return api.Line{Tag: tag, Vals: valuesByChance(r, 3)}
	}
	return status(tag, one(r, "OK", "NO", "BAD", "BYE", "PREAUTH"), said, valuesByChance(r, 3)...)
}
