package resp_test

import (
	"reflect"
	"slices"
	"testing"

	"haversack/api"
	"haversack/resp"
)

// P1, P2, and the rules that hold everywhere.

// P1: long texts and many of them, and such as are read far deeper than values may be.
func TestLongTexts(t *testing.T) {
	t.Parallel()
	const many = 200000
	for _, ahead := range []string{"", "* ", "a OK [", "* (", "* B[", "+ "} {
		for _, s := range []string{"a", "1", " ", "(", ")", "()", "[", "]", "B[", "(B[", "a[ ", `"`, `\`, `\"`, "{", "{1}", "{1}" + end, "{9}" + end, "<", ">", "<1>", "NIL ", "nil", "a ", "* a" + end, "\r", "\n", end, "\x00", "\xff", "*", "+"} {
			text := ahead + times(s, many/len(s))
			wantSameAgain(t, text)
			wantSameAgain(t, text+end)
		}
	}
	for _, deep := range []int{31, 32, 100, 100000, 5000000} {
		wantErrForm(t, "lists", "* "+times("(", deep)+times(")", deep)+end)
		wantErrForm(t, "sections", "* "+times("B[", deep)+times("]", deep)+end)
		wantErrForm(t, "lists in a code", "* OK ["+times("(", deep)+times(")", deep)+"] "+end)
		wantErrForm(t, "lists that don't end", "* "+times("(", deep))
	}
}

// wantSameAgain: Parse ends, and tells the same again; what it tells is told so.
func wantSameAgain(t *testing.T, s string) {
	t.Helper()
	l, e := resp.Parse(s)
	again, other := resp.Parse(s)
	if e != other || !same(l, again) {
		t.Fatalf("Parse of %s is %s, %v, then %s, %v", tell(s), tell(l), e, tell(again), other)
	}
	switch e {
	case api.OK:
		if got := resp.Print(l...); got != s {
			t.Fatalf("Print of what is read of %s is %s", tell(s), tell(got))
		}
	case api.ErrForm:
		if len(l) > 0 {
			t.Fatalf("beside ErrForm %s is told", tell(l))
		}
	default:
		t.Fatalf("Parse of %s is %v", tell(s), e)
	}
}

func TestManyLines(t *testing.T) {
	t.Parallel()
	const many = 100000
	wantBoth := func(why string, l []api.Line, told string) {
		wantParse(t, why, told, l)
		if got := resp.Print(l...); got != told {
			t.Fatalf("%s: Print is %s", why, tell(got))
		}
	}
	wantBoth("many lines", slices.Repeat(lines(status("a", "OK", "x", atom("A"))), many), times("a OK [A] x"+end, many))
	wantBoth("many values", lines(values(make([]api.Val, many)...)), "*"+times(" NIL", many)+end)
	wantBoth("many values of a list", lines(values(list(slices.Repeat(vals(atom("a")), many)...))), "* ("+times("a ", many-1)+"a)"+end)
	wantBoth("many lists", lines(values(slices.Repeat(vals(list()), many)...)), "*"+times(" ()", many)+end)
	wantBoth("many codes", lines(status("a", "OK", "", make([]api.Val, many)...)), "a OK ["+times("NIL ", many-1)+"NIL] "+end)
	wantBoth("a long text", lines(goOn(times("x", many))), "+ "+times("x", many)+end)
	wantBoth("a long atom, and a long tag", lines(api.Line{Tag: times("t", many), Vals: vals(atom(times("x", many)))}), times("t", many)+" "+times("x", many)+end)
	wantBoth("a long string", lines(values(text(times("\x00", many)))), "* {100000}"+end+times("\x00", many)+end)
}

// A list that lies in itself has no end, but the calls have.
func TestListsThatLieInThemselves(t *testing.T) {
	t.Parallel()
	alone := make([]api.Val, 1)
	alone[0] = list(alone...)
	among := vals(nothing, number(1), nothing, nothing)
	among[2], among[3] = list(among...), section("B", []int{1}, among...)
	a, b := make([]api.Val, 2), make([]api.Val, 2)
	a[0], a[1], b[0], b[1] = list(a...), list(b...), list(b...), list(a...)
	for _, l := range [][]api.Val{alone, among, a, b} {
		for _, line := range []api.Line{values(l...), status("a", "OK", "x", l...), values(resp.List(l...)), values(resp.Section("B", nil, l...))} {
			if resp.Right(line) || resp.Print(line) != "" {
				t.Fatal("a list that lies in itself is right")
			}
		}
		if v := resp.List(l...); v.Kind != api.ValList || len(v.Kids) != len(l) || &v.Kids[0] == &l[0] {
			t.Fatal("List of one that lies in itself is another one")
		}
		if v := resp.Section("B", []int{2}, l...); v.Kind != api.ValSection || v.Text != "B" || len(v.Kids) != len(l) || len(v.From) != 1 {
			t.Fatal("Section of one that lies in itself is another one")
		}
	}
}

// A value of as many lists within one another as a program may be given stays as it is.
func TestListsFarWithinOneAnother(t *testing.T) {
	t.Parallel()
	const deep = 1<<16 - 1
	v := number(7)
	for range deep {
		v = list(v)
	}
	got := resp.List(v)
	for n := range deep + 1 {
		if got.Kind != api.ValList || len(got.Kids) != 1 || n > 0 && &got.Kids[0] == &v.Kids[0] {
			t.Fatalf("list %d is %d values of kind %d, perhaps another one's", n, len(got.Kids), got.Kind)
		}
		if n > 0 {
			v = v.Kids[0]
		}
		got = got.Kids[0]
	}
	if !same(got, number(7)) {
		t.Fatalf("within them all is %s", tell(got))
	}
}

// each goes through all lists of a value, and the lists in them.
func each(v reflect.Value, do func(list reflect.Value)) {
	switch v.Kind() {
	case reflect.Slice:
		do(v)
		for i := range v.Len() {
			each(v.Index(i), do)
		}
	case reflect.Struct:
		for i := range v.NumField() {
			each(v.Field(i), do)
		}
	}
}

// spoil writes all over a value's lists, as far as they go.
func spoil(v any) {
	var lists []reflect.Value
	each(reflect.ValueOf(v), func(list reflect.Value) { lists = append(lists, list.Slice(0, list.Cap())) })
	for _, list := range lists {
		for i := range list.Len() {
			list.Index(i).SetZero()
		}
	}
}

// places are where a value's lists lie. No two of them lie at one place.
func places(t *testing.T, v any) map[uintptr]bool {
	t.Helper()
	all := map[uintptr]bool{}
	each(reflect.ValueOf(v), func(list reflect.Value) {
		if list.Cap() == 0 {
			return
		}
		if all[list.Pointer()] {
			t.Fatalf("of %s two lists lie at one place", tell(v))
		}
		all[list.Pointer()] = true
	})
	return all
}

// rich are values with lists of all kinds.
func rich() []api.Val {
	return vals(list(list(atom("a"), list(number(1))), section("B", []int{1}, list(nothing))), section("B", []int{2}, section("C", []int{3}, text("x")), list()), atom("x"), nested(number(5), 12))
}

func TestWhatMakersAreHandedStays(t *testing.T) {
	for _, make := range []func(l ...api.Val) api.Val{resp.List, func(l ...api.Val) api.Val { return resp.Section("B", []int{7}, l...) }} {
		roomy := copiesOf(rich())
		v := make(roomy...)
		if !same(roomy, rich()) || !same(v.Kids, rich()) {
			t.Fatalf("of %s became %s, and %s was made", tell(rich()), tell(roomy), tell(v))
		}
		behind := roomy[len(roomy):cap(roomy)]
		if slices.ContainsFunc(behind, func(v api.Val) bool { return !same(v, nothing) }) {
			t.Fatalf("behind what was handed in stands %s", tell(behind))
		}
		spoil(roomy)
		if !same(v.Kids, rich()) {
			t.Fatalf("behind what was handed in and spoilt stands %s", tell(v))
		}
		roomy = copiesOf(rich())
		spoil(make(roomy...))
		if !same(roomy, rich()) {
			t.Fatalf("a value that was spoilt made %s of %s", tell(roomy), tell(rich()))
		}
	}
	from := append([]int{}, 4, 5)[:1]
	v := resp.Section("B", from, nothing)
	from[0] = 9
	if !same(v, section("B", []int{4}, nothing)) {
		t.Fatalf("behind another From stands %s", tell(v))
	}
	v.From = append(v.From, 8)
	v.From[0] = 6
	if from[0] != 9 || from[:2][1] != 5 {
		t.Fatalf("what was made changed From to %v", from[:2])
	}
}

// Of one value that is handed in twice two lists are made, and none of them is the one that was handed in.
func TestNoTwoListsOfAMadeOneAreOne(t *testing.T) {
	shared := list(atom("a"), section("B", []int{1}, list(nothing)))
	before := places(t, shared)
	for _, v := range vals(resp.List(shared, shared, list(shared)), resp.Section("B", nil, shared, list(shared, shared))) {
		for place := range places(t, v) {
			if before[place] {
				t.Fatalf("of %s a list is what was handed in", tell(v))
			}
		}
	}
	again := resp.List(shared, shared)
	again.Kids[0].Kids[1].Kids[0] = number(3)
	again.Kids[0].Kids[1].From[0] = 3
	if !same(again.Kids[1], shared) || !same(shared, list(atom("a"), section("B", []int{1}, list(nothing)))) {
		t.Fatalf("one that was changed changed others: %s", tell(again))
	}
}

// everything is lines that have lists of all kinds.
func everything() []api.Line {
	return lines(values(rich()...), status("a", "OK", "x", rich()...), goOn("x"), values(list(rich()...)), status("*", "NO", "[x", section("B", []int{1}, rich()...)))
}

func TestWhatPrintAndRightAreHandedStays(t *testing.T) {
	roomy := copiesOfLines(everything())
	told := resp.Print(roomy...)
	for _, l := range roomy {
		if !resp.Right(l) {
			t.Fatalf("%s is not right", tell(l))
		}
	}
	if !same(roomy, everything()) {
		t.Fatalf("of %s became %s", tell(everything()), tell(roomy))
	}
	each(reflect.ValueOf(roomy), func(list reflect.Value) {
		for i := list.Len(); i < list.Cap(); i++ {
			if !list.Slice(0, list.Cap()).Index(i).IsZero() {
				t.Fatalf("behind a list of %s something was written", tell(roomy))
			}
		}
	})
	spoil(roomy)
	if again := resp.Print(everything()...); again != told {
		t.Fatalf("behind lines that were spoilt is told %s; want %s", tell(again), tell(told))
	}
}

func TestWhatParseHandsOutIsTheCallersOwn(t *testing.T) {
	told := resp.Print(everything()...)
	l, e := resp.Parse(told + told)
	if e != api.OK {
		t.Fatal(e)
	}
	places(t, l)
	spoil(l)
	wantParse(t, "behind lines that were spoilt", told, everything())
	a, _ := resp.Parse(told)
	b, _ := resp.Parse(told)
	spoil(a)
	if !same(b, everything()) {
		t.Fatalf("lines that were spoilt made %s of others", tell(b))
	}
}

// Rule 6: what a call answers hangs on what it is given alone.
func TestAgain(t *testing.T) {
	told := resp.Print(everything()...)
	for _, s := range []string{"* (", told + "x", "", told, "* " + times("(", 40)} {
		first, e := resp.Parse(s)
		resp.Parse("* ((((")
		resp.Print(values(number(-1)))
		again, other := resp.Parse(s)
		if e != other || !same(first, again) {
			t.Fatalf("Parse of %s is %s, %v, then %s, %v", tell(s), tell(first), e, tell(again), other)
		}
	}
	if resp.Print(everything()...) != told {
		t.Fatal("Print tells something else the second time")
	}
}
