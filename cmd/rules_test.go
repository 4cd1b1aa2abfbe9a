package cmd_test

import (
	"reflect"
	"slices"
	"testing"

	"haversack/api"
	"haversack/cmd"
)

// P1, P2, and the rules that hold everywhere.

// What Parse tells beside ErrForm hangs on the tag alone.
func TestParseOfNone(t *testing.T) {
	for _, r := range []api.Raw{{}, {Texts: []string{}, Literals: []string{}}, {Literals: []string{""}}, {Literals: []string{"a ", "b"}}, rawOf(""), rawOf(" "), rawOf("(")} {
		refused(t, "none", r, "")
	}
	for _, r := range []api.Raw{rawOf("a"), rawOf("a "), rawOf("a  "), rawOf("a frob"), rawOf("a select &"), rawOf("a uid fetch 1 (flags"), rawOf("a search not"), rawOf("a append b (x) ", "x", "y"), rawOf("a status b (size)x")} {
		refused(t, "with a tag", r, "a")
	}
	for _, r := range []api.Raw{rawOf("+ ok"), rawOf("* noop"), rawOf("a+ noop"), rawOf("a\tnoop"), rawOf("\"a\" noop"), rawOf("a(noop)")} {
		refused(t, "without a tag", r, "")
	}
}

// P1: long texts and many of them.
func TestLong(t *testing.T) {
	t.Parallel()
	const many = 100000
	for _, s := range []string{"a", "a ", " ", "\x00", "a LOGIN ", "a SEARCH NOT ", "(", `"`, `\`, "1,", "."} {
		wantLong(t, times(s, many/len(s)))
	}
	for _, ahead := range []string{"a LOGIN u ", `a LOGIN u "`, "a SELECT ", `a LIST "" `, "a STORE 1 FLAGS ", "a STORE 1 FLAGS (", "a FETCH 1 (", "a FETCH 1 BODY[", "a FETCH 1 BODY[HEADER.FIELDS (", "a SEARCH ", "a SEARCH LARGER ", "a FETCH ", "a STATUS b (", "a APPEND b "} {
		for _, s := range []string{"a", " ", "a ", "(", "((", ")", `"`, `\"`, `\\`, "1", "1,", "1.", "NOT ", "OR 1 ", "*", "&", "&-", "/", "UID ", "SIZE ", `"" `, "[", "<"} {
			wantLong(t, ahead+times(s, many/len(s)))
		}
	}
	long := times("x", many)
	wantParse(t, "a long literal", rawOf("a LOGIN ", long, " "+long), login(long, long))
	wantParse(t, "a long quoted text", rawOf(`a LOGIN "`+long+`" "`+times(`\"`, many)+`"`), login(long, times(`"`, many)))
	wantParse(t, "a long name", rawOf("a SELECT "+times("&-", many)), api.Command{Tag: "a", Name: "SELECT", Words: []string{times("&", many)}})
	flags := storing(0, false, slices.Repeat([]string{`\x`}, many)...)
	wantParse(t, "many flags", rawOf("a STORE 1 FLAGS "+`\x`+times(` \x`, many-1)), flags)
	wantParse(t, "many flags, printed", printed(t, flags), flags)
	all := append([]string{"a APPEND b "}, slices.Repeat([]string{"x", " "}, many)...)
	all[len(all)-1] = ""
	letters := appending("b", slices.Repeat([]api.Letter{{Text: "x"}}, many)...)
	wantParse(t, "many letters", rawOf(all...), letters)
	wantParse(t, "many letters, printed", printed(t, letters), letters)
	all[len(all)-1] = " "
	wantRefused(t, "many letters, and a blank", rawOf(all...), "a")
}

// wantLong: Parse ends, and tells the same again.
func wantLong(t *testing.T, s string) {
	t.Helper()
	c, e := parsed(t, rawOf(s))
	if again, same := parsed(t, rawOf(s)); same != e || !reflect.DeepEqual(c, again) {
		t.Fatalf("Parse of %s is %v, then %v", tell(s), e, same)
	}
	if e == api.OK {
		wantParse(t, "a long one, printed", printed(t, c), c)
	}
}

// each goes through all lists of a value, and the lists in them.
func each(v reflect.Value, do func(list reflect.Value)) {
	switch v.Kind() {
	case reflect.Slice:
		do(v)
		for i := range v.Len() {
			each(v.Index(i), do)
		}
	case reflect.Struct:
		for i := range v.NumField() {
			each(v.Field(i), do)
		}
	}
}

// spoil writes all over a value's lists, as far as they go.
func spoil(v any) {
	var lists []reflect.Value
	each(reflect.ValueOf(v), func(list reflect.Value) { lists = append(lists, list.Slice(0, list.Cap())) })
	for _, list := range lists {
		for i := range list.Len() {
			list.Index(i).SetZero()
		}
	}
}

// everything is commands that have lists of all kinds.
func everything(t *testing.T) []api.Raw {
	t.Helper()
	l := []api.Raw{
		rawOf("a search ((1:2,3 (uid 4,5)) or 6 7) not 8"),
		rawOf("a fetch 1,2,3 (body[1.2.3.header.fields (a b c)] body[1.2.3.header.fields (a b c)])"),
		rawOf(`a append b (x y z) "17-Jul-1996 02:44:25 -0700" `, "l", ` (x y z) "17-Jul-1996 02:44:25 -0700" `, "l", ""),
	}
	for _, one := range prints {
		l = append(l, one.came)
	}
	for _, r := range l {
		if _, e := cmd.Parse(r); e != api.OK {
			t.Fatalf("Parse of %s: %v", tell(r), e)
		}
	}
	return l
}

func TestWhatIsHandedInStays(t *testing.T) {
	for _, r := range everything(t) {
		was := copyOf(r)
		roomy := api.Raw{Texts: slices.Grow(copyOf(r).Texts, 20), Literals: slices.Grow(copyOf(r).Literals, 20)}
		c, _ := cmd.Parse(roomy)
		behind := slices.Concat(roomy.Texts[len(was.Texts):cap(roomy.Texts)], roomy.Literals[len(was.Literals):cap(roomy.Literals)])
		if !sameRaw(roomy, was) || slices.ContainsFunc(behind, func(s string) bool { return s != "" }) {
			t.Fatalf("Parse made %s of %s, behind it %q", tell(roomy), tell(was), behind)
		}
		clear(roomy.Texts)
		clear(roomy.Literals)
		again, _ := cmd.Parse(was)
		if !same(c, again) {
			t.Fatalf("behind what was handed in %s became %s", tell(again), tell(c))
		}
		cmd.Print(c)
		if !same(c, again) {
			t.Fatalf("Print made %s of %s", tell(c), tell(again))
		}
	}
}

func TestWhatIsHandedOutIsTheCallersOwn(t *testing.T) {
	for _, r := range everything(t) {
		c, _ := cmd.Parse(r)
		was := copyOf(r)
		wanted := printed(t, c)
		text := printed(t, c)
		spoil(text)
		if got := printed(t, c); !sameRaw(got, wanted) {
			t.Fatalf("behind a Print that was spoilt comes %s; want %s", tell(got), tell(wanted))
		}
		again, _ := cmd.Parse(r)
		spoil(c)
		if !sameRaw(r, was) {
			t.Fatalf("a command that was spoilt made %s of %s", tell(r), tell(was))
		}
		wantParse(t, "behind one that was spoilt", r, again)
	}
}

// No two lists of one answer are one: what is written behind one of them, or into it, stands in no other one.
func TestNoTwoListsAreOne(t *testing.T) {
	for _, r := range everything(t) {
		c, _ := cmd.Parse(r)
		places := map[uintptr]bool{}
		each(reflect.ValueOf(c), func(list reflect.Value) {
			if list.Cap() == 0 {
				return
			}
			if places[list.Pointer()] {
				t.Fatalf("of %s two lists lie at one place", tell(r))
			}
			places[list.Pointer()] = true
		})
		text := cmd.Print(c)
		if len(text.Literals) > 0 && &text.Texts[0] == &text.Literals[0] {
			t.Fatalf("of Print of %s two lists lie at one place", tell(c))
		}
	}
}

// Rule 6: what a call answers hangs on what it is given alone.
func TestAgain(t *testing.T) {
	all := everything(t)
	var first []api.Command
	for _, r := range all {
		c, _ := cmd.Parse(r)
		first = append(first, c)
	}
	slices.Reverse(all)
	slices.Reverse(first)
	for i, r := range all {
		if c, _ := cmd.Parse(r); !same(c, first[i]) {
			t.Fatalf("Parse of %s is %s, then %s", tell(r), tell(first[i]), tell(c))
		}
	}
}
