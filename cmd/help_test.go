package cmd_test

import (
	"fmt"
	"math/rand"
	"reflect"
	"slices"
	"strings"
	"testing"

	"haversack/api"
	"haversack/cmd"
)

func times(s string, n int) string { return strings.Repeat(s, n) }

// rawOf is a command of texts and literals, by turns.
func rawOf(all ...string) api.Raw {
	var r api.Raw
	for i, s := range all {
		if i%2 == 0 {
			r.Texts = append(r.Texts, s)
		} else {
			r.Literals = append(r.Literals, s)
		}
	}
	return r
}

// copyOf is a command with lists of its own.
func copyOf(r api.Raw) api.Raw {
	return api.Raw{Texts: slices.Clone(r.Texts), Literals: slices.Clone(r.Literals)}
}

func sameRaw(a, b api.Raw) bool {
	return slices.Equal(a.Texts, b.Texts) && slices.Equal(a.Literals, b.Literals)
}

// tell makes texts short enough to be told.
func tell(v any) string {
	s := fmt.Sprintf("%+v", v)
	if r, is := v.(api.Raw); is {
		s = fmt.Sprintf("%q", r)
	}
	if len(s) > 600 {
		return s[:300] + " .. " + s[len(s)-300:]
	}
	return s
}

// same holds values against each other, a list without members being nil or empty.
func same(a, b any) bool { return sameValue(reflect.ValueOf(a), reflect.ValueOf(b)) }

func sameValue(a, b reflect.Value) bool {
	switch a.Kind() {
	case reflect.Slice:
		if a.Len() != b.Len() {
			return false
		}
		for i := range a.Len() {
			if !sameValue(a.Index(i), b.Index(i)) {
				return false
			}
		}
		return true
	case reflect.Struct:
		for i := range a.NumField() {
			if !sameValue(a.Field(i), b.Field(i)) {
				return false
			}
		}
		return true
	}
	return a.Interface() == b.Interface()
}

// parsed is what Parse tells, which must leave what it is handed as it was.
func parsed(t *testing.T, r api.Raw) (api.Command, api.Errno) {
	t.Helper()
	was := copyOf(r)
	c, e := cmd.Parse(r)
	if !sameRaw(r, was) {
		t.Fatalf("Parse made %s of %s", tell(r), tell(was))
	}
	return c, e
}

// printed is likewise what Print tells. It must have the form of a command.
func printed(t *testing.T, c api.Command) api.Raw {
	t.Helper()
	r := cmd.Print(c)
	if len(r.Texts) != len(r.Literals)+1 {
		t.Fatalf("Print of %s has %d texts and %d literals", tell(c), len(r.Texts), len(r.Literals))
	}
	return r
}

// wantCommand: Parse tells a command, and all that follows from that holds of it.
func wantCommand(t *testing.T, why string, r api.Raw, wanted api.Command) {
	t.Helper()
	wantParse(t, why, r, wanted)
	slow, e := slowParse(r)
	if e != api.OK || !same(slow, wanted) {
		t.Fatalf("%s: the slow reader of %s tells %s, %v", why, tell(r), tell(slow), e)
	}
	wantFollowing(t, why, r, wanted)
}

func wantParse(t *testing.T, why string, r api.Raw, wanted api.Command) {
	t.Helper()
	c, e := parsed(t, r)
	if e != api.OK || !same(c, wanted) {
		t.Fatalf("%s: Parse of %s is %s, %v; want %s", why, tell(r), tell(c), e, tell(wanted))
	}
}

// refused: Parse tells ErrForm, and nothing beside it but a tag.
func refused(t *testing.T, why string, r api.Raw, tag string) {
	t.Helper()
	wantRefused(t, why, r, tag)
	if c, e := slowParse(r); e != api.ErrForm || !same(c, api.Command{Tag: tag}) {
		t.Fatalf("%s: the slow reader of %s tells %s, %v", why, tell(r), tell(c), e)
	}
}

func wantRefused(t *testing.T, why string, r api.Raw, tag string) {
	t.Helper()
	c, e := parsed(t, r)
	if e != api.ErrForm || !same(c, api.Command{Tag: tag}) {
		t.Fatalf("%s: Parse of %s is %s, %v; want the tag %q, %v", why, tell(r), tell(c), e, tag, api.ErrForm)
	}
}

// asSlow holds Parse against the slow reader, and tells whether it is a command.
func asSlow(t *testing.T, r api.Raw) bool {
	t.Helper()
	wanted, e := slowParse(r)
	if e != api.OK {
		wantRefused(t, "as the slow reader", r, wanted.Tag)
		return false
	}
	wantParse(t, "as the slow reader", r, wanted)
	wantFollowing(t, "as the slow reader", r, wanted)
	return true
}

// wantFollowing: P14.4, P14.5 and P14.6, of a command that Parse tells.
func wantFollowing(t *testing.T, why string, r api.Raw, c api.Command) {
	t.Helper()
	again := printed(t, c)
	wantParse(t, why+", printed", again, c)
	if twice := printed(t, c); !sameRaw(twice, again) {
		t.Fatalf("%s: Print tells %s, then %s", why, tell(again), tell(twice))
	}
	for _, letters := range []func(byte) byte{small, great, mixed} {
		wantParse(t, why+", in other letters", recased(again, letters), recasedCommand(c, letters))
	}
	for _, one := range []api.Raw{r, again} {
		if len(one.Literals) == 0 {
			wantRefused(t, why+", with a blank at its end", rawOf(one.Texts[0]+" "), c.Tag)
		}
	}
}

func small(b byte) byte {
	if b >= 'A' && b <= 'Z' {
		return b + 'a' - 'A'
	}
	return b
}

func great(b byte) byte {
	if b >= 'a' && b <= 'z' {
		return b + 'A' - 'a'
	}
	return b
}

func mixed(b byte) byte {
	if b%2 == 0 {
		return great(b)
	}
	return small(b)
}

func inLetters(s string, letters func(byte) byte) string {
	b := []byte(s)
	for i := range b {
		b[i] = letters(b[i])
	}
	return string(b)
}

// recased is a command in other letters, but for its quoted texts and its literals.
func recased(r api.Raw, letters func(byte) byte) api.Raw {
	r = copyOf(r)
	for i, s := range r.Texts {
		b := []byte(s)
		within := false
		for j := 0; j < len(b); j++ {
			switch {
			case b[j] == '"':
				within = !within
			case within && b[j] == '\\':
				j++
			case !within:
				b[j] = letters(b[j])
			}
		}
		r.Texts[i] = string(b)
	}
	return r
}

// recasedCommand has what is no word, and stands in no quoted text, in other letters.
func recasedCommand(c api.Command, letters func(byte) byte) api.Command {
	flags := func(l []string) []string {
		l = slices.Clone(l)
		for i := range l {
			l[i] = inLetters(l[i], letters)
		}
		return l
	}
	c.Tag = inLetters(c.Tag, letters)
	c.Flags = flags(c.Flags)
	c.Letters = slices.Clone(c.Letters)
	for i := range c.Letters {
		c.Letters[i].Flags = flags(c.Letters[i].Flags)
	}
	c.Key = recasedKey(c.Key, letters)
	return c
}

func recasedKey(k api.Key, letters func(byte) byte) api.Key {
	if k.Op == "KEYWORD" || k.Op == "UNKEYWORD" {
		k.Text = inLetters(k.Text, letters)
	}
	k.Kids = slices.Clone(k.Kids)
	for i := range k.Kids {
		k.Kids[i] = recasedKey(k.Kids[i], letters)
	}
	return k
}

// set is spans of numbers, two by two.
func set(ends ...int) []api.Span {
	var l []api.Span
	for i := 0; i < len(ends); i += 2 {
		l = append(l, api.Span{From: ends[i], To: ends[i+1]})
	}
	return l
}

// eachText goes through all texts of some signs, up to so many of them.
func eachText(signs []string, most int, do func(s string)) {
	var longer func(s string, more int)
	longer = func(s string, more int) {
		do(s)
		if more > 0 {
			for _, sign := range signs {
				longer(s+sign, more-1)
			}
		}
	}
	longer("", most)
}

// eachNear goes through a text with each of some bytes at each place as another one, and as one more, with each byte left out, and cut off at each place.
func eachNear(s string, bytes []byte, do func(near string)) {
	for at := range len(s) + 1 {
		do(s[:at])
		do(s[at:])
		for _, b := range bytes {
			one := string([]byte{b})
			do(s[:at] + one + s[at:])
			if at < len(s) {
				do(s[:at] + one + s[at+1:])
			}
		}
		if at < len(s) {
			do(s[:at] + s[at+1:])
		}
	}
}

// allBytes are those from 0 to 255.
func allBytes() []byte {
	var l []byte
	for b := range 256 {
		l = append(l, byte(b))
	}
	return l
}

// chance is a text of some pieces, up to so many.
func chance(r *rand.Rand, most int, pieces ...string) string {
	var s strings.Builder
	for range r.Intn(most + 1) {
		s.WriteString(pieces[r.Intn(len(pieces))])
	}
	return s.String()
}
