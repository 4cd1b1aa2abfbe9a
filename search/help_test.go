package search_test

import (
	"fmt"
	"math"
	"math/rand"
	"reflect"
	"slices"
	"strings"
	"testing"

	"haversack/api"
	"haversack/search"
)

const end = "\r\n"

func times(s string, n int) string { return strings.Repeat(s, n) }

// tell makes what is told of a fault short enough.
func tell(v any) string {
	s := fmt.Sprintf("%+v", v)
	switch v := v.(type) {
	case string:
		s = fmt.Sprintf("%q", v)
	case []string:
		s = fmt.Sprintf("%q", v)
	}
	if len(s) > 600 {
		return s[:300] + " .. " + s[len(s)-300:]
	}
	return s
}

// edges are numbers at which something may change.
var edges = []int{math.MinInt, -1 << 32, -2, -1, 0, 1, 2, 19, 20, 21, 30, api.MaxNumber, 1 << 32, math.MaxInt}

// inLetters is a text in small letters, in great ones, and in mixed ones.
func inLetters(s string) []string {
	mixed := []byte(strings.ToLower(s))
	for i := range mixed {
		if i%2 == 0 {
			mixed[i] = strings.ToUpper(s)[i]
		}
	}
	return []string{strings.ToLower(s), strings.ToUpper(s), string(mixed)}
}

// flags is a list.
func flags(l ...string) []string { return l }

// letters are flags "a", "b" and on, so many.
func letters(n int) []string {
	var l []string
	for i := range n {
		l = append(l, string(rune('a'+i)))
	}
	return l
}

// wantFlags: flags are kept so, and all that follows holds.
func wantFlags(t *testing.T, why string, l []string, wanted ...string) {
	t.Helper()
	was := slices.Clone(l)
	got := search.Flags(l...)
	if !slices.Equal(got, wanted) || !slices.Equal(slowFlags(l), wanted) {
		t.Fatalf("%s: Flags of %s is %s, the slow ones %s; want %s", why, tell(l), tell(got), tell(slowFlags(l)), tell(wanted))
	}
	if !slices.Equal(l, was) {
		t.Fatalf("%s: Flags made %s of %s", why, tell(l), tell(was))
	}
	if again := search.Flags(got...); !slices.Equal(again, wanted) {
		t.Fatalf("%s: Flags of Flags of %s is %s, not %s", why, tell(l), tell(again), tell(wanted))
	}
	for _, flag := range wanted {
		wantHas(t, why, l, flag, true)
	}
}

// wantKept: a flag alone, and among others, is kept so.
func wantKept(t *testing.T, why, flag, wanted string) {
	t.Helper()
	wantFlags(t, why, flags(flag), wanted)
	wantFlags(t, why+", twice", flags(flag, flag), wanted)
	wantFlags(t, why+", behind none", flags("", `\`, flag, "nil", "1"), wanted)
	others := flags("~", wanted, "!")
	slices.Sort(others)
	wantFlags(t, why+", among others", flags("~", flag, "!"), slices.Compact(others)...)
	wantHas(t, why, flags("~", flag), flag, true)
	wantHas(t, why, flags("~", wanted), flag, true)
	wantHas(t, why, flags("~!", "!~"), flag, false)
}

// wantPassed: a flag is passed over, wherever it stands.
func wantPassed(t *testing.T, why, flag string) {
	t.Helper()
	wantFlags(t, why, flags(flag))
	wantFlags(t, why+", among others", flags("~", flag, "!", flag), "!", "~")
	wantHas(t, why, flags(flag), flag, false)
	wantHas(t, why, flags(flag), "~", false)
	wantHas(t, why, flags("~"), flag, false)
	wantHas(t, why, flags(flag, "~"), "~", true)
}

func wantHas(t *testing.T, why string, l []string, flag string, wanted bool) {
	t.Helper()
	if got := search.Has(l, flag); got != wanted || slowHas(l, flag) != wanted {
		t.Fatalf("%s: Has of %s and %s is %t, the slow one %t", why, tell(l), tell(flag), got, slowHas(l, flag))
	}
}

func wantChange(t *testing.T, why string, l []string, mode int, more []string, wanted ...string) {
	t.Helper()
	was, wasMore := slices.Clone(l), slices.Clone(more)
	got := search.Change(l, mode, more...)
	if slow := slowChange(l, mode, more); !slices.Equal(got, wanted) || !slices.Equal(slow, wanted) {
		t.Fatalf("%s: Change of %s, %d, %s is %s, the slow one %s; want %s", why, tell(l), mode, tell(more), tell(got), tell(slow), tell(wanted))
	}
	if !slices.Equal(l, was) || !slices.Equal(more, wasMore) {
		t.Fatalf("%s: Change made %s and %s of %s and %s", why, tell(l), tell(more), tell(was), tell(wasMore))
	}
}

func wantContains(t *testing.T, s, part string, wanted bool) {
	t.Helper()
	if got := search.Contains(s, part); got != wanted || slowContains(s, part) != wanted {
		t.Fatalf("Contains of %s and %s is %t, the slow one %t", tell(s), tell(part), got, slowContains(s, part))
	}
}

// place is a message where it lies.
type place struct {
	api.Mail
	seq, most, mostUID int
}

// of is a message with a text.
func of(text string) place { return place{api.Mail{UID: 1, Text: text}, 1, 1, 1} }

// flagged is a message with flags.
func flagged(l ...string) place { return place{api.Mail{UID: 1, Flags: l}, 1, 1, 1} }

// op is a key with a word and a text.
func op(word, text string) api.Key { return api.Key{Op: word, Text: text} }

// counted is a key with a number.
func counted(word string, n int) api.Key { return api.Key{Op: word, N: n} }

// within is a key of a header's field.
func within(field, text string) api.Key { return api.Key{Op: "HEADER", Field: field, Text: text} }

// about is a key that is about others.
func about(word string, kids ...api.Key) api.Key { return api.Key{Op: word, Kids: kids} }

// ranged is a key with spans of numbers, two by two.
func ranged(word string, ends ...int) api.Key {
	k := api.Key{Op: word}
	for i := 0; i < len(ends); i += 2 {
		k.Set = append(k.Set, api.Span{From: ends[i], To: ends[i+1]})
	}
	return k
}

// yes and no are keys that match each message, and none.
var yes, no = op("ALL", ""), op("FROB", "")

func match(k api.Key, p place) bool { return search.Match(k, p.Mail, p.seq, p.most, p.mostUID) }

// wantMatch: a key matches, or it does not; and so does all that follows.
func wantMatch(t *testing.T, why string, k api.Key, p place, wanted bool) {
	t.Helper()
	wantOne(t, why, k, p, wanted)
	wantOne(t, why+", not", about("NOT", k), p, !wanted)
	wantOne(t, why+", not not", about("NOT", about("NOT", k)), p, wanted)
	wantOne(t, why+", among", about("OR", no, k, no), p, wanted)
	wantOne(t, why+", with", about("AND", yes, k, yes), p, wanted)
}

func wantOne(t *testing.T, why string, k api.Key, p place, wanted bool) {
	t.Helper()
	wasKey, was := copyOf(k), copyOfPlace(p)
	if got, slow := match(k, p), slowMatch(k, p); got != wanted || slow != wanted {
		t.Fatalf("%s: Match of %s and %s is %t, the slow one %t", why, tell(k), tell(p), got, slow)
	}
	if !same(k, wasKey) || !same(p.Mail, was.Mail) {
		t.Fatalf("%s: Match made %s and %s of %s and %s", why, tell(k), tell(p), tell(wasKey), tell(was))
	}
}

// copyOf is a key with lists of its own.
func copyOf(k api.Key) api.Key {
	k.Set, k.Kids = slices.Clone(k.Set), slices.Clone(k.Kids)
	for i := range k.Kids {
		k.Kids[i] = copyOf(k.Kids[i])
	}
	return k
}

func copyOfPlace(p place) place {
	p.Flags = slices.Clone(p.Flags)
	return p
}

func same(a, b any) bool { return reflect.DeepEqual(a, b) }

// eachText goes through all texts of some signs, up to so many of them.
func eachText(signs []string, most int, do func(s string)) {
	var longer func(s string, more int)
	longer = func(s string, more int) {
		do(s)
		if more > 0 {
			for _, sign := range signs {
				longer(s+sign, more-1)
			}
		}
	}
	longer("", most)
}

// chance is a text of some pieces, up to so many.
func chance(r *rand.Rand, most int, pieces ...string) string {
	var s strings.Builder
	for range r.Intn(most + 1) {
		s.WriteString(pieces[r.Intn(len(pieces))])
	}
	return s.String()
}

func one[T any](r *rand.Rand, l ...T) T { return l[r.Intn(len(l))] }

// some are up to so many of a list, in whatever order, some twice.
func some[T any](r *rand.Rand, most int, l ...T) []T {
	var all []T
	for range r.Intn(most + 1) {
		all = append(all, one(r, l...))
	}
	return all
}
