package search_test

import (
	"math/rand"
	"slices"
	"sync"
	"testing"

	"haversack/api"
	"haversack/search"
)

// P1, P2, and the rules that hold everywhere.

// P1: long texts, of whatever they are.
func TestLong(t *testing.T) {
	t.Parallel()
	const many = 300000
	for _, s := range []string{"a", " ", "\n", end, ":", "a:", "to:", "to: a" + end, "to:" + end + " ", "=?", "=?utf-8?q?", "=?utf-8?q?a?=", "=?utf-8?q?a?= ", "date: 1", "\x00", "\xff", "<", "1 Jan 1970 "} {
		for _, ahead := range []string{"", "to: ", "date: ", "subject: x" + end, end} {
			p := of(ahead + times(s, many/len(s)))
			for _, word := range allWords {
				k := api.Key{Op: word, Text: "q", Field: "to", Kids: []api.Key{op("TO", s)}}
				if is := match(k, p); is != match(k, p) || is == match(about("NOT", k), p) {
					t.Fatalf("Match of %s and %s is %t, and not the same again", tell(k), tell(p), is)
				}
			}
		}
	}
	if !search.Contains(times("ab", many)+"C", times("Ab", many)+"c") || search.Contains(times("a", many), times("a", many/2)+"b") {
		t.Fatal("long texts")
	}
	if search.Has(flags(times("a", many)), times("a", many)) || search.Has(slices.Repeat(flags("b"), many), "a") || !search.Has(append(slices.Repeat(flags("b"), many), "a"), "a") {
		t.Fatal("long flags, and many")
	}
}

// roomy is a list with room behind it, in which stands what is to stay there.
func roomy(l ...string) []string {
	return append(append(make([]string, 0, len(l)+5), l...), "behind", "it", "nothing", "is", "written")[:len(l)]
}

func TestWhatIsHandedInStays(t *testing.T) {
	all := [][]string{nil, {}, {"b", "a"}, {"a", "b"}, {"b", "b", `\seen`, "a", "", "1"}, append(letters(26), "!"), slices.Repeat(flags("x"), 30)}
	for _, one := range all {
		for _, other := range all {
			for mode := -1; mode <= 3; mode++ {
				l, more := roomy(one...), roomy(other...)
				search.Flags(l...)
				search.Has(l, "a")
				search.Change(l, mode, more...)
				search.Match(op("SEEN", ""), api.Mail{Flags: l}, 1, 1, 1)
				search.Match(op("UNKEYWORD", "a"), api.Mail{Flags: more}, 1, 1, 1)
				if !slices.Equal(l[:cap(l)], roomy(one...)[:cap(l)]) || !slices.Equal(more[:cap(more)], roomy(other...)[:cap(more)]) {
					t.Fatalf("%s and %s became %s and %s", tell(one), tell(other), tell(l[:cap(l)]), tell(more[:cap(more)]))
				}
			}
		}
	}
}

// A key's lists stay, and what stands behind them, too.
func TestKeysStay(t *testing.T) {
	set := append(make([]api.Span, 0, 5), api.Span{From: 5, To: 3}, api.Span{From: 2}, api.Span{From: 1, To: 1})
	kids := append(make([]api.Key, 0, 5), about("NOT", yes, no), api.Key{Op: "SEQ", Set: set}, api.Key{Op: "UID", Set: set[:2]}, op("TO", "a"))
	was := copyOf(about("OR", kids...))
	for _, word := range allWords {
		for n := range 7 {
			match(api.Key{Op: word, Text: "a", Field: "to", N: n, Set: set[:2], Kids: kids[:3]}, rich(letters(n)...))
		}
	}
	if !same(about("OR", kids...), was) || !same(kids[:5][4], api.Key{}) || set[:4][3] != (api.Span{}) {
		t.Fatalf("the kids became %s", tell(kids))
	}
}

// spoilt writes all over a list, as far as it goes.
func spoilt(l []string) {
	l = l[:cap(l)]
	for i := range l {
		l[i] = "spoilt"
	}
}

func TestWhatIsHandedOutIsTheCallersOwn(t *testing.T) {
	for _, one := range [][]string{{}, {"a"}, {"a", "b"}, {`\Seen`, "a"}, letters(20), letters(26)} {
		for mode := -1; mode <= 3; mode++ {
			l, more := slices.Clone(one), slices.Clone(one)
			first := search.Flags(l...)
			changed := search.Change(l, mode, more...)
			none := search.Change(l, mode)
			was, wasChanged, wasNone := slices.Clone(first), slices.Clone(changed), slices.Clone(none)
			spoilt(changed)
			spoilt(none)
			if !slices.Equal(first, was) || !slices.Equal(l, one) || !slices.Equal(more, one) {
				t.Fatalf("%s is spoilt: %s, %s, %s", tell(one), tell(first), tell(l), tell(more))
			}
			spoilt(first)
			if again := search.Change(l, mode, more...); !slices.Equal(again, wasChanged) {
				t.Fatalf("behind one that was spoilt comes %s, not %s", tell(again), tell(wasChanged))
			}
			if again := search.Change(l, mode); !slices.Equal(again, wasNone) {
				t.Fatalf("behind one that was spoilt comes %s, not %s", tell(again), tell(wasNone))
			}
			if again := search.Flags(l...); !slices.Equal(again, was) {
				t.Fatalf("behind one that was spoilt comes %s, not %s", tell(again), tell(was))
			}
		}
	}
}

// What is handed in may be changed behind the call: nothing of it was kept.
func TestNothingIsKept(t *testing.T) {
	l, more := flags("a", "b", `\Seen`), flags("b", "c")
	var all, wanted [][]string
	for mode := -1; mode <= 3; mode++ {
		changed := search.Change(l, mode, more...)
		all, wanted = append(all, changed), append(wanted, slices.Clone(changed))
	}
	kept := search.Flags(l...)
	spoilt(l)
	spoilt(more)
	if !same(all, wanted) || !slices.Equal(kept, flags(`\Seen`, "a", "b")) {
		t.Fatalf("what was told became %s and %s", tell(all), tell(kept))
	}
}

// Rule 6: what a call answers hangs on what it is given alone, not on what was asked ahead, nor on who asks at the same time.
func TestAgain(t *testing.T) {
	t.Parallel()
	r := rand.New(rand.NewSource(169))
	var keys []api.Key
	var places []place
	var wanted []bool
	for range 3000 {
		keys, places = append(keys, keyByChance(r, 3)), append(places, placeByChance(r))
		wanted = append(wanted, match(keys[len(keys)-1], places[len(places)-1]))
	}
	var all sync.WaitGroup
	for turn := range 4 {
		all.Go(func() {
			for i := range keys {
				at := (i*(2*turn+1) + turn) % len(keys)
				if match(keys[at], places[at]) != wanted[at] {
					t.Errorf("Match of %s and %s is not %t again", tell(keys[at]), tell(places[at]), wanted[at])
				}
			}
		})
	}
	all.Wait()
}

// Of lists without members it makes no difference whether they are nil or empty.
func TestEmptyLists(t *testing.T) {
	for mode := -1; mode <= 3; mode++ {
		for _, l := range [][]string{nil, {}} {
			for _, more := range [][]string{nil, {}} {
				if got := search.Change(l, mode, more...); len(got) != 0 {
					t.Fatalf("of none there are %s", tell(got))
				}
				if len(search.Flags(l...)) != 0 || search.Has(l, "") || search.Has(l, "a") {
					t.Fatal("of no flags there are some")
				}
			}
		}
	}
	for _, word := range allWords {
		bare := api.Key{Op: word}
		empty := api.Key{Op: word, Set: []api.Span{}, Kids: []api.Key{}}
		for _, p := range []place{{}, of("to: a"), {Mail: api.Mail{Flags: []string{}}}} {
			if match(bare, p) != match(empty, p) {
				t.Fatalf("%s differs with empty lists", word)
			}
		}
	}
}
