package search_test

import (
	"math/rand"
	"slices"
	"testing"

	"haversack/api"
	"haversack/search"
)

// What follows. P16.4 is held, too, of all keys that wantMatch is asked for, and P16.5's first half of all flags that wantFlags is asked for.

// P16.4.
func TestNotOfOthers(t *testing.T) {
	r := rand.New(rand.NewSource(164))
	for range 20000 {
		p := placeByChance(r)
		k := keyByChance(r, 3)
		is := match(k, p)
		if match(about("NOT", about("NOT", k)), p) != is {
			t.Fatalf("NOT of NOT of %s, of %s, is not %t", tell(k), tell(p), is)
		}
		var kids, others []api.Key
		for range 1 + r.Intn(4) {
			kid := keyByChance(r, 2)
			kids, others = append(kids, kid), append(others, about("NOT", kid))
		}
		wantOne(t, "NOT of OR", about("NOT", about("OR", kids...)), p, match(about("AND", others...), p))
		wantOne(t, "NOT of AND", about("NOT", about("AND", kids...)), p, match(about("OR", others...), p))
	}
}

// P16.5: Flags of Flags is Flags.
func TestFlagsOfFlags(t *testing.T) {
	r := rand.New(rand.NewSource(165))
	for range 20000 {
		kept := search.Flags(some(r, one(r, 3, 30, 60), someFlags...)...)
		if again := search.Flags(kept...); !slices.Equal(again, kept) {
			t.Fatalf("Flags of %s is %s", tell(kept), tell(again))
		}
		for mode := -1; mode <= 3; mode++ {
			changed := search.Change(kept, mode, some(r, 30, someFlags...)...)
			if again := search.Flags(changed...); !slices.Equal(again, changed) {
				t.Fatalf("Flags of the changed %s is %s", tell(changed), tell(again))
			}
		}
	}
}

// P16.5: what is put to flags is there (where there is room for it), and what is taken is not.
func TestFlagsThatArePutAndTaken(t *testing.T) {
	r := rand.New(rand.NewSource(166))
	for range 20000 {
		l, more := some(r, one(r, 5, 10, 60), someFlags...), some(r, one(r, 1, 5, 60), someFlags...)
		put, taken := search.Change(l, 1, more...), search.Change(l, 2, more...)
		set := search.Change(l, 0, more...)
		for _, flag := range more {
			kept := len(search.Flags(flag)) == 1
			if len(put) < 20 && search.Has(put, flag) != kept || len(set) < 20 && search.Has(set, flag) != kept {
				t.Fatalf("%s is put to %s, which are %s, and %s alone", tell(flag), tell(l), tell(put), tell(set))
			}
			if search.Has(taken, flag) {
				t.Fatalf("%s is taken from %s, which are %s", tell(flag), tell(l), tell(taken))
			}
		}
		for _, flag := range search.Flags(l...) {
			if len(put) < 20 && !search.Has(put, flag) {
				t.Fatalf("with %s put to %s there are %s", tell(more), tell(l), tell(put))
			}
			if search.Has(taken, flag) == slices.ContainsFunc(more, func(s string) bool { return search.Has(flags(s), flag) }) {
				t.Fatalf("with %s taken from %s there are %s", tell(more), tell(l), tell(taken))
			}
		}
		if back := search.Change(put, 2, more...); len(put) < 20 && !slices.Equal(back, taken) {
			t.Fatalf("put and taken again %s are %s, not %s", tell(more), tell(back), tell(taken))
		}
	}
}

// P16.6: a message is in just one of BEFORE, ON, and SINCE without ON, of one day.
func TestOneOfThreeDays(t *testing.T) {
	r := rand.New(rand.NewSource(167))
	for range 20000 {
		p := placeByChance(r)
		n := one(r, -1, 0, 1, 5, 10, 11, 12, 14, r.Intn(400)-30, one(r, edges...))
		wantParted(t, p, n, "", true)
		wantParted(t, p, n, "SENT", match(counted("SENTSINCE", -1000000), p))
	}
	for _, d := range append([]api.Date{{}, {Year: 3, Month: 2, Day: 30}, {Year: -5}}, someDays...) {
		for _, n := range edges {
			wantParted(t, place{api.Mail{Date: d}, 1, 1, 1}, n, "", true)
		}
	}
}

// wantParted: a message is in just one of the three, or, if it has no such day, in none.
func wantParted(t *testing.T, p place, n int, ahead string, has bool) {
	t.Helper()
	in := 0
	for _, k := range []api.Key{
		counted(ahead+"BEFORE", n),
		counted(ahead+"ON", n),
		about("AND", counted(ahead+"SINCE", n), about("NOT", counted(ahead+"ON", n))),
	} {
		if match(k, p) {
			in++
		}
	}
	if in != 1 && has || in != 0 && !has {
		t.Fatalf("%s is in %d of the three about %s%d", tell(p), in, ahead, n)
	}
}

// P16.6: a text that contains another one contains each part of that.
func TestContainsParts(t *testing.T) {
	r := rand.New(rand.NewSource(168))
	for range 5000 {
		s := chance(r, 20, "a", "A", "b", "é", end)
		part := chance(r, 5, "a", "A", "b", "B", "é", end)
		if len(s) > 0 && r.Intn(2) == 0 {
			from := r.Intn(len(s))
			part = s[from : from+r.Intn(len(s)-from+1)]
		}
		if !search.Contains(s, part) {
			continue
		}
		for from := range len(part) + 1 {
			for to := from; to <= len(part); to++ {
				wantContains(t, s, part[from:to], true)
			}
		}
	}
}
