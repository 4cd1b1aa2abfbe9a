package view_test

import (
	"math"
	"math/rand"
	"slices"
	"testing"

	"haversack/api"
	"haversack/view"
)

// P18.4: Follow.

func TestFollow(t *testing.T) {
	three := numbers(4, 6, 9)
	for _, c := range []struct {
		why         string
		uids, fresh []int
		l           []api.Told
		wanted      []int
		ok          bool
	}{
		{"nothing is told", three, numbers(10), nil, three, true},
		{"nothing of none", nil, nil, nil, nil, true},
		{"the first one gone", three, nil, told(gone(1)), numbers(6, 9), true},
		{"the second one gone", three, nil, told(gone(2)), numbers(4, 9), true},
		{"the last one gone", three, nil, told(gone(3)), numbers(4, 6), true},
		{"one more gone", three, nil, told(gone(4)), three, false},
		{"place 0 gone", three, nil, told(gone(0)), three, false},
		{"below gone", three, nil, told(gone(-1)), three, false},
		{"far below gone", three, nil, told(gone(math.MinInt)), three, false},
		{"far above gone", three, nil, told(gone(math.MaxInt)), three, false},
		{"by its UID", three, nil, told(gone(6)), three, false},
		{"all gone, from the last one", three, nil, told(gone(3), gone(2), gone(1)), nil, true},
		{"all gone, from the first one", three, nil, told(gone(1), gone(1), gone(1)), nil, true},
		{"one too many gone", three, nil, told(gone(1), gone(1), gone(1), gone(1)), nil, false},
		{"gone of none", nil, nil, told(gone(1)), nil, false},
		{"places move", three, nil, told(gone(1), gone(2), gone(2)), numbers(6), false},
		{"as many as there are", three, numbers(10), told(exists(3)), three, true},
		{"as many as there are, nothing fresh", three, nil, told(exists(3)), three, true},
		{"none of none", nil, nil, told(exists(0)), nil, true},
		{"fewer", three, numbers(10), told(exists(2)), three, false},
		{"0 there are", three, numbers(10), told(exists(0)), three, false},
		{"below 0", three, numbers(10), told(exists(-1)), three, false},
		{"below 0 of none", nil, nil, told(exists(-1)), nil, false},
		{"far below", three, numbers(10), told(exists(math.MinInt)), three, false},
		{"far below, nothing fresh", three, nil, told(exists(math.MinInt)), three, false},
		{"far below of none", nil, numbers(1), told(exists(math.MinInt)), nil, false},
		{"one more", three, numbers(10, 12), told(exists(4)), numbers(4, 6, 9, 10), true},
		{"just enough", three, numbers(10, 12), told(exists(5)), numbers(4, 6, 9, 10, 12), true},
		{"too few fresh", three, numbers(10, 12), told(exists(6)), three, false},
		{"nothing fresh", three, nil, told(exists(4)), three, false},
		{"far above", three, numbers(10, 12), told(exists(math.MaxInt)), three, false},
		{"far above of none", nil, nil, told(exists(math.MaxInt)), nil, false},
		{"the first ones", nil, numbers(1, 2, 3), told(exists(2)), numbers(1, 2), true},
		{"by and by", three, numbers(10, 12, 13), told(exists(4), exists(4), exists(6)), numbers(4, 6, 9, 10, 12, 13), true},
		{"by and by, one too many", three, numbers(10, 12), told(exists(4), exists(6)), numbers(4, 6, 9, 10), false},
		{"fewer behind more", three, numbers(10, 12), told(exists(5), exists(4)), numbers(4, 6, 9, 10, 12), false},
		{"some gone, others come", three, numbers(10, 12), told(gone(3), gone(1), exists(3)), numbers(6, 10, 12), true},
		{"a new one gone", three, numbers(10, 12), told(exists(4), gone(4), exists(4)), numbers(4, 6, 9, 12), true},
		{"flags of the first one", three, nil, told(flagged(1, "a")), three, true},
		{"flags of the last one", three, nil, told(flagged(3)), three, true},
		{"flags of one more", three, nil, told(flagged(4, "a")), three, false},
		{"flags of 0", three, nil, told(flagged(0)), three, false},
		{"flags of one below", three, nil, told(flagged(-1)), three, false},
		{"flags of one far below", three, nil, told(flagged(math.MinInt)), three, false},
		{"flags of one far above", three, nil, told(flagged(math.MaxInt)), three, false},
		{"flags of none", nil, numbers(1), told(flagged(1)), nil, false},
		{"flags of a new one", three, numbers(10), told(exists(4), flagged(4)), numbers(4, 6, 9, 10), true},
		{"flags of one that was gone", three, nil, told(gone(1), flagged(3)), numbers(6, 9), false},
		{"nothing", three, nil, told(api.Told{}), three, false},
		{"another kind", three, numbers(10), told(api.Told{Kind: 4, N: 1}), three, false},
		{"one below", three, numbers(10), told(api.Told{Kind: -1, N: 3}), three, false},
		{"up to there", three, numbers(10), told(gone(2), exists(3), gone(9), gone(1)), numbers(4, 9, 10), false},
		{"up to another kind", three, numbers(10), told(gone(2), api.Told{N: 1}, gone(1)), numbers(4, 9), false},
		{"up to too many", three, numbers(10), told(flagged(3), gone(1), exists(4), exists(3)), numbers(6, 9), false},
		{"the chapter's example", numbers(1, 2, 3), numbers(5), told(gone(2), exists(3)), numbers(1, 3, 5), true},
		{"fresh ones that are known", three, numbers(6, 4, 4), told(exists(6)), numbers(4, 6, 9, 6, 4, 4), true},
		{"fresh ones that are none", three, numbers(0, -1), told(exists(5)), numbers(4, 6, 9, 0, -1), true},
		{"UIDs that fall", numbers(9, 9, 0, -3), numbers(2), told(gone(2), exists(4)), numbers(9, 0, -3, 2), true},
		{"flags beside other kinds", three, numbers(10), told(api.Told{Kind: api.ToldExpunge, N: 1, Flags: letters(2)}, api.Told{Kind: api.ToldExists, N: 3, Flags: letters(2)}), numbers(6, 9, 10), true},
	} {
		wantFollow(t, c.why, c.uids, c.fresh, c.l, c.wanted, c.ok)
	}
}

// Of each other kind there is nothing to be made.
func TestFollowKinds(t *testing.T) {
	for _, kind := range append(slices.Clone(edges), 7, 8, 100) {
		known := kind == api.ToldExpunge || kind == api.ToldExists || kind == api.ToldFlags
		uids, ok := view.Follow(numbers(5), nil, api.Told{Kind: kind, N: 1})
		if ok != known || len(uids) != 1 && kind != api.ToldExpunge {
			t.Fatalf("of kind %d is made %s, %t", kind, tell(uids), ok)
		}
	}
}

// Each kind at each place, of up to three UIDs and up to three fresh ones.
func TestFollowEach(t *testing.T) {
	for have := range 4 {
		for more := range 4 {
			uids, fresh := numbered(11, 10+have), numbered(21, 20+more)
			for _, n := range append(numbered(-2, 8), edges...) {
				there := n >= 1 && n <= have
				wanted := slices.Clone(uids)
				if there {
					wanted = slices.Concat(uids[:n-1], uids[n:])
				}
				wantFollow(t, "gone", uids, fresh, told(gone(n)), wanted, there)
				wantFollow(t, "flags", uids, fresh, told(flagged(n)), uids, there)
				wanted, goes := uids, n >= have && n <= have+more
				if goes {
					wanted = slices.Concat(uids, fresh[:n-have])
				}
				wantFollow(t, "exists", uids, fresh, told(exists(n)), wanted, goes)
			}
		}
	}
}

// By chance, against the slow one.
func TestFollowByChance(t *testing.T) {
	r := rand.New(rand.NewSource(181))
	for range 30000 {
		uids, fresh := some(r, 5, numbered(-1, 9)...), some(r, 5, numbered(-1, 9)...)
		var l []api.Told
		for range r.Intn(6) {
			l = append(l, api.Told{Kind: one(r, 1, 1, 2, 2, 3, 3, 0, 4), N: one(r, 1, 2, 3, 4, 5, 6, 7, 0, -1)})
		}
		wanted, ok := slowFollow(uids, fresh, l)
		wantFollow(t, "by chance", uids, fresh, l, wanted, ok)
	}
}
