package view_test

import (
	"math"
	"slices"
	"testing"

	"haversack/api"
	"haversack/view"
)

// P18.1: New, the looks and Copy.

// lists are messages' UIDs as they may come, and those of them that are a mailbox's.
var lists = []struct {
	why       string
	uids, are []int
}{
	{"none", nil, nil},
	{"one", numbers(1), numbers(1)},
	{"a great one", numbers(math.MaxInt), numbers(math.MaxInt)},
	{"two", numbers(1, 2), numbers(1, 2)},
	{"two apart", numbers(3, 7), numbers(3, 7)},
	{"far apart", numbers(1, api.MaxNumber, 1<<40, math.MaxInt), numbers(1, api.MaxNumber, 1<<40, math.MaxInt)},
	{"0 alone", numbers(0), nil},
	{"below 0", numbers(-1, math.MinInt), nil},
	{"0 ahead", numbers(0, 1, 2), numbers(1, 2)},
	{"below 0 ahead", numbers(-5, -4, 1), numbers(1)},
	{"below 0 within", numbers(1, -4, 2, math.MinInt, 3), numbers(1, 2, 3)},
	{"0 at the end", numbers(1, 2, 0), numbers(1, 2)},
	{"twice", numbers(2, 2), numbers(2)},
	{"twice each", numbers(1, 1, 2, 2, 3, 3), numbers(1, 2, 3)},
	{"one that comes twice later", numbers(1, 2, 3, 1, 3, 4), numbers(1, 2, 3, 4)},
	{"falling", numbers(3, 2, 1), numbers(3)},
	{"falling, and up again", numbers(3, 1, 2, 4), numbers(3, 4)},
	{"above the one ahead, not above all", numbers(1, 5, 2, 3, 4, 5, 6), numbers(1, 5, 6)},
	{"the greatest ahead", numbers(math.MaxInt, 1, 2), numbers(math.MaxInt)},
}

func TestNew(t *testing.T) {
	for _, l := range lists {
		p := newPlay(t, plain(l.uids...)...)
		wantLooks(t, l.why, p.v, l.are...)
		p.wantSync(l.why+", and the same", false, plain(l.uids...), nil, l.are...)
		p.wantSync(l.why+", and those of it that are a mailbox's", false, plain(l.are...), nil, l.are...)
	}
	wantLooks(t, "many", newPlay(t, plain(numbered(1, api.MaxMails+1)...)...).v, numbered(1, api.MaxMails+1)...)
}

// The flags of New count as told, in whatever letters and order.
func TestNewFlags(t *testing.T) {
	now := box(of(1, "b", `\seen`, "a", "a", `\x`), of(2), of(5, letters(26)...))
	p := newPlay(t, now...)
	p.wantSync("the same", false, now, nil, 1, 2, 5)
	p.wantSync("as they are kept", false, box(of(1, `\Seen`, "a", "b"), of(2, ""), of(5, letters(20)...)), nil, 1, 2, 5)
	p.wantSync("others", false, box(of(1), of(2, "a"), of(5, letters(19)...)), told(flagged(1), flagged(2, "a"), flagged(3, letters(19)...)), 1, 2, 5)
}

// Flags of one that is passed over count for nothing, not even if it has the UID of one ahead.
func TestNewFlagsOfOthers(t *testing.T) {
	p := newPlay(t, of(0, "x"), of(2, "a"), of(2, "b"), of(1, "c"), of(2), of(3, "d"), of(-1))
	p.wantSync("the first one of each counts", false, box(of(2, "a"), of(3, "d")), nil, 2, 3)
	p.wantSync("here, too", false, box(of(2, "a"), of(2, "b"), of(3, "d"), of(3)), nil, 2, 3)
}

func TestMax(t *testing.T) {
	p := newPlay(t, plain(1, 4, 9)...)
	for _, l := range [][]int{{1, 4, 9}, {1, 4}, {1}, {}} {
		p.syncs(false, plain(l...)...)
		most := 0
		if len(l) > 0 {
			most = l[len(l)-1]
		}
		if p.v.Max() != most || p.v.Count() != len(l) {
			t.Fatalf("Max of %s is %d", tell(l), p.v.Max())
		}
	}
	p.wantSync("9 was there", false, plain(1, 4, 9, 10), told(exists(1)), 10)
}

// Copies go on apart, each way.
func TestCopy(t *testing.T) {
	p := newPlay(t, of(1, "a"), of(2), of(4, `\Seen`))
	c := p.fork()
	p.wantSync("the first one", false, box(of(1, "b"), of(5)), told(gone(3), gone(2), exists(2), flagged(1, "b")), 1, 5)
	wantLooks(t, "the copy stays", c.v, 1, 2, 4)
	c.wantSync("nothing was told to the copy", false, box(of(1, "a"), of(2), of(4, `\Seen`)), nil, 1, 2, 4)
	c.wantSync("the copy", false, box(of(2, "x"), of(4, `\Seen`), of(6)), told(gone(1), exists(3), flagged(1, "x")), 2, 4, 6)
	wantLooks(t, "the first one stays", p.v, 1, 5)
	p.wantSync("nothing was told to it", false, box(of(1, "b"), of(5)), nil, 1, 5)
	p.wantSync("6 is new to it", false, box(of(1, "b"), of(5), of(6)), told(exists(3)), 1, 5, 6)
}

// What was noted in one of them is not known to the other.
func TestCopyNotes(t *testing.T) {
	for _, first := range []bool{false, true} {
		p := newPlay(t, of(1), of(2, "a"))
		c := p.fork()
		if first {
			p, c = c, p
		}
		p.notes(1, "x")
		p.notes(2)
		c.wantSync("not noted", false, box(of(1), of(2, "a")), nil, 1, 2)
		p.wantSync("noted", false, box(of(1, "x"), of(2)), nil, 1, 2)
		p.syncs(true, of(1, "y"), of(2, "z"))
		c.wantSync("told to the other alone", false, box(of(1, "y"), of(2)), told(flagged(1, "y"), flagged(2)), 1, 2)
	}
}

// A copy knows the greatest UID that there ever was, and what a quiet Sync left.
func TestCopyKnowsWhatWas(t *testing.T) {
	p := newPlay(t, plain(1, 2, 7)...)
	p.syncs(false, plain(1)...)
	p.syncs(true, plain(8, 9)...)
	c := p.fork()
	c.wantSync("7 was known, 8 and 9 are", false, plain(2, 7, 8, 9, 10), told(gone(1), exists(3)), 8, 9, 10)
	p.wantSync("the first one, too", false, plain(2, 7, 9, 10), told(gone(2), gone(1), exists(2)), 9, 10)
	c = newPlay(t).fork()
	wantLooks(t, "a copy of none", c.v)
	c.wantSync("one comes", false, plain(1), told(exists(1)), 1)
	cc := c.fork().fork()
	cc.wantSync("a copy of a copy", true, plain(1, 2), told(exists(2)), 1, 2)
	wantLooks(t, "the copy", c.v, 1)
}

// Rule 4: of no view there is nothing, and nothing is done.
func TestNil(t *testing.T) {
	var v *view.View
	for range 2 {
		if v.Count() != 0 || len(v.UIDs()) != 0 || v.Max() != 0 || v.Copy() != nil {
			t.Fatal("no view has something")
		}
		for _, n := range edges {
			if v.UID(n) != 0 || v.Place(n) != 0 {
				t.Fatalf("no view has a %d", n)
			}
			v.Note(n)
			v.Note(n, "a", `\Seen`)
		}
		for _, quiet := range []bool{false, true} {
			if l := v.Sync(quiet); len(l) != 0 {
				t.Fatalf("no view tells %s", tell(l))
			}
			if l := v.Sync(quiet, of(1, "a"), of(2)); len(l) != 0 {
				t.Fatalf("no view tells %s", tell(l))
			}
		}
	}
}

// A view that New did not make is one without places.
func TestZero(t *testing.T) {
	p := &play{t, &view.View{}, newSlow(nil), map[int]bool{}}
	p.same("the zero value")
	p.fork().wantSync("of a copy", false, plain(2), told(exists(1)), 2)
	p.notes(1, "a")
	p.wantSync("one comes", true, box(of(1, "b")), told(exists(1)), 1)
}

// Each list of up to four UIDs of -1 to 4 is looked at.
func TestEachList(t *testing.T) {
	var longer func(l []int)
	longer = func(l []int) {
		p := newPlay(t, plain(l...)...)
		q := newPlay(t)
		q.syncs(len(l)%2 == 0, plain(l...)...)
		if !slices.Equal(p.v.UIDs(), q.v.UIDs()) {
			t.Fatalf("New of %s has %s, Sync %s", tell(l), tell(p.v.UIDs()), tell(q.v.UIDs()))
		}
		if len(l) == 4 {
			return
		}
		for uid := -1; uid <= 4; uid++ {
			longer(append(slices.Clone(l), uid))
		}
	}
	longer(nil)
}
