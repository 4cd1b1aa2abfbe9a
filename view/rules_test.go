package view_test

import (
	"math/rand"
	"reflect"
	"slices"
	"sync"
	"testing"

	"haversack/api"
	"haversack/view"
)

// P1, P2, and the rules that hold everywhere.

// P1: each call ends, of numbers as they may be, and of many messages.
func TestNumbers(t *testing.T) {
	for _, from := range edges {
		for _, to := range edges {
			p := newPlay(t, of(from), of(to, "a"))
			p.notes(to, "b")
			p.syncs(true, of(to), of(from, "c"))
			p.syncs(false, of(from), of(0), of(to))
			for _, kind := range []int{api.ToldExpunge, api.ToldExists, api.ToldFlags} {
				l := told(api.Told{Kind: kind, N: from}, api.Told{Kind: kind, N: to})
				wanted, ok := slowFollow(numbers(to, from), numbers(from), l)
				wantFollow(t, "numbers as they may be", numbers(to, from), numbers(from), l, wanted, ok)
			}
		}
	}
}

func TestMany(t *testing.T) {
	t.Parallel()
	const many = 100000
	v := view.New(plain(numbered(1, many)...)...)
	if l := v.Sync(false, plain(numbered(many/2+1, 3*many/2)...)...); len(l) != many/2+1 || l[0].N != many/2 || l[many/2-1].N != 1 || l[many/2].N != many {
		t.Fatalf("of many is told %s", tell(l))
	}
	if v.Count() != many || v.Max() != 3*many/2 || v.Place(many) != many/2 || v.UID(many/2) != many {
		t.Fatalf("of many there are %d, up to %d", v.Count(), v.Max())
	}
	if l := v.Sync(true); len(l) != 0 {
		t.Fatalf("a quiet one tells %s", tell(l))
	}
	l := v.Sync(false)
	if len(l) != many || v.Count() != 0 || v.Max() != 0 {
		t.Fatalf("of many that are gone is told %s", tell(l))
	}
	uids, ok := view.Follow(nil, numbered(1, many), append(told(exists(many)), l...)...)
	if !ok || len(uids) != 0 {
		t.Fatalf("Follow of many: %s, %t", tell(uids), ok)
	}
	if v = view.New(slices.Repeat(plain(2, 1), many)...); v.Count() != 1 || len(v.Sync(false, slices.Repeat(plain(2), many)...)) != 0 {
		t.Fatal("one that comes many times is there as often")
	}
}

// roomyFlags, roomyMails, roomyNumbers and roomyTold are lists with room behind them, in which stands what is to stay there.
func roomyFlags(l ...string) []string {
	return append(append(make([]string, 0, len(l)+3), l...), "behind", "it", "all")[:len(l)]
}

func roomyMails(l ...api.Mail) []api.Mail {
	return append(append(make([]api.Mail, 0, len(l)+2), l...), of(8, "behind"), of(9, "it"))[:len(l)]
}

func roomyNumbers(l ...int) []int {
	return append(append(make([]int, 0, len(l)+3), l...), 77, 78, 79)[:len(l)]
}

func roomyTold(l ...api.Told) []api.Told {
	return append(append(make([]api.Told, 0, len(l)+2), l...), gone(77), exists(78))[:len(l)]
}

// full is a list with the room behind it.
func full[T any](l []T) []T { return l[:cap(l)] }

func TestWhatIsHandedInStays(t *testing.T) {
	aheadOf := func() []api.Mail {
		return roomyMails(of(1, roomyFlags("b", "a", "a")...), of(3, roomyFlags(`\seen`, "", "x")...), of(2), of(5, roomyFlags()...), of(0))
	}
	behind := func() []api.Mail {
		return roomyMails(of(3, roomyFlags("z", "a", `\x`)...), of(5, roomyFlags("q")...), of(6, roomyFlags("c", "b")...), of(7))
	}
	first, second, flags := aheadOf(), behind(), roomyFlags("y", "x", `\SEEN`)
	v := view.New(first...)
	v.Sync(true, second...)
	v.Note(5, flags...)
	v.Sync(false, second...)
	v.Sync(false, first...)
	view.New(second...).Sync(false, first...)
	for i, l := range [][]api.Mail{aheadOf(), behind()} {
		now := [][]api.Mail{first, second}[i]
		if !reflect.DeepEqual(full(now), full(l)) {
			t.Fatalf("%s became %s", tell(full(l)), tell(full(now)))
		}
		for j := range now {
			if !slices.Equal(full(now[j].Flags), full(l[j].Flags)) {
				t.Fatalf("%s became %s", tell(full(l[j].Flags)), tell(full(now[j].Flags)))
			}
		}
	}
	if !slices.Equal(full(flags), full(roomyFlags("y", "x", `\SEEN`))) {
		t.Fatalf("the flags became %s", tell(full(flags)))
	}
}

func TestWhatFollowIsHandedStays(t *testing.T) {
	uids, fresh := numbered(1, 5), numbered(6, 9)
	for _, l := range [][]api.Told{nil, told(exists(7)), told(gone(2), gone(1)), told(gone(5), exists(8), flagged(3, "a"), gone(1)), told(gone(1), exists(9), gone(7)), told(exists(6), exists(5))} {
		n, f, all := roomyNumbers(uids...), roomyNumbers(fresh...), roomyTold(l...)
		view.Follow(n, f, all...)
		view.Follow(f, n, all...)
		if !slices.Equal(full(n), full(roomyNumbers(uids...))) || !slices.Equal(full(f), full(roomyNumbers(fresh...))) || !sameTold(full(all), full(roomyTold(l...))) {
			t.Fatalf("of %s: %s, %s and %s are what was handed in", tell(l), tell(full(n)), tell(full(f)), tell(full(all)))
		}
	}
}

// spoilt writes all over a list, as far as it goes.
func spoilt[T any](l []T, with T) {
	for i := range full(l) {
		full(l)[i] = with
	}
}

func spoiltTold(l []api.Told) {
	for _, one := range full(l) {
		spoilt(one.Flags, "q")
	}
	spoilt(l, flagged(99, "q"))
}

// Nothing of what is handed in is kept, and nothing of what is handed out.
func TestAllIsItsOwn(t *testing.T) {
	now := func(flags ...string) []api.Mail { return box(of(1, flags...), of(2, flags...), of(4)) }
	first, second, flags := now("a", "b"), now("c", "d", "e"), roomyFlags("x", "y")
	p := newPlay(t)
	p.v = view.New(first...)
	p.slow = newSlow(now("a", "b"))
	c := p.fork()
	for _, l := range [][]api.Mail{first, second} {
		if l := p.v.Sync(true, l...); len(l) > 0 {
			c.syncs(true, now("c", "d", "e")...)
			spoiltTold(c.v.Sync(true, now("c", "d")...))
			c.slow.sync(true, now("c", "d"))
			spoiltTold(l)
		}
		for _, m := range l {
			spoilt(m.Flags, "q")
		}
		spoilt(l, of(3, "q"))
		spoilt(p.v.UIDs(), 3)
	}
	p.slow.sync(true, now("c", "d", "e"))
	p.same("what was handed out is spoilt")
	p.wantSync("the same", true, now("c", "d", "e"), nil, 1, 2, 4)
	c.wantSync("of the copy", true, now("c", "d"), nil, 1, 2, 4)
	p.v.Note(2, flags...)
	p.slow.note(2, []string{"x", "y"})
	spoilt(flags, "q")
	p.wantSync("what was noted", true, box(of(2, "x", "y")), nil, 1, 2, 4)
}

// No two lists of an answer share anything, not even the room behind them, with one another or with later answers.
func TestAnswersShareNothing(t *testing.T) {
	v := view.New(plain(1, 2, 3)...)
	now := box(of(1, "a", "b", "c"), of(2, "a", "b", "c"), of(3))
	l := v.Sync(false, now...)
	l[0].Flags = append(l[0].Flags, "z")
	spoilt(l[0].Flags, "q")
	if !slices.Equal(l[1].Flags, letters(3)) || len(v.Sync(false, now...)) != 0 {
		t.Fatalf("one list is spoilt, and %s is told", tell(l))
	}
	uids, again := v.UIDs(), v.UIDs()
	spoilt(uids, 7)
	if !slices.Equal(again, numbers(1, 2, 3)) {
		t.Fatalf("one list is spoilt, and the other one is %s", tell(again))
	}
	ahead, fresh := roomyNumbers(1, 2), roomyNumbers(3)
	for _, l := range [][]api.Told{nil, told(exists(2)), told(exists(3)), told(gone(1)), told(gone(3)), told(gone(2), gone(1), exists(1))} {
		got, _ := view.Follow(ahead, fresh, l...)
		spoilt(got, 7)
		if !slices.Equal(full(ahead), full(roomyNumbers(1, 2))) || !slices.Equal(full(fresh), full(roomyNumbers(3))) {
			t.Fatalf("what Follow of %s answers is what was handed in", tell(l))
		}
	}
}

// Rule 5: a list without members may be nil or empty.
func TestEmptyLists(t *testing.T) {
	for _, flags := range [][]string{nil, {}} {
		for _, l := range [][]api.Mail{nil, {}} {
			p := newPlay(t, l...)
			p.wantSync("none", false, l, nil)
			p.wantSync("one", false, append(l, of(1, flags...)), told(exists(1)), 1)
			p.notes(1, flags...)
			p.wantSync("the same", false, box(of(1)), nil, 1)
			p.wantSync("the same", false, box(of(1, []string{}...)), nil, 1)
		}
	}
	for _, none := range [][]int{nil, {}} {
		for _, l := range [][]api.Told{nil, {}} {
			wantFollow(t, "nothing", none, none, l, nil, true)
		}
		wantFollow(t, "nothing that goes", none, none, told(gone(1)), nil, false)
		wantFollow(t, "none", none, none, told(exists(0)), nil, true)
	}
}

// Rule 6: views that were done the same with tell the same, whoever does so at the same time, however Go's maps are gone through.
func TestAgain(t *testing.T) {
	t.Parallel()
	run := func(seed int64) [][]api.Told {
		r := rand.New(rand.NewSource(seed))
		v := view.New(boxByChance(r, 20)...)
		var all [][]api.Told
		for range 30 {
			v.Note(r.Intn(20), someFlags(r)...)
			all = append(all, v.Sync(r.Intn(2) == 0, boxByChance(r, 30)...))
		}
		return all
	}
	wanted := [][][]api.Told{}
	for seed := range int64(100) {
		wanted = append(wanted, run(seed))
	}
	var all sync.WaitGroup
	for range 4 {
		all.Go(func() {
			for seed := range int64(100) {
				if !reflect.DeepEqual(run(seed), wanted[seed]) {
					t.Errorf("the play %d tells something else", seed)
				}
			}
		})
	}
	all.Wait()
}

// P2, of what is refused: an answer of Follow that says so is of no view, and one that asks for nothing that is there changes nothing.
func TestLooksChangeNothing(t *testing.T) {
	p := newPlay(t, of(1, "a"), of(4), of(9, "b"))
	c := p.fork()
	for _, n := range edges {
		p.v.UID(n)
		p.v.Place(n)
		p.v.Copy().Note(n, "z")
		p.v.Copy().Sync(false, of(n, "z"))
		view.Follow(p.v.UIDs(), nil, gone(n), exists(n), flagged(n))
	}
	p.v.UIDs()
	p.v.Max()
	p.v.Count()
	p.same("behind looks")
	p.wantSync("nothing was told", false, box(of(1, "a"), of(4), of(9, "b")), nil, 1, 4, 9)
	if !reflect.DeepEqual(p.v, c.v) {
		t.Fatal("looks changed something")
	}
}
