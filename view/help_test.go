package view_test

import (
	"fmt"
	"math"
	"math/rand"
	"reflect"
	"slices"
	"testing"

	"haversack/api"
	"haversack/view"
)

// tell makes what is told of a fault short enough.
func tell(v any) string {
	s := fmt.Sprintf("%+v", v)
	if len(s) > 600 {
		return s[:300] + " .. " + s[len(s)-300:]
	}
	return s
}

// edges are numbers at which something may change.
var edges = []int{math.MinInt, math.MinInt + 1, -1 << 32, -2, -1, 0, 1, 2, 3, 4, 5, 6, 20, 21, 300, 301, api.MaxNumber, 1 << 32, math.MaxInt - 1, math.MaxInt}

// of is a message with flags.
func of(uid int, flags ...string) api.Mail { return api.Mail{UID: uid, Flags: flags} }

// box is messages.
func box(l ...api.Mail) []api.Mail { return l }

// plain is messages without flags.
func plain(uids ...int) []api.Mail {
	var l []api.Mail
	for _, uid := range uids {
		l = append(l, of(uid))
	}
	return l
}

// numbers is a list.
func numbers(l ...int) []int { return l }

// numbered are numbers from one on, up to another one.
func numbered(from, to int) []int {
	var l []int
	for n := from; n <= to; n++ {
		l = append(l, n)
	}
	return l
}

// letters are flags "a", "b" and on, so many.
func letters(n int) []string {
	var l []string
	for i := range n {
		l = append(l, string(rune('a'+i)))
	}
	return l
}

func told(l ...api.Told) []api.Told { return l }

func gone(n int) api.Told { return api.Told{Kind: api.ToldExpunge, N: n} }

func exists(n int) api.Told { return api.Told{Kind: api.ToldExists, N: n} }

func flagged(n int, flags ...string) api.Told {
	return api.Told{Kind: api.ToldFlags, N: n, Flags: flags}
}

// sameTold tells whether the same is told; a list without members may be nil or empty.
func sameTold(a, b []api.Told) bool {
	return slices.EqualFunc(a, b, func(a, b api.Told) bool {
		ok := slices.Equal(a.Flags, b.Flags)
		a.Flags, b.Flags = nil, nil
		return ok && reflect.DeepEqual(a, b)
	})
}

// looks is all that a view's looks tell.
type looks interface {
	Count() int
	UIDs() []int
	UID(place int) int
	Place(uid int) int
	Max() int
}

// wantLooks: a view has these UIDs, by each look.
func wantLooks(t *testing.T, why any, v looks, uids ...int) {
	t.Helper()
	if v.Count() != len(uids) || !slices.Equal(v.UIDs(), uids) {
		t.Fatalf("%v: there are %d, %s; want %s", why, v.Count(), tell(v.UIDs()), tell(uids))
	}
	places := map[int]int{}
	for i, uid := range uids {
		places[uid] = i + 1
	}
	for _, n := range slices.Concat(numbers(-1, 0, len(uids), len(uids)+1, math.MinInt, math.MaxInt), uids) {
		wanted := 0
		if n >= 1 && n <= len(uids) {
			wanted = uids[n-1]
		}
		if got := v.UID(n); got != wanted {
			t.Fatalf("%v: UID of %d is %d; want %d, of %s", why, n, got, wanted, tell(uids))
		}
		for _, uid := range []int{n - 1, n, n + 1} {
			if got := v.Place(uid); got != places[uid] {
				t.Fatalf("%v: Place of %d is %d; want %d, of %s", why, uid, got, places[uid], tell(uids))
			}
		}
	}
	most := 0
	if len(uids) > 0 {
		most = uids[len(uids)-1]
	}
	if got := v.Max(); got != most {
		t.Fatalf("%v: Max is %d; want %d, of %s", why, got, most, tell(uids))
	}
}

// play is a view, the slow one beside it, and the UIDs that were gone.
type play struct {
	t    *testing.T
	v    *view.View
	slow *slowView
	lost map[int]bool
}

func newPlay(t *testing.T, l ...api.Mail) *play {
	t.Helper()
	p := &play{t, view.New(l...), newSlow(l), map[int]bool{}}
	p.same(turn{now: l})
	return p
}

// fork is another one, of a copy.
func (p *play) fork() *play {
	p.t.Helper()
	lost := map[int]bool{}
	for uid := range p.lost {
		lost[uid] = true
	}
	f := &play{p.t, p.v.Copy(), p.slow.copy(), lost}
	f.same("a copy")
	return f
}

// same holds that the view looks as the slow one does.
func (p *play) same(why any) {
	p.t.Helper()
	wantLooks(p.t, why, p.v, p.slow.uids()...)
}

// turn is a Sync that is done, as it is told of a fault.
type turn struct {
	ahead []int
	known int
	quiet bool
	now   []api.Mail
}

func (s turn) String() string {
	return fmt.Sprintf("of %s, and %d was there, Sync, quiet %t, of %s", tell(s.ahead), s.known, s.quiet, tell(s.now))
}

// syncs does a Sync on both, holds that they tell the same, and all that follows.
func (p *play) syncs(quiet bool, now ...api.Mail) []api.Told {
	p.t.Helper()
	ahead, known := p.v.UIDs(), p.slow.most()
	why := turn{ahead, known, quiet, now}
	got, wanted := p.v.Sync(quiet, now...), p.slow.sync(quiet, now)
	if !sameTold(got, wanted) {
		p.t.Fatalf("%v tells %s; want %s", why, tell(got), tell(wanted))
	}
	p.same(why)
	p.follows(why, ahead, known, got, now)
	p.rises(why, ahead)
	if quiet {
		p.stays(why, ahead, got)
	} else {
		p.whole(why, ahead, known, now)
	}
	return got
}

// notes does a Note on both.
func (p *play) notes(uid int, flags ...string) {
	p.t.Helper()
	p.v.Note(uid, flags...)
	p.slow.note(uid, flags)
	p.same("behind a Note")
}

// follows: P18.5, and each place that is told of flags, and of flags alone, is known then.
func (p *play) follows(why any, ahead []int, known int, got []api.Told, now []api.Mail) {
	p.t.Helper()
	var fresh []int
	for _, m := range slowMailbox(now) {
		if m.UID > known {
			fresh = append(fresh, m.UID)
		}
	}
	for _, more := range [][]int{nil, {7, 1 << 40}} {
		uids, ok := view.Follow(ahead, slices.Concat(fresh, more), got...)
		if !ok || !slices.Equal(uids, p.v.UIDs()) {
			p.t.Fatalf("%v: Follow of %s is %s, %t; there are %s", why, tell(got), tell(uids), ok, tell(p.v.UIDs()))
		}
	}
	if len(fresh) > 0 {
		if _, ok := view.Follow(ahead, fresh[1:], got...); ok {
			p.t.Fatalf("%v: Follow of %s went well with too few", why, tell(got))
		}
	}
	for _, one := range got {
		if one.Kind != api.ToldFlags && len(one.Flags) > 0 {
			p.t.Fatalf("%v: flags stand in %s", why, tell(one))
		}
	}
}

// rises: P18.6.
func (p *play) rises(why any, ahead []int) {
	p.t.Helper()
	uids := p.v.UIDs()
	for i, uid := range uids {
		if uid < 1 || i > 0 && uids[i-1] >= uid {
			p.t.Fatalf("%v: the UIDs do not rise: %s", why, tell(uids))
		}
		if p.lost[uid] {
			p.t.Fatalf("%v: %d was gone, and is there again: %s", why, uid, tell(uids))
		}
	}
	for _, uid := range ahead {
		if !slices.Contains(uids, uid) {
			p.lost[uid] = true
		}
	}
}

// whole: P18.7.
func (p *play) whole(why any, ahead []int, known int, now []api.Mail) {
	p.t.Helper()
	var wanted []int
	all := true
	for _, m := range slowMailbox(now) {
		wanted = append(wanted, m.UID)
		all = all && (m.UID > known || slices.Contains(ahead, m.UID))
	}
	if all && !slices.Equal(p.v.UIDs(), wanted) {
		p.t.Fatalf("%v: the UIDs are %s; want %s", why, tell(p.v.UIDs()), tell(wanted))
	}
	for _, quiet := range []bool{false, true} {
		if again := p.v.Sync(quiet, now...); len(again) > 0 {
			p.t.Fatalf("%v: again it tells %s", why, tell(again))
		}
	}
	p.same(why)
}

// stays: P18.8.
func (p *play) stays(why any, ahead []int, got []api.Told) {
	p.t.Helper()
	if uids := p.v.UIDs(); len(uids) < len(ahead) || !slices.Equal(uids[:len(ahead)], ahead) {
		p.t.Fatalf("%v: %s became %s", why, tell(ahead), tell(uids))
	}
	for _, one := range got {
		if one.Kind == api.ToldExpunge {
			p.t.Fatalf("%v: it tells %s", why, tell(got))
		}
	}
}

// wantSync: what a Sync tells, and which UIDs there are then.
func (p *play) wantSync(why string, quiet bool, now []api.Mail, wanted []api.Told, uids ...int) {
	p.t.Helper()
	if got := p.syncs(quiet, now...); !sameTold(got, wanted) {
		p.t.Fatalf("%s: quiet %t, of %s it tells %s; want %s", why, quiet, tell(now), tell(got), tell(wanted))
	}
	wantLooks(p.t, why, p.v, uids...)
}

// wantFollow: what Follow answers, and the slow one, too.
func wantFollow(t *testing.T, why string, uids, fresh []int, l []api.Told, wanted []int, ok bool) {
	t.Helper()
	got, is := view.Follow(uids, fresh, l...)
	slow, slowIs := slowFollow(uids, fresh, l)
	if !slices.Equal(got, wanted) || is != ok {
		t.Fatalf("%s: Follow of %s, %s, %s is %s, %t; want %s, %t", why, tell(uids), tell(fresh), tell(l), tell(got), is, tell(wanted), ok)
	}
	if !slices.Equal(slow, wanted) || slowIs != ok {
		t.Fatalf("%s: the slow Follow of %s, %s, %s is %s, %t; want %s, %t", why, tell(uids), tell(fresh), tell(l), tell(slow), slowIs, tell(wanted), ok)
	}
}

func one[T any](r *rand.Rand, l ...T) T { return l[r.Intn(len(l))] }

// some are up to so many of a list, in whatever order, some twice.
func some[T any](r *rand.Rand, most int, l ...T) []T {
	var all []T
	for range r.Intn(most + 1) {
		all = append(all, one(r, l...))
	}
	return all
}
