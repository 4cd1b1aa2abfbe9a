package view_test

import (
	"math/rand"
	"slices"
	"testing"

	"haversack/api"
	"haversack/view"
)

// What follows: P18.5 to P18.8. Each Sync of a play holds them (help_test.go); here they are played far and wide.

// eachBox goes through all mailboxes of the UIDs up to one, each message without flags or with one.
func eachBox(most int, do func(l []api.Mail)) {
	var from func(uid int, l []api.Mail)
	from = func(uid int, l []api.Mail) {
		if uid > most {
			do(l)
			return
		}
		l = slices.Clip(l)
		from(uid+1, l)
		from(uid+1, append(l, of(uid)))
		from(uid+1, append(l, of(uid, "a")))
	}
	from(1, nil)
}

// Each three mailboxes of up to three messages, one behind the other, quiet and not.
func TestEachPlay(t *testing.T) {
	t.Parallel()
	eachBox(3, func(first []api.Mail) {
		ahead := newPlay(t, first...)
		eachBox(3, func(second []api.Mail) {
			for turn := range 4 {
				p := ahead.fork()
				p.syncs(turn%2 == 0, second...)
				eachBox(3, func(third []api.Mail) { p.fork().syncs(turn/2 == 0, third...) })
			}
		})
	})
}

// P18.7, of a mailbox as it may be: its messages come above all that ever were, and go.
func TestMailbox(t *testing.T) {
	t.Parallel()
	r := rand.New(rand.NewSource(182))
	for range 150 {
		var now []api.Mail
		next := 1
		p := newPlay(t)
		for range 60 {
			now = slices.DeleteFunc(slices.Clone(now), func(api.Mail) bool { return r.Intn(4) == 0 })
			for range r.Intn(4) {
				next += r.Intn(3)
				now = append(now, of(next, someFlags(r)...))
				next++
			}
			for i := range now {
				if r.Intn(5) == 0 {
					now[i].Flags = someFlags(r)
				}
			}
			quiet := r.Intn(2) == 0
			p.syncs(quiet, now...)
			if !quiet {
				wantLooks(t, "a mailbox", p.v, uidsOf(now)...)
			}
			if len(now) > 0 && r.Intn(3) == 0 {
				p.noted(r, now)
			}
		}
	}
}

// noted changes a message's flags, as the client itself asked for, who is told of it elsewhere.
func (p *play) noted(r *rand.Rand, now []api.Mail) {
	p.t.Helper()
	i := r.Intn(len(now))
	now[i].Flags = someFlags(r)
	known := p.v.Place(now[i].UID)
	p.notes(now[i].UID, now[i].Flags...)
	for _, one := range p.v.Copy().Sync(true, now...) {
		if one.Kind == api.ToldFlags && one.N == known {
			p.t.Fatalf("%s were noted of place %d, and are told: %s", tell(now[i].Flags), known, tell(one))
		}
	}
}

func uidsOf(l []api.Mail) []int {
	var uids []int
	for _, m := range l {
		uids = append(uids, m.UID)
	}
	return uids
}

func someFlags(r *rand.Rand) []string {
	return some(r, 4, "a", "b", "b", "c", `\seen`, `\Seen`, `\SEEN`, `\deleted`, `\x`, "", "1")
}

// Whatever comes: Syncs and Notes by chance, of messages that are a mailbox's or are not, of several copies.
func TestPlaysByChance(t *testing.T) {
	t.Parallel()
	for seed := range int64(600) {
		r := rand.New(rand.NewSource(seed))
		most := one(r, 3, 6, 12, 40)
		views := []*play{newPlay(t, boxByChance(r, most)...)}
		for range 40 {
			p := one(r, views...)
			switch r.Intn(6) {
			case 0:
				p.notes(r.Intn(most+3)-1, someFlags(r)...)
			case 1:
				if len(views) < 3 {
					views = append(views, p.fork())
				}
			default:
				p.syncs(r.Intn(2) == 0, boxByChance(r, most)...)
			}
			most += r.Intn(2)
		}
		for _, p := range views {
			p.same("at the end")
		}
	}
}

// boxByChance is messages, most of them by rising UID.
func boxByChance(r *rand.Rand, most int) []api.Mail {
	uids := some(r, most, numbered(1, most)...)
	slices.Sort(uids)
	uids = slices.Compact(uids)
	if r.Intn(4) == 0 {
		uids = append(uids, some(r, 3, numbered(-1, most)...)...)
	}
	if r.Intn(4) == 0 {
		uids = slices.Insert(uids, r.Intn(len(uids)+1), r.Intn(most+2)-1)
	}
	var l []api.Mail
	for _, uid := range uids {
		l = append(l, of(uid, someFlags(r)...))
	}
	return l
}

// What several Syncs tell is followed in one go, too.
func TestFollowOfSeveral(t *testing.T) {
	r := rand.New(rand.NewSource(183))
	for range 2000 {
		p := newPlay(t, boxByChance(r, 8)...)
		ahead, known := p.v.UIDs(), p.slow.most()
		var all []api.Told
		var fresh []int
		for range 1 + r.Intn(6) {
			now := boxByChance(r, 8+r.Intn(8))
			for _, m := range slowMailbox(now) {
				if m.UID > known {
					fresh = append(fresh, m.UID)
				}
			}
			all = append(all, p.syncs(r.Intn(2) == 0, now...)...)
			known = p.slow.most()
		}
		wantFollow(t, "several", ahead, fresh, all, p.v.UIDs(), true)
	}
}

// What is told of others goes wrong where it does not go together with the UIDs, and what there is up to there is told.
func TestFollowUpTo(t *testing.T) {
	r := rand.New(rand.NewSource(184))
	for range 2000 {
		p := newPlay(t, boxByChance(r, 8)...)
		ahead, known := p.v.UIDs(), p.slow.most()
		now := boxByChance(r, 12)
		l := p.syncs(r.Intn(3) == 0, now...)
		fresh := slices.DeleteFunc(uidsOf(slowMailbox(now)), func(uid int) bool { return uid <= known })
		at := r.Intn(len(l) + 1)
		upTo, ok := view.Follow(ahead, fresh, l[:at]...)
		if !ok {
			t.Fatalf("Follow of the first %d of %s does not go well", at, tell(l))
		}
		wrong := one(r, gone(0), gone(len(upTo)+1), exists(len(upTo)-1), exists(1000), flagged(0), flagged(len(upTo)+1), api.Told{}, api.Told{Kind: 4, N: 1})
		wantFollow(t, "one that does not go", ahead, fresh, slices.Insert(slices.Clone(l), at, wrong), upTo, false)
	}
}
