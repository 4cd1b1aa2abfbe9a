package mail_test

import (
	"maps"
	"math/rand"
	"slices"
	"strconv"
	"strings"
	"testing"

	"haversack/api"
	"haversack/disk"
	"haversack/mail"
)

// What follows.

// people are users of plays by chance; the last one is not there at first.
var people = []string{"ann", "bob", "eve"}

// aCall is one by chance of a user, mostly on mailboxes and messages that are there.
func aCall(r *rand.Rand, s *slowStore, user string) call {
	names, ids := []string{"INBOX"}, []int{-1, 0, 9}
	if s.users[user] != nil {
		names = slices.Sorted(maps.Keys(s.users[user].boxes))
		for _, name := range names {
			ids = append(ids, s.users[user].boxes[name].id, s.users[user].boxes[name].id)
		}
	}
	name := func() string {
		if r.Intn(2) == 0 {
			return one(r, names...)
		}
		return one(r, "INBOX", "inbox", "a", "a", "a/b", "a/b/c", "b", "b/a", "inbox/x", "Sent", "c/d/e", "a*", "", times(38), "b/"+times(37))
	}
	id := func() int { return one(r, ids...) }
	uids := func() []int { return some(r, 6, -1, 0, 1, 1, 2, 2, 3, 3, 4, 5, 6, 7, 8, 9, 10, 12, 15, 20) }
	l := func() []string {
		return some(r, 4, `\Seen`, `\seen`, `\Deleted`, `\DELETED`, "a", "b", `\Flagged`, `\x`, "nil")
	}
	letters := func() []api.Letter {
		all := make([]api.Letter, r.Intn(4))
		for i := range all {
			all[i] = of(strings.Repeat(one(r, "a", "b", "\r\n", "\xff"), r.Intn(one(r, 3, 30, 90, 600))), l()...)
			all[i].Date = some(r, 1, api.Date{Year: 1999, Month: 2, Day: 28, Zone: 90}, api.Date{Year: 1999, Month: 2, Day: 29})
		}
		return all
	}
	switch r.Intn(16) {
	case 0, 1:
		return create(name())
	case 2:
		return remove(name())
	case 3, 4:
		return rename(name(), name())
	case 5:
		return subscribe(name(), r.Intn(3) > 0)
	case 6, 7, 8:
		return appendTo(name(), letters()...)
	case 9, 10:
		return copyTo(id(), name(), uids()...)
	case 11, 12:
		return moveTo(id(), name(), uids()...)
	case 13, 14:
		return store(id(), r.Intn(4), l(), uids()...)
	}
	return expunge(id(), r.Intn(2) == 0, uids()...)
}

// history is what was ever seen of a store's numbers.
type history struct {
	t      *testing.T
	boxes  map[int]int      // validities by mailboxes' numbers
	next   map[int]int      // by validity
	mails  map[[2]int]int   // texts' numbers by validity and UID
	texts  map[int]string   // by their numbers
	owners map[int]string   // of mailboxes
	gone   map[int]struct{} // mailboxes that were there
}

func newHistory(t *testing.T) *history {
	return &history{t, map[int]int{}, map[int]int{}, map[[2]int]int{}, map[int]string{}, map[int]string{}, map[int]struct{}{}}
}

// look looks at all mailboxes of a store, and holds that no number has another meaning than it had (P17.9).
func (h *history) look(p *play) {
	h.t.Helper()
	x := p.s.Begin()
	defer x.Rollback()
	now := map[int]struct{}{}
	for _, user := range people {
		a := p.at(x, user)
		l, _ := a.List("", "*")
		for _, listed := range l {
			s, e := a.Status(listed.Name)
			want(h.t, "Status", e, api.OK)
			h.box(user, s)
			now[s.ID] = struct{}{}
			all, e := a.Mails(s.ID)
			want(h.t, "Mails", e, api.OK)
			last := 0
			for _, m := range all {
				text, _ := a.Text(s.ID, m.UID)
				h.mail(s, m, text)
				if m.UID <= last {
					h.t.Fatalf("the UID %d is told behind %d", m.UID, last)
				}
				last = m.UID
			}
		}
	}
	for id := range h.boxes {
		_, is := now[id]
		_, was := h.gone[id]
		if is && was {
			h.t.Fatalf("the mailbox %d comes again", id)
		}
		if !is {
			h.gone[id] = struct{}{}
		}
	}
}

func (h *history) box(user string, s api.Status) {
	h.t.Helper()
	validity, was := h.boxes[s.ID]
	if was && (validity != s.Validity || h.owners[s.ID] != user) || !was && h.next[s.Validity] != 0 {
		h.t.Fatalf("the mailbox %d has the validity %d, and is %s's; ahead %d, and %s's", s.ID, s.Validity, user, validity, h.owners[s.ID])
	}
	if s.Next < h.next[s.Validity] || s.Next < 1 {
		h.t.Fatalf("the next UID of %d falls from %d to %d", s.ID, h.next[s.Validity], s.Next)
	}
	h.boxes[s.ID], h.owners[s.ID], h.next[s.Validity] = s.Validity, user, s.Next
}

func (h *history) mail(s api.Status, m api.Mail, text string) {
	h.t.Helper()
	key := [2]int{s.Validity, m.UID}
	if id, was := h.mails[key]; was && id != m.ID || m.UID >= s.Next {
		h.t.Fatalf("the UID %d of %+v is of the text %d, and was of %d", m.UID, s, m.ID, id)
	}
	if was, is := h.texts[m.ID]; is && was != text {
		h.t.Fatalf("the text %d is %.40q, and was %.40q", m.ID, text, was)
	}
	h.mails[key], h.texts[m.ID] = m.ID, text
}

// P17.8, P17.9: plays by chance; several calls may be in one transaction, some of which are taken back.
func TestPlays(t *testing.T) {
	t.Parallel()
	for seed := range int64(30) {
		r := rand.New(rand.NewSource(seed))
		p := newPlay(t)
		h := newHistory(t)
		counted := 0
		for i := range 200 {
			if i == 50 {
				p.adds("eve", "e", 500)
			}
			if r.Intn(20) == 0 {
				p.anew()
			}
			counted += p.turn(r, one(r, people...))
			if i%5 == 0 {
				p.same()
				h.look(p)
			}
		}
		p.same()
		h.look(p)
		if counted < 30 {
			t.Fatalf("%d transactions counted", counted)
		}
	}
}

// turn does some calls in one transaction; it answers 1, if it counts.
func (p *play) turn(r *rand.Rand, user string) int {
	p.t.Helper()
	x, was := p.s.Begin(), p.slow
	for range one(r, 1, 1, 1, 2, 3) {
		slow, e := p.both(x, user, aCall(r, p.slow, user))
		if e != api.OK || r.Intn(30) == 0 {
			x.Rollback()
			p.slow = was
			return 0
		}
		p.slow = slow
	}
	want(p.t, "Check ahead of Commit", mail.Check(x), api.OK)
	want(p.t, "Commit", x.Commit(), api.OK)
	return 1
}

// What is taken back was never there.
func TestRollback(t *testing.T) {
	p := newPlay(t)
	p.wants("ann", api.OK, create("a"), appendTo("INBOX", of("x", `\Deleted`), of("y")))
	was, e := p.s.Pairs()
	want(t, "Pairs", e, api.OK)
	for _, c := range append(each(), create("b/c"), rename("a", "b/c"), rename("INBOX", "b"), remove("a"), appendTo("a", sized(5, 6)...), copyTo(1, "a", 1, 2), moveTo(1, "a", 1, 2)) {
		p.try("ann", c)
		x := p.s.Begin()
		mail.AddUser(x, "eve", "", 5)
		c.do(mail.At(x, "ann"))
		x.Rollback()
		if l, _ := p.s.Pairs(); !slices.Equal(l, was) {
			t.Fatalf("%s, taken back, has changed what is kept", c.what)
		}
	}
	p.same()
	p.wants("ann", api.OK, create("b"))
	p.tells("ann", status("b"), api.Status{ID: 4, Validity: 4, Next: 1})
}

// Two users, or one in two transactions at one time: what counts is what would have been done one behind the other.
func TestTwoAtOneTime(t *testing.T) {
	t.Parallel()
	clashes, both := 0, 0
	for seed := range int64(12) {
		r := rand.New(rand.NewSource(100 + seed))
		p := newPlay(t)
		for range 150 {
			a, b := one(r, "ann", "bob"), one(r, "ann", "bob")
			x, y := p.s.Begin(), p.s.Begin()
			x.Firm()
			y.Firm()
			c, d := aCall(r, p.slow, a), aCall(r, p.slow, b)
			e, got := d.do(mail.At(y, b))
			slow, first := p.both(x, a, c)
			if first == api.OK {
				want(t, "Commit", x.Commit(), api.OK)
				p.slow = slow
			} else {
				x.Rollback()
			}
			if e != api.OK {
				y.Rollback()
				continue
			}
			e = y.Commit()
			if e == api.ErrConflict && first == api.OK {
				clashes++
				continue
			}
			want(t, "Commit", e, api.OK)
			both++
			next := p.slow.copy()
			if e, wanted := d.do(next.at(b)); e != api.OK || !sameAll(got, wanted) {
				t.Fatalf("%s: %s beside %s: %s is %s; behind it it is %v %s", a, c.what, b, d.what, tell(got), e, tell(wanted))
			}
			p.slow = next
		}
		p.same()
	}
	if clashes < 10 || both < 50 {
		t.Fatalf("%d transactions clashed, %d did not", clashes, both)
	}
}

// What one user does is no matter of another one's, unless both take numbers.
func TestUsersBesideOneAnother(t *testing.T) {
	t.Parallel()
	p := newPlay(t)
	for _, user := range []string{"ann", "bob"} {
		p.wants(user, api.OK, create("a"), appendTo("INBOX", of("x", `\Deleted`), of("y"), of("z")))
	}
	calls := func(inbox int) []call {
		return []call{
			subscribe("a", true), rename("a", "b"), remove("a"), copyTo(inbox, "a", 2), moveTo(inbox, "a", 2), store(inbox, 1, flags("k"), 3),
			expunge(inbox, true), status("INBOX"), mails(inbox), text(inbox, 3), quota(), list("", "*"), lsub("", "*"),
		}
	}
	for _, c := range append(calls(1), create("n"), appendTo("a", of("w"))) {
		for _, d := range calls(2) {
			q := p.fork(t)
			x, y := q.s.Begin(), q.s.Begin()
			x.Firm()
			y.Firm()
			e, _ := d.do(mail.At(y, "bob"))
			want(t, d.what, e, api.OK)
			slow, e := q.both(x, "ann", c)
			want(t, c.what, e, api.OK)
			want(t, c.what+": Commit", x.Commit(), api.OK)
			want(t, d.what+" beside "+c.what+": Commit", y.Commit(), api.OK)
			q.slow = slow
			d.do(q.slow.at("bob"))
			q.same()
		}
	}
}

// keeps are ways in which a crash may keep what waits: nothing, all, the first ones, all but one, each one alone, and pieces.
func keeps(waiting int) [][]api.Keep {
	all := make([]api.Keep, waiting)
	for i := range all {
		all[i] = api.Keep{Write: i, Bytes: api.Sector}
	}
	l := [][]api.Keep{nil, all}
	for i := range all {
		torn := slices.Clone(all)
		torn[i].Bytes = 1 + i*97%511
		l = append(l, all[:i], slices.Delete(slices.Clone(all), i, i+1), all[i:i+1], torn, torn[i:i+1])
	}
	return l
}

// P17.10: the power fails at each step of a call's transaction.
func TestPowerInEachStep(t *testing.T) {
	t.Parallel()
	p := emptyPlay(t, 120)
	p.adds("ann", "p", 3000)
	p.wants("ann", api.OK, create("a/b/c"), appendTo("INBOX", of("1"), of(times(700), `\Deleted`), of("3", "x")), appendTo("a/b", sized(500, 3)...), copyTo(1, "a", 1, 2), subscribe("a", true))
	for _, c := range []call{
		moveTo(1, "a/b", 1, 2, 3), moveTo(1, "INBOX", 1, 3), copyTo(1, "a/b", 2, 3), appendTo("a", of("x"), of(times(600)), of("")),
		rename("a", "b/x"), rename("INBOX", "x/y"), remove("a/b/c"), create("n/o/p"), store(1, 0, flags(`\Seen`), 1, 2, 3), expunge(1, true), subscribe("z", true),
	} {
		p.powerIn(t, c)
	}
}

// powerIn does a call, with a fuse of each number of steps, till the power lasts.
func (p *play) powerIn(t *testing.T, c call) {
	t.Helper()
	for fuse := 0; ; fuse++ {
		q := p.fork(t)
		x := q.s.Begin()
		slow, e := q.both(x, "ann", c)
		want(t, c.what, e, api.OK)
		q.d.Fuse(fuse)
		e = x.Commit()
		if e != api.OK {
			want(t, c.what+": Commit", e, api.ErrPower)
		}
		before, after := 0, 0
		for _, kept := range keeps(q.d.Waiting()) {
			if q.isAfter(t, q.d.Crash(kept...), slow) {
				after++
			} else {
				before++
			}
		}
		switch {
		case e == api.OK && before > 0:
			t.Fatalf("%s was answered OK, and is not there", c.what)
		case e == api.OK:
			return
		case fuse == 0 && after > 0:
			t.Fatalf("%s is there without a step", c.what)
		}
	}
}

// isAfter tells whether a disk has what is behind a call; it must have that, or what was ahead of it.
func (p *play) isAfter(t *testing.T, d *disk.Disk, slow *slowStore) bool {
	t.Helper()
	q := &play{t, d, opened(t, d), p.slow}
	x := q.s.Begin()
	defer x.Rollback()
	told := looks(func(user string) account { return mail.At(x, user) }, []string{"ann"})
	for i, s := range []*slowStore{p.slow, slow} {
		if slices.Equal(told, looks(func(user string) account { return s.at(user) }, []string{"ann"})) {
			want(t, "Check", mail.Check(x), api.OK)
			return i == 1
		}
	}
	t.Fatalf("the store has neither what was ahead, nor what is behind it: %s", tell(told))
	return false
}

// On a disk that is full a call's commit is refused, and nothing of it is there.
func TestFullDisk(t *testing.T) {
	p := emptyPlay(t, 30)
	p.adds("ann", "p", 1<<40)
	p.wants("ann", api.OK, create("a"), appendTo("INBOX", of("x")))
	full := 0
	for i := range 30 {
		for _, c := range []call{appendTo("INBOX", sized(i*40, 7)...), copyTo(1, "a", 1+i), create("b" + strconv.Itoa(i))} {
			x := p.s.Begin()
			slow, e := p.both(x, "ann", c)
			if e == api.OK {
				e = x.Commit()
			} else {
				x.Rollback()
			}
			switch e {
			case api.OK:
				p.slow = slow
			case api.ErrFull:
				full++
			case api.ErrMany:
			default:
				t.Fatalf("%s: Commit = %v", c.what, e)
			}
			p.same()
		}
	}
	if full == 0 {
		t.Fatal("the disk was never full")
	}
	p.anew()
	p.same()
}
