package mail_test

import (
	"fmt"
	"maps"
	"math/rand"
	"reflect"
	"slices"
	"strings"
	"testing"

	"haversack/api"
	"haversack/disk"
	"haversack/mail"
	"haversack/txn"
)

// noon is when things are appended, where nothing else is said.
var noon = api.Date{Year: 2001, Month: 9, Day: 9, Hour: 12}

// none is a name of a user that there is not.
const none = "nobody"

// account is the calls that a user has, of the package and of the slow store.
type account interface {
	Create(name string) api.Errno
	Delete(name string) api.Errno
	Rename(from, to string) api.Errno
	Subscribe(name string, on bool) api.Errno
	List(ref, pattern string) ([]api.Listed, api.Errno)
	Lsub(ref, pattern string) ([]string, api.Errno)
	Status(name string) (api.Status, api.Errno)
	Mails(id int) ([]api.Mail, api.Errno)
	Text(id, uid int) (string, api.Errno)
	Append(name string, now api.Date, l ...api.Letter) ([]int, api.Errno)
	Copy(id int, to string, uids ...int) ([]int, []int, api.Errno)
	Move(id int, to string, uids ...int) ([]int, []int, api.Errno)
	Store(id, mode int, flags []string, uids ...int) ([]int, api.Errno)
	Expunge(id int, all bool, uids ...int) ([]int, api.Errno)
	Quota() (int, int, api.Errno)
}

// call is one of them, with what it is given.
type call struct {
	what string
	do   func(a account) (api.Errno, []any)
}

// what tells of a call, if it is not too long.
func what(name string, given ...any) string {
	s := fmt.Sprintf("%s%+v", name, given)
	if len(s) > 200 {
		s = s[:200] + ".."
	}
	return s
}

func create(name string) call {
	return call{what("Create", name), func(a account) (api.Errno, []any) { return a.Create(name), nil }}
}

func remove(name string) call {
	return call{what("Delete", name), func(a account) (api.Errno, []any) { return a.Delete(name), nil }}
}

func rename(from, to string) call {
	return call{what("Rename", from, to), func(a account) (api.Errno, []any) { return a.Rename(from, to), nil }}
}

func subscribe(name string, on bool) call {
	return call{what("Subscribe", name, on), func(a account) (api.Errno, []any) { return a.Subscribe(name, on), nil }}
}

func list(ref, pattern string) call {
	return call{what("List", ref, pattern), func(a account) (api.Errno, []any) {
		l, e := a.List(ref, pattern)
		return e, []any{l}
	}}
}

func lsub(ref, pattern string) call {
	return call{what("Lsub", ref, pattern), func(a account) (api.Errno, []any) {
		l, e := a.Lsub(ref, pattern)
		return e, []any{l}
	}}
}

func status(name string) call {
	return call{what("Status", name), func(a account) (api.Errno, []any) {
		s, e := a.Status(name)
		return e, []any{s}
	}}
}

func mails(id int) call {
	return call{what("Mails", id), func(a account) (api.Errno, []any) {
		l, e := a.Mails(id)
		return e, []any{l}
	}}
}

func text(id, uid int) call {
	return call{what("Text", id, uid), func(a account) (api.Errno, []any) {
		s, e := a.Text(id, uid)
		return e, []any{s}
	}}
}

func appendAt(name string, now api.Date, l ...api.Letter) call {
	return call{what("Append", name, now, len(l), l), func(a account) (api.Errno, []any) {
		uids, e := a.Append(name, now, l...)
		return e, []any{uids}
	}}
}

func appendTo(name string, l ...api.Letter) call { return appendAt(name, noon, l...) }

func copyTo(id int, to string, uids ...int) call {
	return call{what("Copy", id, to, uids), func(a account) (api.Errno, []any) {
		olds, fresh, e := a.Copy(id, to, uids...)
		return e, []any{olds, fresh}
	}}
}

func moveTo(id int, to string, uids ...int) call {
	return call{what("Move", id, to, uids), func(a account) (api.Errno, []any) {
		olds, fresh, e := a.Move(id, to, uids...)
		return e, []any{olds, fresh}
	}}
}

func store(id, mode int, flags []string, uids ...int) call {
	return call{what("Store", id, mode, flags, uids), func(a account) (api.Errno, []any) {
		l, e := a.Store(id, mode, flags, uids...)
		return e, []any{l}
	}}
}

func expunge(id int, all bool, uids ...int) call {
	return call{what("Expunge", id, all, uids), func(a account) (api.Errno, []any) {
		l, e := a.Expunge(id, all, uids...)
		return e, []any{l}
	}}
}

func quota() call {
	return call{"Quota", func(a account) (api.Errno, []any) {
		use, limit, e := a.Quota()
		return e, []any{use, limit}
	}}
}

// each is every call once, with what may be given.
func each() []call {
	return []call{
		create("new"), remove("a"), rename("a", "b"), subscribe("a", true), subscribe("a", false),
		list("", "*"), lsub("", "*"), status("INBOX"), mails(1), text(1, 1),
		appendTo("INBOX", of("x")), copyTo(1, "INBOX", 1), moveTo(1, "INBOX", 1),
		store(1, 1, flags("a"), 1), expunge(1, true), expunge(1, false, 1), quota(),
	}
}

// flags is a list.
func flags(l ...string) []string { return l }

// times is a text of so many bytes.
func times(n int) string { return strings.Repeat("x", n) }

// of is a letter with a text, and flags.
func of(text string, flags ...string) api.Letter { return api.Letter{Text: text, Flags: flags} }

// sized is letters of so many bytes, without flags.
func sized(sizes ...int) []api.Letter {
	var l []api.Letter
	for i, n := range sizes {
		l = append(l, of(strings.Repeat(string(rune('a'+i%26)), n)))
	}
	return l
}

// numbered are numbers from one on, up to another one.
func numbered(from, to int) []int {
	var l []int
	for n := from; n <= to; n++ {
		l = append(l, n)
	}
	return l
}

// isZero tells whether an answer tells nothing.
func isZero(v any) bool {
	r := reflect.ValueOf(v)
	return r.IsZero() || r.Kind() == reflect.Slice && r.Len() == 0
}

// same tells whether answers are alike; a list without members may be nil or empty.
func same(a, b any) bool {
	l, isMails := a.([]api.Mail)
	m, bothMails := b.([]api.Mail)
	if isMails && bothMails {
		return slices.EqualFunc(l, m, sameMail)
	}
	return isZero(a) && isZero(b) || reflect.DeepEqual(a, b)
}

func sameMail(a, b api.Mail) bool {
	ok := slices.Equal(a.Flags, b.Flags)
	a.Flags, b.Flags = nil, nil
	return ok && reflect.DeepEqual(a, b)
}

func sameAll(a, b []any) bool { return slices.EqualFunc(a, b, same) }

// tell makes what is told of a fault short enough.
func tell(v any) string {
	s := fmt.Sprintf("%+v", v)
	if len(s) > 600 {
		return s[:300] + " .. " + s[len(s)-300:]
	}
	return s
}

func want(t *testing.T, what string, e, wanted api.Errno) {
	t.Helper()
	if e != wanted {
		t.Fatalf("%s = %v; want %v", what, e, wanted)
	}
}

// play is a store, and the slow one beside it.
type play struct {
	t    *testing.T
	d    *disk.Disk
	s    *txn.Store
	slow *slowStore
}

// sectors is how many a disk has, where not many are asked for.
const sectors = 1000

// newPlay is a store with users ann and bob, whose limits are 1000 and 100.
func newPlay(t *testing.T) *play {
	t.Helper()
	p := emptyPlay(t, sectors)
	p.adds("ann", "p", 1000)
	p.adds("bob", "", 100)
	return p
}

// widePlay is a store with a user ann whose limit is wide.
func widePlay(t *testing.T) *play {
	t.Helper()
	p := emptyPlay(t, api.MaxSectors)
	p.adds("ann", "p", 1<<40)
	return p
}

func emptyPlay(t *testing.T, sectors int) *play {
	t.Helper()
	d, e := disk.New(sectors)
	want(t, "disk.New", e, api.OK)
	want(t, "Format", txn.Format(d), api.OK)
	return &play{t, d, opened(t, d), newSlow()}
}

func opened(t *testing.T, d *disk.Disk) *txn.Store {
	t.Helper()
	s, e := txn.Open(d)
	want(t, "Open", e, api.OK)
	return s
}

// fork is another one that is the same, and goes on apart.
func (p *play) fork(t *testing.T) *play {
	t.Helper()
	d := p.d.Copy()
	return &play{t, d, opened(t, d), p.slow.copy()}
}

// tryAdd adds a user to both, if that is no error.
func (p *play) tryAdd(user, password string, limit int) api.Errno {
	p.t.Helper()
	x, slow := p.s.Begin(), p.slow.copy()
	e := mail.AddUser(x, user, password, limit)
	want(p.t, what("AddUser", user, password, limit), e, slow.AddUser(user, password, limit))
	if e != api.OK {
		x.Rollback()
		return e
	}
	want(p.t, "Commit", x.Commit(), api.OK)
	p.slow = slow
	return e
}

func (p *play) adds(user, password string, limit int) {
	p.t.Helper()
	want(p.t, what("AddUser", user, password, limit), p.tryAdd(user, password, limit), api.OK)
}

// at is a user's account in a transaction.
func (p *play) at(x *txn.Tx, user string) account { return mail.At(x, user) }

// both does a call on both, in a transaction that goes on, and holds that they answer the same. It answers what the slow store is then.
func (p *play) both(x *txn.Tx, user string, c call) (*slowStore, api.Errno) {
	p.t.Helper()
	slow := p.slow.copy()
	e, got := c.do(mail.At(x, user))
	slowE, wanted := c.do(slow.at(user))
	if e != slowE || !sameAll(got, wanted) {
		p.t.Fatalf("%s: %s is %v %s; want %v %s", user, c.what, e, tell(got), slowE, tell(wanted))
	}
	if e != api.OK && slices.ContainsFunc(got, func(v any) bool { return !isZero(v) }) {
		p.t.Fatalf("%s: %s is %v, and beside it %s", user, c.what, e, tell(got))
	}
	return slow, e
}

// try does a call on both, and takes it back; what is seen ahead of that must be the same.
func (p *play) try(user string, c call) api.Errno {
	p.t.Helper()
	x := p.s.Begin()
	defer x.Rollback()
	slow, e := p.both(x, user, c)
	if e == api.OK {
		wantSame(p.t, x, slow)
	}
	return e
}

// does does a call on both; it counts, if it is answered OK.
func (p *play) does(user string, c call) api.Errno {
	p.t.Helper()
	x := p.s.Begin()
	slow, e := p.both(x, user, c)
	if e != api.OK {
		x.Rollback()
		return e
	}
	want(p.t, c.what+": Commit", x.Commit(), api.OK)
	p.slow = slow
	return e
}

// wants does calls, which are answered so.
func (p *play) wants(user string, wanted api.Errno, l ...call) {
	p.t.Helper()
	for _, c := range l {
		want(p.t, user+": "+c.what, p.does(user, c), wanted)
	}
}

// tells holds what a call answers beside OK; it does not count.
func (p *play) tells(user string, c call, wanted ...any) {
	p.t.Helper()
	x := p.s.Begin()
	defer x.Rollback()
	if _, e := p.both(x, user, c); e != api.OK {
		p.t.Fatalf("%s: %s is %v", user, c.what, e)
	}
	y := p.s.Begin()
	defer y.Rollback()
	if _, got := c.do(mail.At(y, user)); !sameAll(got, wanted) {
		p.t.Fatalf("%s: %s is %s; want %s", user, c.what, tell(got), tell(wanted))
	}
}

// tellsOf holds what a call answers beside OK; it counts.
func (p *play) tellsOf(user string, c call, wanted ...any) {
	p.t.Helper()
	p.tells(user, c, wanted...)
	p.wants(user, api.OK, c)
}

// mails are a mailbox's messages.
func (p *play) mails(user string, id int) []api.Mail {
	p.t.Helper()
	x := p.s.Begin()
	defer x.Rollback()
	l, e := p.at(x, user).Mails(id)
	want(p.t, what("Mails", id), e, api.OK)
	return l
}

// same holds that all that can be told of the store is what the slow one tells.
func (p *play) same() {
	p.t.Helper()
	x := p.s.Begin()
	defer x.Rollback()
	wantSame(p.t, x, p.slow)
}

// anew opens the store anew.
func (p *play) anew() {
	p.t.Helper()
	p.d = p.d.Crash()
	p.s = opened(p.t, p.d)
}

// looks is all that can be told of a store with these users, beside their passwords.
func looks(at func(user string) account, users []string) []string {
	var l []string
	note := func(user string, c call) []any {
		e, got := c.do(at(user))
		for i := range got {
			if isZero(got[i]) {
				got[i] = "none"
			}
		}
		l = append(l, fmt.Sprintf("%s %s %v %q", user, c.what, e, got))
		return got
	}
	for _, user := range append(users, none) {
		note(user, quota())
		note(user, lsub("", "*"))
		listed, _ := note(user, list("", "*"))[0].([]api.Listed)
		for _, one := range listed {
			s, _ := note(user, status(one.Name))[0].(api.Status)
			all, _ := note(user, mails(s.ID))[0].([]api.Mail)
			for _, m := range all {
				note(user, text(s.ID, m.UID))
			}
		}
	}
	return l
}

// wantSame holds that a transaction sees what the slow store has, and that Check finds no fault.
func wantSame(t *testing.T, x *txn.Tx, slow *slowStore) {
	t.Helper()
	users := slices.Sorted(maps.Keys(slow.users))
	got := looks(func(user string) account { return mail.At(x, user) }, users)
	wanted := looks(func(user string) account { return slow.at(user) }, users)
	if i := slices.Index(slices.Concat(differ(got, wanted)), true); i >= 0 {
		t.Fatalf("told is %s; want %s", tell(got[min(i, len(got)-1)]), tell(wanted[min(i, len(wanted)-1)]))
	}
	want(t, "Check", mail.Check(x), api.OK)
}

// differ tells where two lists differ.
func differ(a, b []string) []bool {
	l := make([]bool, max(len(a), len(b)))
	for i := range l {
		l[i] = i >= len(a) || i >= len(b) || a[i] != b[i]
	}
	return l
}

func one[T any](r *rand.Rand, l ...T) T { return l[r.Intn(len(l))] }

// some are up to so many of a list, in whatever order, some twice.
func some[T any](r *rand.Rand, most int, l ...T) []T {
	var all []T
	for range r.Intn(most + 1) {
		all = append(all, one(r, l...))
	}
	return all
}
