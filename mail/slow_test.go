package mail_test

import (
	"maps"
	"slices"
	"sort"
	"strings"

	"haversack/api"
	"haversack/date"
	"haversack/names"
	"haversack/search"
)

// A store as the chapter's words have it: maps and lists, in which nothing is kept twice: what is told of a mailbox is counted anew each time.

type slowStore struct {
	users                    map[string]*slowUser
	boxes, validities, texts int
}

type slowUser struct {
	password string
	limit    int
	boxes    map[string]*slowBox
	subs     map[string]bool
}

type slowBox struct {
	id, validity, next int
	mails              []api.Mail // with their texts
}

// slowAccount is a user's calls.
type slowAccount struct {
	*slowStore
	user string
}

func newSlow() *slowStore { return &slowStore{users: map[string]*slowUser{}} }

// copy is a store that is the same, and goes on apart.
func (s *slowStore) copy() *slowStore {
	c := *s
	c.users = map[string]*slowUser{}
	for name, u := range s.users {
		another := &slowUser{u.password, u.limit, map[string]*slowBox{}, maps.Clone(u.subs)}
		for name, b := range u.boxes {
			another.boxes[name] = &slowBox{b.id, b.validity, b.next, slices.Clone(b.mails)}
		}
		c.users[name] = another
	}
	return &c
}

func (s *slowStore) box() *slowBox {
	s.boxes++
	s.validities++
	return &slowBox{id: s.boxes, validity: s.validities, next: 1}
}

func (s *slowStore) AddUser(user, password string, limit int) api.Errno {
	rest := strings.Trim(user, "abcdefghijklmnopqrstuvwxyzABCDEFGHIJKLMNOPQRSTUVWXYZ0123456789")
	if user == "" || len(user) > 12 || rest != "" || len(password) > 40 || limit < 0 {
		return api.ErrArg
	}
	if s.users[user] != nil {
		return api.ErrThere
	}
	s.users[user] = &slowUser{password, limit, map[string]*slowBox{"INBOX": s.box()}, map[string]bool{}}
	return api.OK
}

func (s *slowStore) Login(user, password string) api.Errno {
	if u := s.users[user]; u == nil || u.password != password {
		return api.ErrAuth
	}
	return api.OK
}

func (a slowAccount) u() *slowUser { return a.users[a.user] }

// use is how many bytes the user uses.
func (a slowAccount) use() int {
	n := 0
	for _, b := range a.u().boxes {
		for _, m := range b.mails {
			n += len(m.Text)
		}
	}
	return n
}

// by is the user's mailbox with a number.
func (a slowAccount) by(id int) *slowBox {
	if a.u() == nil {
		return nil
	}
	for _, b := range a.u().boxes {
		if b.id == id {
			return b
		}
	}
	return nil
}

// make makes one of some mailboxes after the other, where there is none.
func (a slowAccount) make(l ...string) api.Errno {
	for _, name := range l {
		if a.u().boxes[name] != nil {
			continue
		}
		if len(a.u().boxes) >= 60 {
			return api.ErrMany
		}
		a.u().boxes[name] = a.box()
	}
	return api.OK
}

func (a slowAccount) Create(name string) api.Errno {
	name = names.Norm(name)
	switch {
	case a.u() == nil:
		return api.ErrNone
	case !names.Right(name):
		return api.ErrForm
	case a.u().boxes[name] != nil:
		return api.ErrThere
	}
	return a.make(append(names.Up(name), name)...)
}

func (a slowAccount) Delete(name string) api.Errno {
	name = names.Norm(name)
	switch {
	case a.u() == nil:
		return api.ErrNone
	case name == "INBOX":
		return api.ErrArg
	case a.u().boxes[name] == nil:
		return api.ErrNone
	}
	for other := range a.u().boxes {
		if strings.HasPrefix(other, name+"/") {
			return api.ErrState
		}
	}
	delete(a.u().boxes, name)
	return api.OK
}

func (a slowAccount) Rename(from, to string) api.Errno {
	from, to = names.Norm(from), names.Norm(to)
	switch {
	case a.u() == nil, a.u().boxes[from] == nil:
		return api.ErrNone
	case !names.Right(to):
		return api.ErrForm
	case a.u().boxes[to] != nil:
		return api.ErrThere
	case strings.HasPrefix(to, from+"/") && from != "INBOX":
		return api.ErrArg
	}
	if e := a.make(names.Up(to)...); e != api.OK {
		return e
	}
	if from == "INBOX" {
		a.u().boxes[to] = a.u().boxes[from]
		delete(a.u().boxes, from)
		return a.make(from)
	}
	moved := map[string]*slowBox{}
	for name, b := range a.u().boxes {
		if name == from || strings.HasPrefix(name, from+"/") {
			name = to + strings.TrimPrefix(name, from)
		}
		if !names.Right(name) {
			return api.ErrForm
		}
		moved[name] = b
	}
	a.u().boxes = moved
	return api.OK
}

func (a slowAccount) Subscribe(name string, on bool) api.Errno {
	name = names.Norm(name)
	switch {
	case a.u() == nil:
		return api.ErrNone
	case !names.Right(name):
		return api.ErrForm
	case on:
		a.u().subs[name] = true
	default:
		delete(a.u().subs, name)
	}
	return api.OK
}

func (a slowAccount) List(ref, pattern string) ([]api.Listed, api.Errno) {
	if a.u() == nil {
		return nil, api.OK
	}
	var l []api.Listed
	for name := range a.u().boxes {
		if !names.Match(ref+pattern, name) {
			continue
		}
		one := api.Listed{Name: name}
		if name == "Archive" || name == "Drafts" || name == "Junk" || name == "Sent" || name == "Trash" {
			one.Use = `\` + name
		}
		for other := range a.u().boxes {
			one.Kids = one.Kids || strings.HasPrefix(other, name+"/")
		}
		l = append(l, one)
	}
	sort.Slice(l, func(i, j int) bool { return l[i].Name < l[j].Name })
	return l, api.OK
}

func (a slowAccount) Lsub(ref, pattern string) ([]string, api.Errno) {
	if a.u() == nil {
		return nil, api.OK
	}
	var l []string
	for name := range a.u().subs {
		if names.Match(ref+pattern, name) {
			l = append(l, name)
		}
	}
	sort.Strings(l)
	return l, api.OK
}

func (a slowAccount) Status(name string) (api.Status, api.Errno) {
	if a.u() == nil || a.u().boxes[names.Norm(name)] == nil {
		return api.Status{}, api.ErrNone
	}
	b := a.u().boxes[names.Norm(name)]
	s := api.Status{ID: b.id, Validity: b.validity, Next: b.next, Messages: len(b.mails)}
	for _, m := range b.mails {
		s.Size += len(m.Text)
		if !slices.Contains(m.Flags, `\Seen`) {
			s.Unseen++
		}
		if slices.Contains(m.Flags, `\Deleted`) {
			s.Deleted++
		}
	}
	return s, api.OK
}

func (a slowAccount) Mails(id int) ([]api.Mail, api.Errno) {
	b := a.by(id)
	if b == nil {
		return nil, api.ErrNone
	}
	l := slices.Clone(b.mails)
	for i := range l {
		l[i].Size, l[i].Text = len(l[i].Text), ""
	}
	return l, api.OK
}

func (a slowAccount) Text(id, uid int) (string, api.Errno) {
	if b := a.by(id); b != nil {
		for _, m := range b.mails {
			if m.UID == uid {
				return m.Text, api.OK
			}
		}
	}
	return "", api.ErrNone
}

func (a slowAccount) Append(name string, now api.Date, l ...api.Letter) ([]int, api.Errno) {
	if a.u() == nil || a.u().boxes[names.Norm(name)] == nil {
		return nil, api.ErrNone
	}
	b := a.u().boxes[names.Norm(name)]
	if len(l) > 10 || len(b.mails)+len(l) > 300 {
		return nil, api.ErrMany
	}
	sum := a.use()
	for _, one := range l {
		sum += len(one.Text)
		if len(one.Text) > 50000 {
			return nil, api.ErrLong
		}
	}
	if sum > a.u().limit {
		return nil, api.ErrQuota
	}
	var uids []int
	for _, one := range l {
		m := api.Mail{UID: b.next, Flags: search.Flags(one.Flags...), Date: now, Text: one.Text}
		for i := len(one.Date) - 1; i >= 0; i-- {
			if date.Right(one.Date[i]) {
				m.Date = one.Date[i]
			}
		}
		a.texts++
		m.ID = a.texts
		b.next++
		b.mails = append(b.mails, m)
		uids = append(uids, m.UID)
	}
	return uids, api.OK
}

// parted are the messages of a mailbox whose UIDs stand among some, and the others.
func (b *slowBox) parted(uids []int) (those, others []api.Mail) {
	for _, m := range b.mails {
		if slices.Contains(uids, m.UID) {
			those = append(those, m)
		} else {
			others = append(others, m)
		}
	}
	return those, others
}

func (a slowAccount) bring(id int, to string, uids []int, move bool) ([]int, []int, api.Errno) {
	from := a.by(id)
	if from == nil || a.u().boxes[names.Norm(to)] == nil {
		return nil, nil, api.ErrNone
	}
	into := a.u().boxes[names.Norm(to)]
	l, others := from.parted(uids)
	if move {
		from.mails = others
	}
	if len(into.mails)+len(l) > 300 {
		return nil, nil, api.ErrMany
	}
	var olds, fresh []int
	for _, m := range l {
		olds, fresh = append(olds, m.UID), append(fresh, into.next)
		m.UID = into.next
		into.next++
		into.mails = append(into.mails, m)
	}
	if a.use() > a.u().limit {
		return nil, nil, api.ErrQuota
	}
	return olds, fresh, api.OK
}

func (a slowAccount) Copy(id int, to string, uids ...int) ([]int, []int, api.Errno) {
	return a.bring(id, to, uids, false)
}

func (a slowAccount) Move(id int, to string, uids ...int) ([]int, []int, api.Errno) {
	return a.bring(id, to, uids, true)
}

func (a slowAccount) Store(id, mode int, flags []string, uids ...int) ([]int, api.Errno) {
	b := a.by(id)
	if b == nil {
		return nil, api.ErrNone
	}
	var l []int
	for i, m := range b.mails {
		if slices.Contains(uids, m.UID) {
			b.mails[i].Flags = search.Change(m.Flags, mode, flags...)
			l = append(l, m.UID)
		}
	}
	return l, api.OK
}

func (a slowAccount) Expunge(id int, all bool, uids ...int) ([]int, api.Errno) {
	b := a.by(id)
	if b == nil {
		return nil, api.ErrNone
	}
	var l []int
	var stay []api.Mail
	for _, m := range b.mails {
		if slices.Contains(m.Flags, `\Deleted`) && (all || slices.Contains(uids, m.UID)) {
			l = append(l, m.UID)
		} else {
			stay = append(stay, m)
		}
	}
	b.mails = stay
	return l, api.OK
}

func (a slowAccount) Quota() (int, int, api.Errno) {
	if a.u() == nil {
		return 0, 0, api.ErrNone
	}
	return a.use(), a.u().limit, api.OK
}

// at is a user's account.
func (s *slowStore) at(user string) slowAccount { return slowAccount{s, user} }

// nameOf is the name of a user's mailbox with a number.
func (s *slowStore) nameOf(user string, id int) string {
	for name, b := range s.users[user].boxes {
		if b.id == id {
			return name
		}
	}
	return ""
}

// textOf is a message's text.
func (s *slowStore) textOf(user, name string, uid int) string {
	l, _ := s.users[user].boxes[name].parted([]int{uid})
	return l[0].Text
}
