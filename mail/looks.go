package mail

import (
	"haversack/api"
	"haversack/names"
)

// List is the mailboxes that match.
func (a *Account) List(ref, pattern string) ([]api.Listed, api.Errno) {
	e := a.ready()
	if e == api.ErrNone {
		return nil, api.OK
	}
	if e != api.OK {
		return nil, e
	}
	l, e := a.names()
	if e != api.OK {
		return nil, e
	}
	var told []api.Listed
	for _, name := range matching(l, ref+pattern) {
		told = append(told, api.Listed{Name: name, Use: useOf(name), Kids: hasKids(l, name)})
	}
	return told, api.OK
}

// useOf is what a mailbox is for.
func useOf(name string) string {
	switch name {
	case "Archive", "Drafts", "Junk", "Sent", "Trash":
		return `\` + name
	}
	return ""
}

// matching are those of some names that match a pattern.
func matching(l []string, pattern string) []string {
	var some []string
	for _, name := range l {
		if names.Match(pattern, name) {
			some = append(some, name)
		}
	}
	return some
}

// Lsub is the names that are subscribed to, and match.
func (a *Account) Lsub(ref, pattern string) ([]string, api.Errno) {
	e := a.ready()
	if e == api.ErrNone {
		return nil, api.OK
	}
	if e != api.OK {
		return nil, e
	}
	l, e := keys(a.Tx, subKey(a.user, ""))
	if e != api.OK {
		return nil, e
	}
	return matching(l, ref+pattern), api.OK
}

// Status is what is told of a mailbox.
func (a *Account) Status(name string) (api.Status, api.Errno) {
	if e := a.ready(); e != api.OK {
		return api.Status{}, e
	}
	b, e := a.named(name)
	return b.Status, e
}

// Mails are a mailbox's messages.
func (a *Account) Mails(id int) ([]api.Mail, api.Errno) {
	if _, e := a.numbered(id); e != api.OK {
		return nil, e
	}
	l, e := a.letters(id)
	if e != api.OK {
		return nil, e
	}
	mails := make([]api.Mail, len(l))
	for i, m := range l {
		mails[i] = m.Mail
	}
	return mails, api.OK
}

// Text is a message's text.
func (a *Account) Text(id, uid int) (string, api.Errno) {
	if _, e := a.numbered(id); e != api.OK {
		return "", e
	}
	record, is, e := a.Get(mailKey(id, uid))
	switch {
	case e != api.OK:
		return "", e
	case !is:
		return "", api.ErrNone
	}
	l, ok := letterOf(record)
	if !ok {
		return "", api.ErrBroken
	}
	return textOf(a.Tx, l.ID)
}
