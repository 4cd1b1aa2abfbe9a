package mail

import (
	"slices"

	"haversack/api"
	"haversack/names"
)

// Create makes a mailbox.
func (a *Account) Create(name string) api.Errno {
	if e := a.ready(); e != api.OK {
		return e
	}
	name = names.Norm(name)
	if e := a.mayBe(name); e != api.OK {
		return e
	}
	return a.layAll(append(names.Up(name), name)...)
}

// mayBe tells why no mailbox can be made with a name, or get it.
func (a *Account) mayBe(name string) api.Errno {
	if !names.Right(name) {
		return api.ErrForm
	}
	_, e := a.find(name)
	switch e {
	case api.OK:
		return api.ErrThere
	case api.ErrNone:
		return api.OK
	}
	return e
}

// layAll makes those of some mailboxes that are not there.
func (a *Account) layAll(l ...string) api.Errno {
	for _, name := range l {
		_, e := a.find(name)
		if e == api.ErrNone {
			e = a.layOneMore(name)
		}
		if e != api.OK {
			return e
		}
	}
	return api.OK
}

// layOneMore makes a mailbox, if the user may have one more.
func (a *Account) layOneMore(name string) api.Errno {
	l, e := a.names()
	switch {
	case e != api.OK:
		return e
	case len(l) >= api.MaxBoxes:
		return api.ErrMany
	}
	return a.lay(name)
}

// names are those of the user's mailboxes, in order.
func (a *Account) names() ([]string, api.Errno) {
	return keys(a.Tx, nameKey(a.user, ""))
}

// Delete takes one away.
func (a *Account) Delete(name string) api.Errno {
	if e := a.ready(); e != api.OK {
		return e
	}
	name = names.Norm(name)
	if name == inbox {
		return api.ErrArg
	}
	b, e := a.named(name)
	if e != api.OK {
		return e
	}
	l, e := a.names()
	switch {
	case e != api.OK:
		return e
	case hasKids(l, name):
		return api.ErrState
	}
	gone, e := a.letters(b.ID)
	return first(e, a.drop(b, gone), a.Tx.Delete(nameKey(a.user, name), boxKey(a.user, b.ID)))
}

// hasKids tells whether one of some names is under another one.
func hasKids(l []string, above string) bool {
	return slices.ContainsFunc(l, func(name string) bool { return names.Under(name, above) })
}

// Rename gives one another name.
func (a *Account) Rename(from, to string) api.Errno {
	if e := a.ready(); e != api.OK {
		return e
	}
	from, to = names.Norm(from), names.Norm(to)
	id, e := a.find(from)
	if e != api.OK {
		return e
	}
	if e := a.mayBe(to); e != api.OK {
		return e
	}
	if from != inbox && names.Under(to, from) {
		return api.ErrArg
	}
	if e := a.layAll(names.Up(to)...); e != api.OK {
		return e
	}
	if from == inbox {
		return a.moveInbox(id, to)
	}
	return a.moveAll(from, to)
}

// moveInbox gives INBOX another name; what is under it stays there.
func (a *Account) moveInbox(id int, to string) api.Errno {
	return first(
		a.Tx.Delete(nameKey(a.user, inbox)),
		setNumber(a.Tx, nameKey(a.user, to), id),
		a.layOneMore(inbox),
	)
}

// moveAll gives a mailbox another name, and with it each one under it.
func (a *Account) moveAll(from, to string) api.Errno {
	l, e := a.names()
	if e != api.OK {
		return e
	}
	for _, name := range l {
		moved, is := names.Moved(name, from, to)
		if !is {
			continue
		}
		if e := a.move(name, moved); e != api.OK {
			return e
		}
	}
	return api.OK
}

// move gives one mailbox another name.
func (a *Account) move(from, to string) api.Errno {
	if !names.Right(to) {
		return api.ErrForm
	}
	id, e := a.find(from)
	return first(e, a.Tx.Delete(nameKey(a.user, from)), setNumber(a.Tx, nameKey(a.user, to), id))
}

// Subscribe subscribes to a name, or not any more.
func (a *Account) Subscribe(name string, on bool) api.Errno {
	if e := a.ready(); e != api.OK {
		return e
	}
	name = names.Norm(name)
	switch {
	case !names.Right(name):
		return api.ErrForm
	case on:
		return a.Put(subKey(a.user, name), "")
	}
	return a.Tx.Delete(subKey(a.user, name))
}
