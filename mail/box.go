package mail

import (
	"haversack/api"
	"haversack/names"
	"haversack/search"
)

// The flags that are counted.
const (
	seen    = `\Seen`
	deleted = `\Deleted`
)

// box is a mailbox, as it is kept beside its messages.
type box struct{ api.Status }

// kept is its numbers, but that which its key tells.
func (b *box) kept() []*int {
	return []*int{&b.Validity, &b.Next, &b.Messages, &b.Unseen, &b.Deleted, &b.Size}
}

// count counts a message that comes (by 1), or goes (by -1).
func (b *box) count(l letter, by int) {
	b.Messages += by
	b.Size += by * l.Size
	if !search.Has(l.Flags, seen) {
		b.Unseen += by
	}
	if search.Has(l.Flags, deleted) {
		b.Deleted += by
	}
}

// lay makes a mailbox with a name that none has.
func (a *Account) lay(name string) api.Errno {
	id, e := next(a.Tx, boxes)
	if e != api.OK {
		return e
	}
	validity, e := next(a.Tx, validities)
	if e != api.OK {
		return e
	}
	return first(
		setNumber(a.Tx, nameKey(a.user, name), id),
		a.save(box{api.Status{ID: id, Validity: validity, Next: 1}}),
	)
}

// save keeps a mailbox's numbers.
func (a *Account) save(b box) api.Errno {
	return set(a.Tx, boxKey(a.user, b.ID), numbers(b.kept()...).tell(""))
}

// own is the user's mailbox with a number.
func (a *Account) own(id int) (box, api.Errno) {
	b := box{api.Status{ID: id}}
	is, e := readNumbers(a.Tx, boxKey(a.user, id), b.kept()...)
	switch {
	case e != api.OK:
		return box{}, e
	case !is:
		return box{}, api.ErrNone
	}
	return b, api.OK
}

// find is the number of the mailbox with a name.
func (a *Account) find(name string) (int, api.Errno) {
	name = names.Norm(name)
	if !names.Right(name) {
		return 0, api.ErrNone
	}
	id := 0
	is, e := readNumbers(a.Tx, nameKey(a.user, name), &id)
	if e == api.OK && !is {
		return 0, api.ErrNone
	}
	return id, e
}

// named is the mailbox with a name.
func (a *Account) named(name string) (box, api.Errno) {
	id, e := a.find(name)
	if e != api.OK {
		return box{}, e
	}
	b, e := a.own(id)
	if e == api.ErrNone {
		return box{}, api.ErrBroken // a name of nothing no call made
	}
	return b, e
}
