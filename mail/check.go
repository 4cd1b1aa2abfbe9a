package mail

import (
	"maps"
	"slices"

	"haversack/api"
	"haversack/names"
	"haversack/txn"
)

// check goes through a store from its users on, and counts the pairs that it meets: what it does not meet may not be there.
type check struct {
	*txn.Tx
	met               int
	boxes, validities numbering
	texts             int          // how many were made
	held              map[int]held // by the texts' numbers
}

// numbering is how many of something were made, and which of these were met: none comes twice.
type numbering struct {
	made int
	met  map[int]struct{}
}

// held is how many messages hold a text, and how many bytes they say that it has.
type held struct{ count, size int }

// Check tells whether all that is kept goes together.
func Check(t *txn.Tx) api.Errno {
	l, e := pairs(t, "")
	if e != api.OK {
		return e
	}
	c := check{
		Tx:         t,
		boxes:      numbering{met: map[int]struct{}{}},
		validities: numbering{met: map[int]struct{}{}},
		held:       map[int]held{},
	}
	for _, step := range []func() api.Errno{c.counts, c.users, c.heldTexts} {
		if e := step(); e != api.OK {
			return e
		}
	}
	return must(c.met == len(l))
}

// must is what is answered where something must hold.
func must(holds bool) api.Errno {
	if !holds {
		return api.ErrBroken
	}
	return api.OK
}

// once tells whether a number was made, and is met for the first time.
func (n numbering) once(number int) bool {
	_, is := n.met[number]
	n.met[number] = struct{}{}
	return !is && number >= 1 && number <= n.made
}

// counts reads what is counted; that of which none was made has no count.
func (c *check) counts() api.Errno {
	return first(
		c.count(boxes, &c.boxes.made),
		c.count(validities, &c.validities.made),
		c.count(texts, &c.texts),
	)
}

func (c *check) count(what string, n *int) api.Errno {
	is, e := readNumbers(c.Tx, kindCount+what, n)
	if e != api.OK || !is {
		return e
	}
	c.met++
	return must(*n >= 1)
}

func (c *check) users() api.Errno {
	l, e := keys(c.Tx, kindUser)
	if e != api.OK {
		return e
	}
	for _, user := range l {
		if e := c.user(user); e != api.OK {
			return e
		}
	}
	return api.OK
}

// user looks at a user, and at all that is that one's.
func (c *check) user(user string) api.Errno {
	a := At(c.Tx, user)
	limit := 0
	password, _, e := read(c.Tx, userKey(user), &limit)
	if e != api.OK {
		return e
	}
	use, _, e := a.Quota()
	if e != api.OK {
		return e
	}
	c.met += 2
	size, e := c.all(a)
	return first(
		e,
		must(rightUser(user) && len(password) <= api.MaxName && limit >= 0 && size == use),
		c.subs(user),
	)
}

// all looks at all mailboxes of a user; it answers how many bytes they have.
func (c *check) all(a *Account) (int, api.Errno) {
	l, e := a.names()
	if e != api.OK {
		return 0, e
	}
	if !slices.Contains(l, inbox) {
		return 0, api.ErrBroken
	}
	size := 0
	for _, name := range l {
		if !rightName(name) || !allThere(l, names.Up(name)) {
			return 0, api.ErrBroken
		}
		b, e := a.named(name)
		if e == api.OK {
			e = c.box(a, b)
		}
		if e != api.OK {
			return 0, e
		}
		size += b.Size
	}
	return size, api.OK
}

// rightName tells whether a name may be kept.
func rightName(name string) bool {
	return names.Right(name) && names.Norm(name) == name
}

// allThere tells whether some names are all among others.
func allThere(l, some []string) bool {
	for _, name := range some {
		if !slices.Contains(l, name) {
			return false
		}
	}
	return true
}

// box looks at a mailbox, and at its messages.
func (c *check) box(a *Account, b box) api.Errno {
	l, e := a.letters(b.ID)
	if e != api.OK {
		return e
	}
	c.met += 2 + len(l)
	told := box{api.Status{ID: b.ID, Validity: b.Validity, Next: b.Next}}
	last := 0
	for _, one := range l {
		told.count(one, 1)
		last = one.UID
		if !c.hold(one) {
			return api.ErrBroken
		}
	}
	return must(c.boxes.once(b.ID) && c.validities.once(b.Validity) && b == told && last < b.Next)
}

// hold counts a message for its text; false, if there is no text so.
func (c *check) hold(l letter) bool {
	h, is := c.held[l.ID]
	if is && h.size != l.Size {
		return false
	}
	c.held[l.ID] = held{h.count + 1, l.Size}
	return l.ID >= 1 && l.ID <= c.texts
}

// heldTexts looks at all texts that are held.
func (c *check) heldTexts() api.Errno {
	for _, n := range slices.Sorted(maps.Keys(c.held)) {
		text, e := textOf(c.Tx, n)
		if e != api.OK {
			return e
		}
		count := 0
		_, e = readNumbers(c.Tx, heldKey(n), &count)
		h := c.held[n]
		if e := first(e, must(count == h.count && len(text) == h.size)); e != api.OK {
			return e
		}
		c.met += 2
	}
	return api.OK
}

// subs looks at what a user is subscribed to.
func (c *check) subs(user string) api.Errno {
	l, e := pairs(c.Tx, subKey(user, ""))
	if e != api.OK {
		return e
	}
	c.met += len(l)
	for _, p := range l {
		if !rightName(p.Key) || p.Value != "" {
			return api.ErrBroken
		}
	}
	return api.OK
}
