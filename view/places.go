package view

import (
	"cmp"
	"slices"

	"haversack/api"
	"haversack/search"
)

// message is one that is known, or that the mailbox has, and its flags as they are kept. Lists of flags are never written to, so that a copy may have the same.
type message struct {
	uid   int
	flags []string
}

// places are the messages that are known, by rising UID.
type places []message

func (l places) count() int { return len(l) }

func (l places) uids() []int {
	var uids []int
	for _, m := range l {
		uids = append(uids, m.uid)
	}
	return uids
}

func (l places) uidOf(place int) int {
	if place < 1 || place > len(l) {
		return 0
	}
	return l[place-1].uid
}

func (l places) placeOf(uid int) int {
	i, is := slices.BinarySearchFunc(l, uid, func(m message, uid int) int { return cmp.Compare(m.uid, uid) })
	if !is {
		return 0
	}
	return i + 1
}

// mailbox is the messages of one; what does not come by rising UID is passed over.
func mailbox(l []api.Mail) []message {
	var box []message
	last := 0
	for _, m := range l {
		if m.UID > last {
			last = m.UID
			box = append(box, message{m.UID, search.Flags(m.Flags...)})
		}
	}
	return box
}
