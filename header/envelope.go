package header

import (
	"slices"

	"haversack/api"
	"haversack/words"
)

// Envelope is what is told of a header.
func Envelope(l []api.Field) api.Envelope {
	from := addresses(l, "from")
	return api.Envelope{
		Date:      text(l, "date"),
		Subject:   text(l, "subject"),
		From:      from,
		Sender:    either(addresses(l, "sender"), from),
		ReplyTo:   either(addresses(l, "reply-to"), from),
		To:        addresses(l, "to"),
		Cc:        addresses(l, "cc"),
		Bcc:       addresses(l, "bcc"),
		InReplyTo: text(l, "in-reply-to"),
		ID:        text(l, "message-id"),
	}
}

// first is the value of the first field with a name, which is in small letters.
func first(l []api.Field, name string) (string, bool) {
	for _, f := range l {
		if words.Lower(f.Name) == name {
			return f.Value, true
		}
	}
	return "", false
}

func text(l []api.Field, name string) []string {
	value, is := first(l, name)
	if !is {
		return nil
	}
	return []string{Unfold(value)}
}

// addresses are those of a value as it stands in the field: texts alone are told unfolded, and at the ends of what is said a line end is a blank anyway.
func addresses(l []api.Field, name string) []api.Address {
	value, _ := first(l, name)
	return Addresses(value)
}

// either is addresses, or others, if there are none: these as a list of its own, since no two of an envelope may share one.
func either(l, others []api.Address) []api.Address {
	if len(l) == 0 {
		return slices.Clone(others)
	}
	return l
}
