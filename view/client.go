package view

import (
	"slices"

	"haversack/api"
)

// client is the UIDs that one knows by places, and the new ones that it knows of, ahead of being told of their places.
type client struct {
	uids, fresh []int
}

// hears takes in what is told, if it goes together with what is known; else nothing has changed.
func (c *client) hears(t api.Told) bool {
	switch t.Kind {
	case api.ToldExpunge:
		if !c.has(t.N) {
			return false
		}
		c.uids = slices.Delete(c.uids, t.N-1, t.N)
		return true
	case api.ToldExists:
		return c.grows(t.N)
	case api.ToldFlags:
		return c.has(t.N)
	}
	return false
}

func (c *client) has(place int) bool { return place >= 1 && place <= len(c.uids) }

// grows lets new UIDs come, till there are so many.
func (c *client) grows(count int) bool {
	if count < len(c.uids) || count-len(c.uids) > len(c.fresh) {
		return false
	}
	more := count - len(c.uids)
	c.uids = append(c.uids, c.fresh[:more]...)
	c.fresh = c.fresh[more:]
	return true
}
