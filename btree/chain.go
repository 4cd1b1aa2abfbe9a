package btree

import (
	"strings"

	"haversack/api"
)

// The kind of a chain's pages, how many bytes tell the next one, and how many bytes of a value one can have.
const (
	chainKind = 3
	nextBytes = 4
	linkRoom  = api.Room - nextBytes
)

// value is the bytes of an item, wherever they lie.
func (t *Tree) value(i api.Item) (string, api.Errno) {
	if i.Page == 0 {
		return i.Value, api.OK
	}
	return t.along(i, func(int) api.Errno { return api.OK })
}

// along goes along the chain of an item, if it has one, and does something with each page ahead of reading it; all its bytes.
func (t *Tree) along(i api.Item, each func(page int) api.Errno) (string, api.Errno) {
	var all strings.Builder
	page, left := i.Page, i.Size
	for left > 0 {
		if e := each(page); e != api.OK {
			return "", e
		}
		next, bytes, e := t.link(page)
		if e != api.OK {
			return "", e
		}
		if len(bytes) != min(left, linkRoom) {
			return "", api.ErrBroken
		}
		all.WriteString(bytes)
		page, left = next, left-len(bytes)
		if (page == 0) != (left == 0) {
			return "", api.ErrBroken
		}
	}
	return all.String(), api.OK
}

// link is what a page of a chain holds: the next one, and bytes.
func (t *Tree) link(page int) (int, string, api.Errno) {
	kind, content, e := t.Read(page)
	if e != api.OK {
		return 0, "", e
	}
	if kind != chainKind || len(content) < nextBytes {
		return 0, "", api.ErrBroken
	}
	next := 0
	for _, b := range []byte(content[:nextBytes]) {
		next = next<<8 | int(b)
	}
	return next, content[nextBytes:], api.OK
}

// linkOf is the content of such a page.
func linkOf(next int, bytes string) string {
	b := make([]byte, nextBytes, api.Room)
	for i := range b {
		b[i] = byte(next >> (8 * (nextBytes - 1 - i)))
	}
	return string(append(b, bytes...))
}
