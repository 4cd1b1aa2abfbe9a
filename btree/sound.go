package btree

import (
	"haversack/api"
	"haversack/node"
)

// look tells whether a tree is sound. Each page is claimed ahead of reading it.
func (t *Tree) look(claim func(page int) api.Errno) api.Errno {
	if t.root == 0 {
		return api.OK
	}
	l := &looking{Tree: t, claim: claim}
	return blamed(l.subtree(t.root, 1, span{endless: true}))
}

// looking is a look at a tree under way; leaves is the depth of those that were met.
type looking struct {
	*Tree
	claim  func(page int) api.Errno
	leaves int
}

// subtree looks at one whose keys must lie in a span.
func (l *looking) subtree(page, depth int, s span) api.Errno {
	if e := l.claim(page); e != api.OK {
		return e
	}
	n, e := l.nodeAt(page, depth)
	if e != api.OK {
		return e
	}
	if depth > 1 && node.Size(n) < least || !within(n, s) {
		return api.ErrBroken
	}
	if n.Leaf {
		return l.leaf(n, depth)
	}
	for i, kid := range n.Kids {
		if e := l.subtree(kid, depth+1, s.ofKid(n, i)); e != api.OK {
			return e
		}
	}
	return api.OK
}

func within(n api.Node, s span) bool {
	for _, key := range n.Keys {
		if !s.has(key) {
			return false
		}
	}
	return true
}

func (l *looking) leaf(n api.Node, depth int) api.Errno {
	if l.leaves == 0 {
		l.leaves = depth
	}
	if depth != l.leaves || len(n.Keys) == 0 {
		return api.ErrBroken
	}
	for _, i := range n.Items {
		if _, e := l.along(i, l.claim); e != api.OK {
			return e
		}
	}
	return api.OK
}
