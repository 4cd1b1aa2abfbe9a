package btree

import "haversack/api"

// span is the keys from one on, up to another one, which is not with them, or without end.
type span struct {
	from, to string
	endless  bool
}

func (s span) has(key string) bool {
	return key >= s.from && (s.endless || key < s.to)
}

func (s span) empty() bool {
	return !s.endless && s.to <= s.from
}

// ofKid is what of a span belongs to a node's kid.
func (s span) ofKid(n api.Node, kid int) span {
	if kid > 0 {
		s.from = max(s.from, n.Keys[kid-1])
	}
	if kid < len(n.Keys) && s.hasEndBehind(n.Keys[kid]) {
		s.to, s.endless = n.Keys[kid], false
	}
	return s
}

func (s span) hasEndBehind(key string) bool {
	return s.endless || key < s.to
}

// listing is pairs of a tree that are told, at most so many.
type listing struct {
	*Tree
	most int
	told []api.Pair
}

func (l *listing) full() bool {
	return len(l.told) >= l.most
}

// subtree tells what Get would tell of the keys of a span, even where a tree is not sound: so a node counts for the keys alone that lead to it.
func (l *listing) subtree(page, depth int, s span) api.Errno {
	if page == 0 || s.empty() || l.full() {
		return api.OK
	}
	n, e := l.nodeAt(page, depth)
	if e != api.OK {
		return e
	}
	if n.Leaf {
		return l.leaf(n, s)
	}
	for i, kid := range n.Kids {
		if e := l.subtree(kid, depth+1, s.ofKid(n, i)); e != api.OK {
			return e
		}
	}
	return api.OK
}

func (l *listing) leaf(n api.Node, s span) api.Errno {
	for i, key := range n.Keys {
		if l.full() || !s.has(key) {
			continue
		}
		value, e := l.value(n.Items[i])
		if e != api.OK {
			return e
		}
		l.told = append(l.told, api.Pair{Key: key, Value: value})
	}
	return api.OK
}
