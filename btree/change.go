package btree

import (
	"slices"

	"haversack/api"
	"haversack/node"
)

// least is how many bytes a node takes, if it is not the root.
const least = api.Room / 4

// somePage stands for a page that is not known yet: the pages' numbers do not change how long a node is.
const somePage = 2

// step is a node on the way to a leaf, and by which kid the way goes on; of the leaf, where the key is, or belongs.
type step struct {
	page int
	node api.Node
	at   int
	is   bool
}

// way is the steps to a leaf, the root first.
type way []step

func (w way) leaf() step {
	return w[len(w)-1]
}

// wayTo is the way to the leaf that a key belongs to: in an empty tree one without keys, that lies nowhere.
func (t *Tree) wayTo(key string) (way, api.Errno) {
	var w way
	e := t.down(key, func(page int, n api.Node) {
		at, is := node.Find(n, key)
		w = append(w, step{page, n, at, is})
	})
	if e != api.OK {
		return nil, e
	}
	if len(w) == 0 {
		w = way{step{node: api.Node{Leaf: true}}}
	}
	return w, api.OK
}

// remove is that one key is not there; whether it was.
func (t *Tree) remove(key string) (bool, api.Errno) {
	w, e := t.wayTo(key)
	if e != api.OK || !w.leaf().is {
		return false, blamed(e)
	}
	e = t.change(w, func(d *deed) (api.Node, api.Errno) { return d.without() })
	return e == api.OK, e
}

// change changes the leaf of a way, and the nodes above it. It is done twice: once as a trial, which writes nothing and so finds whatever there is to refuse, and once in earnest, which can fail by want of power alone.
func (t *Tree) change(w way, edit func(*deed) (api.Node, api.Errno)) api.Errno {
	pages := 0
	trial := deed{Tree: t, way: w, lay: func(int, string) (int, api.Errno) {
		pages++
		return somePage, api.OK
	}}
	if _, e := trial.do(edit); e != api.OK {
		return blamed(e)
	}
	if e := t.Use(); e != api.OK {
		return e
	}
	if t.Free() < pages {
		return api.ErrFull
	}
	d := deed{Tree: t, way: w, lay: t.Pager.Put}
	root, e := d.do(edit)
	if e != api.OK {
		return blamed(e)
	}
	t.root = root
	d.dropGone()
	return api.OK
}

// deed is a change of a tree under way: how pages are laid, and which ones are in the tree no more behind it.
type deed struct {
	*Tree
	way
	lay  func(kind int, content string) (int, api.Errno)
	gone []int
}

// do answers the new root.
func (d *deed) do(edit func(*deed) (api.Node, api.Errno)) (int, api.Errno) {
	n, e := edit(d)
	for i := len(d.way) - 1; i >= 0 && e == api.OK; i-- {
		d.gone = append(d.gone, d.way[i].page)
		if i == 0 {
			return d.top(n)
		}
		n, e = d.under(d.way[i-1], n)
	}
	return 0, e
}

// with is the leaf with a key that has a value.
func (d *deed) with(key, value string) (api.Node, api.Errno) {
	at, n := d.leaf().at, d.leaf().node
	if d.leaf().is {
		shorter, e := d.without()
		if e != api.OK {
			return api.Node{}, e
		}
		n = shorter
	}
	item, e := d.item(value)
	if e != api.OK {
		return api.Node{}, e
	}
	return node.With(n, at, key, item), api.OK
}

// without is the leaf without the key.
func (d *deed) without() (api.Node, api.Errno) {
	at, n := d.leaf().at, d.leaf().node
	forget := func(page int) api.Errno {
		d.gone = append(d.gone, page)
		return api.OK
	}
	if _, e := d.along(n.Items[at], forget); e != api.OK {
		return api.Node{}, e
	}
	return node.With(n, at, ""), api.OK
}

// item lays a value: the last page of a chain first, since each one tells the next.
func (d *deed) item(value string) (api.Item, api.Errno) {
	if len(value) <= api.MaxInline {
		return api.Item{Value: value}, api.OK
	}
	page := 0
	for end := len(value); end > 0; {
		from := (end - 1) / linkRoom * linkRoom
		next, e := d.lay(chainKind, linkOf(page, value[from:end]))
		if e != api.OK {
			return api.Item{}, e
		}
		page, end = next, from
	}
	return api.Item{Page: page, Size: len(value)}, api.OK
}

// under lays a kid that has changed; the node above it as it is then.
func (d *deed) under(above step, n api.Node) (api.Node, api.Errno) {
	first, count := above.at, 1
	if node.Size(n) < least {
		first, count = min(above.at, len(above.node.Keys)-1), 2
		joined, e := d.joined(above, first, n)
		if e != api.OK {
			return api.Node{}, e
		}
		n = joined
	}
	kids, keys, e := d.cut(n)
	if e != api.OK {
		return api.Node{}, e
	}
	return api.Node{
		Keys: slices.Replace(slices.Clone(above.node.Keys), first, first+count-1, keys...),
		Kids: slices.Replace(slices.Clone(above.node.Kids), first, first+count, kids...),
	}, api.OK
}

// joined is a kid together with the one beside it: these two are the first one told, and the next.
func (d *deed) joined(above step, first int, n api.Node) (api.Node, api.Errno) {
	beside := first
	if first == above.at {
		beside++
	}
	page := above.node.Kids[beside]
	other, e := d.nodeOf(page)
	if e != api.OK {
		return api.Node{}, e
	}
	if other.Leaf != n.Leaf {
		return api.Node{}, api.ErrBroken
	}
	d.gone = append(d.gone, page)
	if beside == first {
		return node.Join(other, above.node.Keys[first], n), api.OK
	}
	return node.Join(n, above.node.Keys[first], other), api.OK
}

// cut lays a node, as two if it is too long: their pages, and the key between. One that is too long has keys enough to be split.
func (d *deed) cut(n api.Node) ([]int, []string, api.Errno) {
	parts, keys := []api.Node{n}, []string{}
	if node.Size(n) > api.Room {
		a, key, b, _ := node.Split(n)
		parts, keys = []api.Node{a, b}, []string{key}
	}
	pages := []int{}
	for _, part := range parts {
		page, e := d.layNode(part)
		if e != api.OK {
			return nil, nil, e
		}
		pages = append(pages, page)
	}
	return pages, keys, api.OK
}

func (d *deed) layNode(n api.Node) (int, api.Errno) {
	kind, content, e := node.Encode(n)
	if e != api.OK {
		return 0, e
	}
	return d.lay(kind, content)
}

// top lays the root: one above it, if it is cut; none, if it has no keys.
func (d *deed) top(n api.Node) (int, api.Errno) {
	if len(n.Keys) == 0 {
		if n.Leaf {
			return 0, api.OK
		}
		return n.Kids[0], api.OK
	}
	kids, keys, e := d.cut(n)
	if e != api.OK {
		return 0, e
	}
	if len(kids) == 1 {
		return kids[0], api.OK
	}
	return d.layNode(api.Node{Keys: keys, Kids: kids})
}

// dropGone drops what is in the tree no more. What was dropped ahead, while a tree of an older gen was changed, is refused, and stays so.
func (d *deed) dropGone() {
	for _, page := range d.gone {
		d.Drop(page)
	}
}
