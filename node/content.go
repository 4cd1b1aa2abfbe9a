package node

import "haversack/api"

// The kinds of nodes' pages.
const (
	leafKind  = 1
	otherKind = 2
)

// How many bytes numbers have, and the byte that stands where an item lies elsewhere: no Value is so long.
const (
	countBytes = 2
	pageBytes  = 4
	sizeBytes  = 4
	elsewhere  = 255
)

func kindOf(n api.Node) int {
	if n.Leaf {
		return leafKind
	}
	return otherKind
}

// baseSize is how many bytes stand ahead of a node's keys.
func baseSize(n api.Node) int {
	if n.Leaf {
		return countBytes
	}
	return countBytes + pageBytes
}

// keySize is how many bytes a key takes, with what belongs to it.
func keySize(n api.Node, i int) int {
	size := 1 + len(n.Keys[i])
	if !n.Leaf {
		return size + pageBytes
	}
	if n.Items[i].Page > 0 {
		return size + 1 + pageBytes + sizeBytes
	}
	return size + 1 + len(n.Items[i].Value)
}

// strip is bytes that are laid one behind the other.
type strip struct {
	bytes []byte
}

// number lays a number of so many bytes, the highest one first.
func (s *strip) number(size, n int) {
	for i := range size {
		s.bytes = append(s.bytes, byte(n>>(8*(size-1-i))))
	}
}

// text lays how many bytes there are, and these.
func (s *strip) text(t string) {
	s.number(1, len(t))
	s.bytes = append(s.bytes, t...)
}

// draft is a node's content under way.
type draft struct {
	strip
}

func (d *draft) item(i api.Item) {
	if i.Page == 0 {
		d.text(i.Value)
		return
	}
	d.number(1, elsewhere)
	d.number(pageBytes, i.Page)
	d.number(sizeBytes, i.Size)
}

// contentOf is the content of a right node (with more keys than its count can tell it is too long to be asked for).
func contentOf(n api.Node) string {
	var d draft
	d.number(countBytes, len(n.Keys))
	if !n.Leaf {
		d.number(pageBytes, n.Kids[0])
	}
	for i, key := range n.Keys {
		d.text(key)
		if n.Leaf {
			d.item(n.Items[i])
		} else {
			d.number(pageBytes, n.Kids[i+1])
		}
	}
	return string(d.bytes)
}

// rest is bytes that are not read yet; short, once there were fewer than asked for.
type rest struct {
	bytes string
	short bool
}

// take is the next so many bytes.
func (r *rest) take(size int) string {
	if size > len(r.bytes) {
		r.bytes, r.short = "", true
		return ""
	}
	t := r.bytes[:size]
	r.bytes = r.bytes[size:]
	return t
}

// number is one of so many bytes, the highest one first.
func (r *rest) number(size int) int {
	n := 0
	for _, b := range []byte(r.take(size)) {
		n = n<<8 | int(b)
	}
	return n
}

// reading is a node's content that is gone through.
type reading struct {
	rest
}

func (r *reading) item() api.Item {
	size := r.number(1)
	if size == elsewhere {
		page := r.number(pageBytes)
		return api.Item{Page: page, Size: r.number(sizeBytes)}
	}
	return api.Item{Value: r.take(size)}
}

// readOut is the node that a content tells of, if it tells of one: else it is some node with another content, or one that is not right.
func readOut(leaf bool, content string) api.Node {
	r := reading{rest{bytes: content}}
	n := api.Node{Leaf: leaf}
	count := r.number(countBytes)
	if !leaf {
		n.Kids = append(n.Kids, r.number(pageBytes))
	}
	for i := 0; i < count && !r.short; i++ {
		n.Keys = append(n.Keys, r.take(r.number(1)))
		if leaf {
			n.Items = append(n.Items, r.item())
		} else {
			n.Kids = append(n.Kids, r.number(pageBytes))
		}
	}
	return n
}
