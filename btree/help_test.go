package btree_test

import (
	"slices"
	"strconv"
	"strings"
	"testing"

	"haversack/api"
	"haversack/btree"
	"haversack/disk"
	"haversack/node"
	"haversack/page"
	"haversack/pager"
)

const (
	quarter  = api.Room / 4
	linkRoom = api.Room - 4
)

func formatted(t *testing.T, sectors int) (*disk.Disk, *pager.Pager) {
	t.Helper()
	d, e := disk.New(sectors)
	want(t, "disk.New", e, api.OK)
	want(t, "Format", pager.Format(d), api.OK)
	return d, opened(t, d)
}

func opened(t *testing.T, d *disk.Disk) *pager.Pager {
	t.Helper()
	p, e := pager.Open(d)
	want(t, "pager.Open", e, api.OK)
	return p
}

// planted is an empty tree on a disk of its own.
func planted(t *testing.T, sectors int) (*disk.Disk, *pager.Pager, *btree.Tree) {
	t.Helper()
	d, p := formatted(t, sectors)
	return d, p, btree.At(p, 0)
}

// dead is a pager whose disk has answered it that there is no power.
func dead(t *testing.T, sectors int) *pager.Pager {
	t.Helper()
	d, p := formatted(t, sectors)
	kill(t, d, p)
	return p
}

func kill(t *testing.T, d *disk.Disk, p *pager.Pager) {
	t.Helper()
	d.Fuse(0)
	want(t, "Commit without power", p.Commit(""), api.ErrPower)
}

func want(t *testing.T, what string, e, wanted api.Errno) {
	t.Helper()
	if e != wanted {
		t.Fatalf("%s = %v; want %v", what, e, wanted)
	}
}

func put(t *testing.T, b *btree.Tree, key, value string) {
	t.Helper()
	if e := b.Put(key, value); e != api.OK {
		t.Fatalf("Put(%q, %d bytes) = %v", key, len(value), e)
	}
}

func wantDelete(t *testing.T, b *btree.Tree, count int, e api.Errno, keys ...string) {
	t.Helper()
	if n, is := b.Delete(keys...); n != count || is != e {
		t.Fatalf("Delete(%q) = %d, %v; want %d, %v", keys, n, is, count, e)
	}
}

func wantGet(t *testing.T, b *btree.Tree, key, value string) {
	t.Helper()
	if v, ok, e := b.Get(key); v != value || !ok || e != api.OK {
		t.Fatalf("Get(%q) = %q, %v, %v; want %q", key, v, ok, e, value)
	}
}

func wantNoGet(t *testing.T, b *btree.Tree, key string, wanted api.Errno) {
	t.Helper()
	if v, ok, e := b.Get(key); v != "" || ok || e != wanted {
		t.Fatalf("Get(%q) = %q, %v, %v; want nothing and %v", key, v, ok, e, wanted)
	}
}

func wantRange(t *testing.T, b *btree.Tree, from, to string, most int, wanted []api.Pair) {
	t.Helper()
	l, e := b.Range(from, to, most)
	if e != api.OK || !slices.Equal(l, wanted) {
		t.Fatalf("Range(%q, %q, %d) = %d pairs %.300q, %v; want %d pairs %.300q", from, to, most, len(l), l, e, len(wanted), wanted)
	}
}

func wantNoRange(t *testing.T, b *btree.Tree, from, to string, most int, wanted api.Errno) {
	t.Helper()
	if l, e := b.Range(from, to, most); len(l) != 0 || e != wanted {
		t.Fatalf("Range(%q, %q, %d) = %d pairs, %v; want none and %v", from, to, most, len(l), e, wanted)
	}
}

func wantLooks(t *testing.T, b *btree.Tree, root, depth int, check api.Errno) {
	t.Helper()
	if b.Root() != root || b.Depth() != depth {
		t.Fatalf("the root is %d, the depth %d; want %d, %d", b.Root(), b.Depth(), root, depth)
	}
	want(t, "Check", b.Check(), check)
}

func wantFree(t *testing.T, p *pager.Pager, wanted int) {
	t.Helper()
	if p.Free() != wanted {
		t.Fatalf("%d pages are free; want %d", p.Free(), wanted)
	}
}

// pairs are ones with keys of a prefix and three digits.
func pairs(prefix string, count int, value func(i int) string) []api.Pair {
	var l []api.Pair
	for i := range count {
		l = append(l, api.Pair{Key: prefix + strconv.Itoa(1000 + i)[1:], Value: value(i)})
	}
	return l
}

func same(v string) func(int) string { return func(int) string { return v } }

func long(n int) string { return strings.Repeat("x", n) }

// text is so many bytes, of which no two pages' worth are alike.
func text(n int) string {
	var b strings.Builder
	for i := 0; b.Len() < n; i++ {
		b.WriteString(strconv.Itoa(i) + " ")
	}
	return b.String()[:n]
}

func putAll(t *testing.T, b *btree.Tree, l []api.Pair) {
	t.Helper()
	for _, p := range l {
		put(t, b, p.Key, p.Value)
	}
}

// full takes free pages away till so many are left.
func full(t *testing.T, p *pager.Pager, left int) {
	t.Helper()
	for p.Free() > left {
		if _, e := p.Put(9, ""); e != api.OK {
			t.Fatalf("pager.Put = %v", e)
		}
	}
}

// Trees that are laid by hand.

func lay(t *testing.T, p *pager.Pager, n api.Node) int {
	t.Helper()
	kind, content, e := node.Encode(n)
	want(t, "Encode", e, api.OK)
	return layPage(t, p, kind, content)
}

func layPage(t *testing.T, p *pager.Pager, kind int, content string) int {
	t.Helper()
	page, e := p.Put(kind, content)
	want(t, "pager.Put", e, api.OK)
	return page
}

// leaf has these keys, each with the same Value.
func leaf(value string, keys ...string) api.Node {
	n := api.Node{Leaf: true, Keys: keys}
	for range keys {
		n.Items = append(n.Items, api.Item{Value: value})
	}
	return n
}

// wide is a leaf of just so many bytes (from 66 to 186), which has the key that is told, and then another one.
func wide(size int, key string) api.Node {
	n := leaf("", key, key+"+")
	for i := range n.Items {
		more := min(size-node.Size(n), api.MaxInline)
		n.Items[i].Value = long(more)
	}
	return n
}

func over(kids []int, keys ...string) api.Node {
	return api.Node{Keys: keys, Kids: kids}
}

// holding is a leaf with the key a and this item.
func holding(page, size int) api.Node {
	return api.Node{Leaf: true, Keys: []string{"a"}, Items: []api.Item{{Page: page, Size: size}}}
}

func link(next int, bytes string) string {
	return string([]byte{byte(next >> 24), byte(next >> 16), byte(next >> 8), byte(next)}) + bytes
}

// A tree as the chapter's words have it, gone through by the test itself.

type seen struct {
	pages  []int
	pairs  []api.Pair
	leaves []int // their depths
	wrong  string
}

// seenOf goes through the pages from a root on.
func seenOf(p *pager.Pager, root int) *seen {
	s := &seen{}
	if root != 0 {
		s.subtree(p, root, 1, nil, nil)
	}
	return s
}

func (s *seen) blame(wrong string) {
	if s.wrong == "" {
		s.wrong = wrong
	}
}

func (s *seen) read(p *pager.Pager, page int) (int, string) {
	if slices.Contains(s.pages, page) {
		s.blame("a page is met twice")
	}
	s.pages = append(s.pages, page)
	kind, content, e := p.Read(page)
	if e != api.OK {
		s.blame("a page can't be read")
	}
	return kind, content
}

func (s *seen) subtree(p *pager.Pager, page, depth int, from, to *string) {
	n, e := node.Decode(s.read(p, page))
	switch {
	case e != api.OK:
		s.blame("a page holds no right node")
	case depth > 1 && node.Size(n) < quarter:
		s.blame("a node takes less than a quarter")
	case len(n.Keys) == 0:
		s.blame("a leaf has no key")
	}
	for _, k := range n.Keys {
		if from != nil && k < *from || to != nil && k >= *to {
			s.blame("a key does not lie in its subtree's span")
		}
	}
	if s.wrong != "" {
		return
	}
	if n.Leaf {
		s.leaf(p, n, depth)
		return
	}
	for i, kid := range n.Kids {
		f, u := from, to
		if i > 0 {
			f = &n.Keys[i-1]
		}
		if i < len(n.Keys) {
			u = &n.Keys[i]
		}
		s.subtree(p, kid, depth+1, f, u)
	}
}

func (s *seen) leaf(p *pager.Pager, n api.Node, depth int) {
	s.leaves = append(s.leaves, depth)
	if depth > 12 || depth != s.leaves[0] {
		s.blame("a leaf lies too deep, or not as deep as the others")
	}
	for i, item := range n.Items {
		value := item.Value
		if item.Page != 0 {
			value = s.chain(p, item)
		}
		s.pairs = append(s.pairs, api.Pair{Key: n.Keys[i], Value: value})
	}
}

func (s *seen) chain(p *pager.Pager, item api.Item) string {
	value := ""
	for page := item.Page; page != 0 && s.wrong == ""; {
		kind, c := s.read(p, page)
		if kind != 3 || len(c) < 5 {
			s.blame("a page is no chain's")
			return ""
		}
		page = int(c[0])<<24 | int(c[1])<<16 | int(c[2])<<8 | int(c[3])
		if page != 0 && len(c) != api.Room {
			s.blame("a page in a chain is not full")
		}
		value += c[4:]
	}
	if len(value) != item.Size {
		s.blame("a chain has not as many bytes as its item says")
	}
	return value
}

// wantTree holds that a tree is sound, tells these pairs and no others, and that just its pages are used (with so many others).
func wantTree(t *testing.T, p *pager.Pager, b *btree.Tree, l []api.Pair, others int) {
	t.Helper()
	s := seenOf(p, b.Root())
	if s.wrong != "" {
		t.Fatalf("the tree is not sound: %s", s.wrong)
	}
	if !slices.Equal(s.pairs, l) {
		t.Fatalf("the tree has %d pairs %.300q; want %d pairs %.300q", len(s.pairs), s.pairs, len(l), l)
	}
	depth := 0
	if len(s.leaves) > 0 {
		depth = s.leaves[0]
	}
	wantLooks(t, b, b.Root(), depth, api.OK)
	wantRange(t, b, "", "", len(l)+1, l[:min(len(l), api.MaxPairs)])
	wantFree(t, p, p.Size()-2-len(s.pages)-others)
}

func rootSector(t *testing.T, gen int) []byte {
	t.Helper()
	b, e := page.SealRoot(gen, "")
	want(t, "SealRoot", e, api.OK)
	return b
}
