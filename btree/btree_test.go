package btree_test

import (
	"math"
	"slices"
	"strings"
	"testing"

	"haversack/api"
	"haversack/btree"
	"haversack/node"
	"haversack/pager"
)

func TestExample(t *testing.T) {
	_, p, b := planted(t, 20)
	wantLooks(t, b, 0, 0, api.OK)
	put(t, b, "b", "1")
	put(t, b, "a", "2")
	wantRange(t, b, "", "", 9, []api.Pair{{Key: "a", Value: "2"}, {Key: "b", Value: "1"}})
	if b.Depth() != 1 {
		t.Fatalf("Depth = %d", b.Depth())
	}
	wantDelete(t, b, 1, api.OK, "a", "x")
	wantTree(t, p, b, []api.Pair{{Key: "b", Value: "1"}}, 0)
}

// P5.1 and P5.4: which trees are sound

// laid is a tree that is laid by hand, and what Check and Open tell of it.
type laid struct {
	what string
	tree func(t *testing.T, p *pager.Pager) int
	e    api.Errno
}

func one(n api.Node) func(t *testing.T, p *pager.Pager) int {
	return func(t *testing.T, p *pager.Pager) int { return lay(t, p, n) }
}

// two is a root over two leaves.
func two(a api.Node, key string, b api.Node) func(t *testing.T, p *pager.Pager) int {
	return func(t *testing.T, p *pager.Pager) int {
		return lay(t, p, over([]int{lay(t, p, a), lay(t, p, b)}, key))
	}
}

// chained is a leaf with a value of so many bytes, whose chain has pages with these contents; the next page is told each, and 0 the last one.
func chained(size int, bytes ...string) func(t *testing.T, p *pager.Pager) int {
	return func(t *testing.T, p *pager.Pager) int {
		page := 0
		for _, b := range slices.Backward(bytes) {
			page = layPage(t, p, 3, link(page, b))
		}
		return lay(t, p, holding(page, size))
	}
}

// sole is a leaf with a value of so many bytes in one page.
func sole(size, kind int, content string) func(t *testing.T, p *pager.Pager) int {
	return func(t *testing.T, p *pager.Pager) int { return lay(t, p, holding(layPage(t, p, kind, content), size)) }
}

func leaves() []laid {
	a, m := wide(quarter, "a"), wide(quarter, "m")
	return []laid{
		{"a leaf of one key", one(leaf("", "a")), api.OK},
		{"a leaf of the empty key", one(leaf("", "")), api.OK},
		{"a leaf without keys", one(leaf("")), api.ErrBroken},
		{"leaves of a quarter", two(a, "m", m), api.OK},
		{"a key between", two(a, "f", m), api.OK},
		{"a key next to the first leaf's last one", two(a, "a+\x00", m), api.OK},
		{"a key that is the first leaf's last one", two(a, "a+", m), api.ErrBroken},
		{"a key that is below the first leaf's", two(a, "A", m), api.ErrBroken},
		{"a key that is the first leaf's first one", two(a, "a", m), api.ErrBroken},
		{"a key above the other leaf's first one", two(a, "m\x00", m), api.ErrBroken},
		{"a key above the other leaf's", two(a, "z", m), api.ErrBroken},
		{"a key that is empty", two(a, "", m), api.ErrBroken},
		{"leaves the other way round", two(m, "m", a), api.ErrBroken},
		{"a first leaf of less than a quarter", two(wide(quarter-1, "a"), "m", m), api.ErrBroken},
		{"another leaf of less than a quarter", two(a, "m", wide(quarter-1, "m")), api.ErrBroken},
		{"a first leaf without keys", two(leaf(""), "m", m), api.ErrBroken},
		{"another leaf without keys", two(a, "m", leaf("")), api.ErrBroken},
	}
}

func chains() []laid {
	full := text(linkRoom)
	return []laid{
		{"a chain of MaxInline bytes and one", chained(61, text(61)), api.OK},
		{"a chain of one page", chained(linkRoom, full), api.OK},
		{"a chain of one page and a byte", chained(linkRoom+1, full, "y"), api.OK},
		{"a chain of two pages", chained(2*linkRoom, full, full), api.OK},
		{"a chain that is too short by a byte", chained(62, text(61)), api.ErrBroken},
		{"a chain that is too long by a byte", chained(61, text(62)), api.ErrBroken},
		{"a chain that is too short by a page", chained(linkRoom+1, full), api.ErrBroken},
		{"a chain that is too long by a page", chained(linkRoom, full, full), api.ErrBroken},
		{"a chain whose last page is empty", chained(linkRoom, full, ""), api.ErrBroken},
		{"a chain whose last page is empty, and should not", chained(linkRoom+1, full, ""), api.ErrBroken},
		{"a chain whose first page is not full", chained(linkRoom, full[:400], full[:88]), api.ErrBroken},
		{"a chain whose first page is not full, of two", chained(linkRoom+1, full[1:], "xy"), api.ErrBroken},
		{"a chain with an empty page between", chained(linkRoom+1, full, "", "y"), api.ErrBroken},
		{"a chain's page of the kind 1", sole(61, 1, link(0, text(61))), api.ErrBroken},
		{"a chain's page of the kind 2", sole(61, 2, link(0, text(61))), api.ErrBroken},
		{"a chain's page of the kind 4", sole(61, 4, link(0, text(61))), api.ErrBroken},
		{"a chain's page without bytes", sole(61, 3, ""), api.ErrBroken},
		{"a chain's page of three bytes", sole(61, 3, "\x00\x00\x00"), api.ErrBroken},
		{"a chain's page of four bytes", sole(61, 3, link(0, "")), api.ErrBroken},
		{"a chain that goes on at no page", sole(linkRoom+1, 3, link(1, full)), api.ErrBroken},
		{"a chain that goes on at a page that is free", sole(linkRoom+1, 3, link(60, full)), api.ErrBroken},
		{"a chain that goes on beyond the disk", sole(linkRoom+1, 3, link(1<<31, full)), api.ErrBroken},
		{"a chain that begins at a free page", one(holding(60, 61)), api.ErrBroken},
		{"a chain that begins beyond the disk", one(holding(api.MaxSectors-1, 61)), api.ErrBroken},
		{"a chain that goes on at itself", sole(2*linkRoom, 3, link(2, full)), api.ErrBroken},
		{"a chain that goes on at its leaf", func(t *testing.T, p *pager.Pager) int {
			return lay(t, p, holding(layPage(t, p, 3, link(3, full)), 2*linkRoom))
		}, api.ErrBroken},
		{"two keys with one chain", func(t *testing.T, p *pager.Pager) int {
			n := holding(layPage(t, p, 3, link(0, text(61))), 61)
			n.Keys, n.Items = []string{"a", "b"}, []api.Item{n.Items[0], n.Items[0]}
			return lay(t, p, n)
		}, api.ErrBroken},
		{"two chains with one end", func(t *testing.T, p *pager.Pager) int {
			end := layPage(t, p, 3, link(0, "y"))
			n := holding(layPage(t, p, 3, link(end, full)), linkRoom+1)
			n.Keys = []string{"a", "b"}
			n.Items = append(n.Items, api.Item{Page: layPage(t, p, 3, link(end, full)), Size: linkRoom + 1})
			return lay(t, p, n)
		}, api.ErrBroken},
		{"a broken chain of a later key", func(t *testing.T, p *pager.Pager) int {
			n := leaf("v", "a", "b", "c")
			n.Items[1] = api.Item{Page: layPage(t, p, 3, link(0, text(62))), Size: 61}
			return lay(t, p, n)
		}, api.ErrBroken},
	}
}

// high lays a root over two nodes, each over three leaves; first it asks for each of these nine in turn what is laid instead.
func high(instead func(t *testing.T, p *pager.Pager, at int, n api.Node) int) func(t *testing.T, p *pager.Pager) int {
	return func(t *testing.T, p *pager.Pager) int {
		var kids [6]int
		for i, k := range []string{"a", "d", "f", "g", "j", "l"} {
			kids[i] = instead(t, p, i, wide(quarter, k))
		}
		left := instead(t, p, 6, over(kids[:3], "c"+long(58), "e"+long(58)))
		right := instead(t, p, 7, over(kids[3:], "i"+long(58), "k"+long(58)))
		return instead(t, p, 8, over([]int{left, right}, "g"))
	}
}

func asItIs(t *testing.T, p *pager.Pager, at int, n api.Node) int { return lay(t, p, n) }

// swapped lays something else at one place.
func swapped(place int, other func(t *testing.T, p *pager.Pager, n api.Node) int) func(t *testing.T, p *pager.Pager) int {
	return high(func(t *testing.T, p *pager.Pager, at int, n api.Node) int {
		if at == place {
			return other(t, p, n)
		}
		return lay(t, p, n)
	})
}

// keyed is a node with other keys.
func keyed(keys ...string) func(t *testing.T, p *pager.Pager, n api.Node) int {
	return func(t *testing.T, p *pager.Pager, n api.Node) int {
		n.Keys = keys
		return lay(t, p, n)
	}
}

func levels() []laid {
	c, e := "c"+long(58), "e"+long(58)
	page := func(page int) func(t *testing.T, p *pager.Pager, n api.Node) int {
		return func(t *testing.T, p *pager.Pager, n api.Node) int { return page }
	}
	return []laid{
		{"three levels", high(asItIs), api.OK},
		{"a node with fewer bytes than a quarter", swapped(6, keyed(c, "e")), api.ErrBroken},
		{"a node with just a quarter", swapped(6, keyed(c[:48], e)), api.OK},
		{"a node with just less than a quarter", swapped(6, keyed(c[:47], e)), api.ErrBroken},
		{"a first node with a key of the other one", swapped(6, keyed(c, "g"+long(58))), api.ErrBroken},
		{"a first node with the key behind it", swapped(8, keyed(e)), api.ErrBroken},
		{"another node with a key of the first one", swapped(7, keyed(e, "k"+long(58))), api.ErrBroken},
		{"another node with the key ahead of it", swapped(8, keyed("i"+long(58))), api.ErrBroken},
		{"leaves that do not lie equally deep, the first ones less", swapped(6, func(t *testing.T, p *pager.Pager, n api.Node) int { return n.Kids[0] }), api.ErrBroken},
		{"leaves that do not lie equally deep, the first ones more", swapped(7, func(t *testing.T, p *pager.Pager, n api.Node) int { return n.Kids[0] }), api.ErrBroken},
		{"a leaf that is met twice", swapped(3, page(2)), api.ErrBroken},
		{"a node that is met twice", swapped(7, page(8)), api.ErrBroken},
		{"a node that is its own kid", swapped(6, func(t *testing.T, p *pager.Pager, n api.Node) int {
			n.Kids = []int{8, 2, 3}
			return lay(t, p, n)
		}), api.ErrBroken},
		{"a root that is its own kid", func(t *testing.T, p *pager.Pager) int { return lay(t, p, over([]int{2, 2}, "a")) }, api.ErrBroken},
		{"a leaf that is a free page", swapped(4, page(60)), api.ErrBroken},
		{"a leaf beyond the disk", swapped(4, page(api.MaxSectors-1)), api.ErrBroken},
		{"a leaf that is a chain's page", swapped(4, func(t *testing.T, p *pager.Pager, n api.Node) int {
			return layPage(t, p, 3, link(0, text(61)))
		}), api.ErrBroken},
		{"a leaf of another kind", swapped(5, func(t *testing.T, p *pager.Pager, n api.Node) int {
			_, content, _ := node.Encode(n)
			return layPage(t, p, 2, content)
		}), api.ErrBroken},
		{"a leaf with a byte more", swapped(5, func(t *testing.T, p *pager.Pager, n api.Node) int {
			_, content, _ := node.Encode(n)
			return layPage(t, p, 1, content+"\x00")
		}), api.ErrBroken},
	}
}

func allLaid() []laid { return slices.Concat(leaves(), chains(), levels()) }

const laidSectors = 64

func TestCheckTellsSoundTrees(t *testing.T) {
	for _, c := range allLaid() {
		_, p := formatted(t, laidSectors)
		root := c.tree(t, p)
		free := p.Free()
		want(t, "Check of "+c.what, btree.At(p, root).Check(), c.e)
		wantFree(t, p, free)
		// The words of the test itself are the same.
		if s := seenOf(p, root); (s.wrong == "") != (c.e == api.OK) {
			t.Fatalf("%s: %q", c.what, s.wrong)
		}
	}
}

func TestOpenTakesSoundTreesAlone(t *testing.T) {
	for _, c := range allLaid() {
		d, p := formatted(t, laidSectors)
		root := c.tree(t, p)
		want(t, "Commit", p.Commit(""), api.OK)
		q := opened(t, d)
		b, e := btree.Open(q, root)
		want(t, "Open of "+c.what, e, c.e)
		if e != api.OK {
			if b != nil {
				t.Fatalf("Open of %s answers a tree", c.what)
			}
			continue
		}
		wantFree(t, q, p.Free())
		wantTree(t, q, b, seenOf(p, root).pairs, 0)
	}
}

// notPages are numbers that are no page's on a disk of so many sectors.
func notPages(sectors int) []int {
	return []int{math.MinInt, -2, -1, 1, sectors, sectors + 1, api.MaxSectors, 1 << 32, math.MaxInt}
}

func TestRootsThatAreNoPages(t *testing.T) {
	for _, root := range append(notPages(20), 7) {
		_, p := formatted(t, 20)
		put(t, btree.At(p, 0), "a", "1") // the page 2
		b := btree.At(p, root)
		want(t, "Check", b.Check(), api.ErrBroken)
		wantNoGet(t, b, "a", api.ErrRange)
		wantNoRange(t, b, "", "", 9, api.ErrRange)
		want(t, "Put", b.Put("a", "1"), api.ErrBroken)
		wantDelete(t, b, 0, api.ErrBroken, "a")
		if b.Root() != root || b.Depth() != 0 {
			t.Fatalf("At(%d): the root is %d, the depth %d", root, b.Root(), b.Depth())
		}
		wantFree(t, p, 17)
	}
	for _, root := range notPages(20) {
		_, p := formatted(t, 20)
		b, e := btree.Open(p, root)
		if want(t, "Open", e, api.ErrBroken); b != nil {
			t.Fatal("Open answers a tree beside ErrBroken")
		}
	}
}

func TestRootsThatAreNoNodes(t *testing.T) {
	_, content, _ := node.Encode(leaf("", "a"))
	for _, c := range []struct {
		kind    int
		content string
	}{{0, content}, {2, content}, {3, content}, {4, content}, {255, content}, {1, ""}, {1, "\x00"}, {1, content[1:]}, {1, content + " "}, {2, ""}} {
		d, p := formatted(t, 20)
		b := btree.At(p, layPage(t, p, c.kind, c.content))
		wantBroken(t, p, b)
		want(t, "Commit", p.Commit(""), api.OK)
		_, e := btree.Open(opened(t, d), b.Root())
		want(t, "Open", e, api.ErrBroken)
	}
}

// wantBroken holds that nothing can be done with a tree, and that nothing is.
func wantBroken(t *testing.T, p *pager.Pager, b *btree.Tree) {
	t.Helper()
	root, free, steps := b.Root(), p.Free(), p.Steps()
	wantLooks(t, b, root, 0, api.ErrBroken)
	wantNoGet(t, b, "a", api.ErrBroken)
	wantNoRange(t, b, "", "", 9, api.ErrBroken)
	want(t, "Put", b.Put("a", "1"), api.ErrBroken)
	want(t, "Put of a long value", b.Put("a", text(100)), api.ErrBroken)
	wantDelete(t, b, 0, api.ErrBroken, "a")
	if b.Root() != root || p.Free() != free || p.Steps() != steps {
		t.Fatal("a call that was refused did something")
	}
}

func TestSectorsThatAreDamaged(t *testing.T) {
	d, p := formatted(t, 20)
	b := btree.At(p, 0)
	put(t, b, "a", "1")
	want(t, "Commit", p.Commit(""), api.OK)
	sector, _ := d.Read(b.Root())
	sector[20] ^= 1
	want(t, "Write", d.Write(b.Root(), sector), api.OK)
	wantBroken(t, p, b)
	_, e := btree.Open(opened(t, d), b.Root())
	want(t, "Open", e, api.ErrBroken)
}

// Each page of a tree is damaged in turn.
func TestEachPageThatIsDamaged(t *testing.T) {
	d, p, b := planted(t, 100)
	l := pairs("k", 40, func(i int) string { return text(i * 30) })
	putAll(t, b, l)
	want(t, "Commit", p.Commit(""), api.OK)
	for _, page := range seenOf(p, b.Root()).pages {
		c := d.Copy()
		want(t, "Write", c.Write(page, make([]byte, api.Sector)), api.OK)
		q := opened(t, c)
		_, e := btree.Open(q, b.Root())
		want(t, "Open", e, api.ErrBroken)
		q = opened(t, c)
		want(t, "Use", q.Use(seenOf(p, b.Root()).pages...), api.OK)
		x := btree.At(q, b.Root())
		want(t, "Check", x.Check(), api.ErrBroken)
		wantNoRange(t, x, "", "", 100, api.ErrBroken)
		lost := 0
		for _, k := range l {
			switch v, ok, e := x.Get(k.Key); {
			case e == api.ErrBroken && v == "" && !ok:
				lost++
			case v != k.Value || !ok || e != api.OK:
				t.Fatalf("Get(%q) = %q, %v, %v", k.Key, v, ok, e)
			}
		}
		if lost == 0 {
			t.Fatalf("the page %d is none that is read", page)
		}
	}
}

// P5.1

func TestOpenUsesTheTreesPages(t *testing.T) {
	d, p, b := planted(t, 200)
	l := pairs("k", 60, func(i int) string { return text(i * 40) })
	putAll(t, b, l)
	pages := seenOf(p, b.Root()).pages
	want(t, "Commit", p.Commit("r"), api.OK)
	q := opened(t, d)
	c, e := btree.Open(q, b.Root())
	want(t, "Open", e, api.OK)
	for _, page := range pages {
		want(t, "Use of a page of the tree", q.Use(page), api.ErrThere)
	}
	wantTree(t, q, c, l, 0)
	// What is put now lies beside it.
	put(t, c, "z", "1")
	wantTree(t, q, btree.At(q, b.Root()), l, 1+c.Depth()-1)
	// It is not fresh: what is dropped stays till a commit.
	_, e = btree.Open(q, b.Root())
	want(t, "Open once more", e, api.ErrBroken)
}

func TestOpenOfAnEmptyTree(t *testing.T) {
	_, p := formatted(t, 20)
	b, e := btree.Open(p, 0)
	want(t, "Open", e, api.OK)
	wantTree(t, p, b, nil, 0)
	wantLooks(t, b, 0, 0, api.OK)
	put(t, b, "a", "1")
	wantGet(t, b, "a", "1")
}

func TestOpenOfPagesThatAreUsed(t *testing.T) {
	d, p, b := planted(t, 40)
	putAll(t, b, pairs("k", 20, same(long(60))))
	want(t, "Commit", p.Commit(""), api.OK)
	for _, page := range seenOf(p, b.Root()).pages {
		q := opened(t, d)
		want(t, "Use", q.Use(page), api.OK)
		c, e := btree.Open(q, b.Root())
		if want(t, "Open", e, api.ErrBroken); c != nil {
			t.Fatal("Open answers a tree beside ErrBroken")
		}
	}
}

func TestOpenWithoutAPager(t *testing.T) {
	for _, p := range []*pager.Pager{nil, {}} {
		for _, root := range []int{-1, 0, 1, 2} {
			b, e := btree.Open(p, root)
			if want(t, "Open", e, api.ErrNil); b != nil {
				t.Fatal("Open answers a tree beside ErrNil")
			}
			if btree.At(p, root) != nil {
				t.Fatal("At answers a tree without a pager")
			}
		}
	}
}

func TestOpenWithoutPower(t *testing.T) {
	for _, root := range []int{-1, 0, 1, 2} {
		b, e := btree.Open(dead(t, 20), root)
		if want(t, "Open", e, api.ErrPower); b != nil {
			t.Fatal("Open answers a tree beside ErrPower")
		}
	}
	// The pager does not know yet.
	d, p, b := planted(t, 20)
	put(t, b, "a", "1")
	want(t, "Commit", p.Commit(""), api.OK)
	q := opened(t, d)
	d.Fuse(0)
	d.Flush()
	_, e := btree.Open(q, b.Root())
	want(t, "Open", e, api.ErrPower)
}

// At looks at nothing, so a tree may be one only later.
func TestAtDoesNotLook(t *testing.T) {
	_, p := formatted(t, 20)
	b := btree.At(p, 2)
	wantNoGet(t, b, "a", api.ErrRange)
	put(t, btree.At(p, 0), "a", "1")
	wantGet(t, b, "a", "1")
	if b = btree.At(dead(t, 20), 0); b == nil || b.Root() != 0 {
		t.Fatal("At answers nothing on a pager without power")
	}
}

// P5.2

func TestGetOfValuesOfAllLengths(t *testing.T) {
	_, p, b := planted(t, 300)
	lengths := []int{0, 1, 59, api.MaxInline, api.MaxInline + 1, linkRoom - 1, linkRoom, linkRoom + 1, 2 * linkRoom, 2*linkRoom + 1, 10000, api.MaxValue - 1, api.MaxValue}
	var l []api.Pair
	for i, n := range lengths {
		l = append(l, api.Pair{Key: string(rune('a' + i)), Value: text(n)})
		put(t, b, l[i].Key, l[i].Value)
		wantGet(t, b, l[i].Key, l[i].Value)
	}
	wantTree(t, p, b, l, 0)
}

// A value of MaxInline bytes lies in its leaf, a longer one in pages of its own.
func TestWhereValuesLie(t *testing.T) {
	for n, pages := range map[int]int{0: 1, api.MaxInline: 1, api.MaxInline + 1: 2, linkRoom: 2, linkRoom + 1: 3, 2 * linkRoom: 3, 2*linkRoom + 1: 4, api.MaxValue: 1 + (api.MaxValue+linkRoom-1)/linkRoom} {
		_, p, b := planted(t, 200)
		put(t, b, "a", text(n))
		wantFree(t, p, 198-pages)
		wantTree(t, p, b, []api.Pair{{Key: "a", Value: text(n)}}, 0)
	}
}

func TestGetOfKeysOfAllLengths(t *testing.T) {
	_, p, b := planted(t, 60)
	var l []api.Pair
	for n := range api.MaxKey + 1 {
		l = append(l, api.Pair{Key: long(n), Value: long(n)})
	}
	putAll(t, b, l)
	wantTree(t, p, b, l, 0)
	for _, k := range l {
		wantGet(t, b, k.Key, k.Value)
		if k.Key != "" {
			wantNoGet(t, b, k.Key[1:]+"w", api.OK)
			wantNoGet(t, b, k.Key[1:]+"y", api.OK)
		}
	}
	wantNoGet(t, b, long(api.MaxKey+1), api.OK)
	wantNoGet(t, b, long(100000), api.OK)
	wantNoGet(t, b, "\x00", api.OK)
	wantNoGet(t, b, "\xff", api.OK)
}

func TestKeysAreBytes(t *testing.T) {
	_, p, b := planted(t, 30)
	keys := []string{"", "\x00", "\x00\x00", "A", "a", "a\x00", "ab", "b", "\x7f", "\x80", "\xc3\xa9", "\xff", "\xff\xff"}
	var l []api.Pair
	for _, k := range keys {
		l = append(l, api.Pair{Key: k, Value: "<" + k + ">"})
	}
	for _, k := range slices.Backward(l) {
		put(t, b, k.Key, k.Value)
	}
	wantTree(t, p, b, l, 0)
}

func TestEmptyTree(t *testing.T) {
	_, p, b := planted(t, 10)
	wantNoGet(t, b, "", api.OK)
	wantNoGet(t, b, "a", api.OK)
	wantRange(t, b, "", "", 9, nil)
	wantDelete(t, b, 0, api.OK, "a", "")
	wantDelete(t, b, 0, api.OK)
	wantTree(t, p, b, nil, 0)
	putAll(t, b, pairs("k", 15, same(long(60))))
	for i, k := range pairs("k", 15, same("")) {
		if b.Root() == 0 {
			t.Fatalf("the tree is empty with %d keys", 15-i)
		}
		wantDelete(t, b, 1, api.OK, k.Key)
	}
	wantTree(t, p, b, nil, 0)
	wantLooks(t, b, 0, 0, api.OK)
	wantNoGet(t, b, "k001", api.OK)
	put(t, b, "a", "1")
	wantTree(t, p, b, []api.Pair{{Key: "a", Value: "1"}}, 0)
}

// cutOut is what a Range tells of a list.
func cutOut(l []api.Pair, from, to string, most int) []api.Pair {
	var told []api.Pair
	for _, p := range l {
		if len(told) < most && p.Key >= from && (to == "" || p.Key < to) {
			told = append(told, p)
		}
	}
	return told
}

func TestRangeOfAllEnds(t *testing.T) {
	_, _, b := planted(t, 60)
	l := pairs("k", 30, func(i int) string { return text(20 + i*2) })
	putAll(t, b, l)
	if b.Depth() < 2 {
		t.Fatal("the tree is too low to tell much")
	}
	ends := []string{"", "\x00", "k", "l", "\xff", long(100)}
	for _, p := range l {
		ends = append(ends, p.Key, p.Key+"\x00", p.Key[:3])
	}
	for _, from := range ends {
		for _, to := range ends {
			for _, most := range []int{1, 2, 7, 30, 31, math.MaxInt} {
				wantRange(t, b, from, to, most, cutOut(l, from, to, most))
			}
			for _, most := range []int{0, -1, math.MinInt} {
				wantRange(t, b, from, to, most, nil)
			}
		}
	}
}

func TestRangeOfMoreThanMaxPairs(t *testing.T) {
	_, p, b := planted(t, 2000)
	var l []api.Pair
	for i := range api.MaxPairs + 100 {
		l = append(l, api.Pair{Key: string([]byte{byte(i >> 16), byte(i >> 8), byte(i)})})
	}
	putAll(t, b, l)
	for _, most := range []int{api.MaxPairs - 1, api.MaxPairs, api.MaxPairs + 1, api.MaxPairs + 50, math.MaxInt} {
		wantRange(t, b, "", "", most, l[:min(most, api.MaxPairs)])
	}
	wantRange(t, b, l[50].Key, "", math.MaxInt, l[50:api.MaxPairs+50])
	wantRange(t, b, l[100].Key, "", math.MaxInt, l[100:])
	wantRange(t, b, l[101].Key, "", math.MaxInt, l[101:])
	if s := seenOf(p, b.Root()); s.wrong != "" || !slices.Equal(s.pairs, l) {
		t.Fatalf("the tree: %q, %d pairs", s.wrong, len(s.pairs))
	}
}

// What is not asked for is not read.
func TestRangeReadsWhatItTells(t *testing.T) {
	_, p := formatted(t, 20)
	n := leaf("v", "a", "b", "c")
	n.Items[1] = api.Item{Page: 15, Size: 61}
	root := lay(t, p, over([]int{lay(t, p, n), 16}, "m"))
	b := btree.At(p, root)
	wantRange(t, b, "", "", 1, []api.Pair{{Key: "a", Value: "v"}})
	wantRange(t, b, "", "b", 9, []api.Pair{{Key: "a", Value: "v"}})
	wantRange(t, b, "b\x00", "m", 9, []api.Pair{{Key: "c", Value: "v"}})
	wantRange(t, b, "c", "", 1, []api.Pair{{Key: "c", Value: "v"}})
	wantRange(t, b, "z", "m", 9, nil)
	wantRange(t, b, "", "", 0, nil)
	wantNoRange(t, b, "", "", 2, api.ErrRange)
	wantNoRange(t, b, "c", "", 2, api.ErrRange)
	wantNoRange(t, b, "c", "m\x00", 2, api.ErrRange)
	wantNoRange(t, b, "m", "", 1, api.ErrRange)
	wantGet(t, b, "a", "v")
	wantNoGet(t, b, "aa", api.OK)
	wantNoGet(t, b, "b", api.ErrRange)
	wantNoGet(t, b, "m", api.ErrRange)
}

func TestGetAndRangeOfBrokenChains(t *testing.T) {
	for _, c := range chains() {
		_, p := formatted(t, laidSectors)
		b := btree.At(p, c.tree(t, p))
		s := seenOf(p, b.Root())
		v, ok, e := b.Get("a")
		if c.e == api.OK {
			wantGet(t, b, "a", s.pairs[0].Value)
			wantRange(t, b, "", "", 9, s.pairs)
			continue
		}
		l, _ := b.Range("", "", 9)
		if len(l) > 0 && e != api.OK {
			t.Fatalf("%s: Range tells of a key that Get does not", c.what)
		}
		if e != api.OK && (v != "" || ok) {
			t.Fatalf("%s: Get = %q, %v, %v", c.what, v, ok, e)
		}
		if strings.Contains(c.what, "page of") || strings.Contains(c.what, "too") {
			want(t, "Get of "+c.what, e, api.ErrBroken)
			wantNoRange(t, b, "", "", 9, api.ErrBroken)
		}
		if strings.Contains(c.what, "free") || strings.Contains(c.what, "beyond") || strings.Contains(c.what, "no page") {
			want(t, "Get of "+c.what, e, api.ErrRange)
			wantNoRange(t, b, "", "", 9, api.ErrRange)
		}
	}
}

// A tree that is not sound tells what lies on the way to a key; Range tells the same, in order.
func TestPagesThatAreMetTwice(t *testing.T) {
	_, p := formatted(t, 20)
	kid := lay(t, p, leaf("v", "a", "m", "z"))
	b := btree.At(p, lay(t, p, over([]int{kid, kid, kid}, "", "m")))
	wantGet(t, b, "a", "v")
	wantGet(t, b, "m", "v")
	wantGet(t, b, "z", "v")
	wantRange(t, b, "", "", 9, []api.Pair{{Key: "a", Value: "v"}, {Key: "m", Value: "v"}, {Key: "z", Value: "v"}})
	wantRange(t, b, "b", "n", 9, []api.Pair{{Key: "m", Value: "v"}})
	want(t, "Check", b.Check(), api.ErrBroken)
}

// A way that comes round never ends at a leaf.
func TestRings(t *testing.T) {
	_, p := formatted(t, 20)
	wantBroken(t, p, btree.At(p, lay(t, p, over([]int{2, 2}, "a"))))
	a := layPage(t, p, 9, "")
	wantBroken(t, p, btree.At(p, lay(t, p, over([]int{a + 1, a}, "b"))))
	// One beside a leaf, which can be read.
	kid := lay(t, p, leaf("v", "a"))
	b := btree.At(p, lay(t, p, over([]int{kid, kid + 1}, "b")))
	wantGet(t, b, "a", "v")
	wantNoGet(t, b, "b", api.ErrBroken)
	wantNoRange(t, b, "", "", 9, api.ErrBroken)
	wantRange(t, b, "", "b", 9, []api.Pair{{Key: "a", Value: "v"}})
	want(t, "Put", b.Put("b", "1"), api.ErrBroken)
	want(t, "Check", b.Check(), api.ErrBroken)
}

// tower is a leaf under nodes of one key each, so many levels in all.
func tower(t *testing.T, p *pager.Pager, depth int) *btree.Tree {
	t.Helper()
	page := lay(t, p, leaf("v", "a"))
	for range depth - 1 {
		page = lay(t, p, over([]int{page, page}, "b"))
	}
	return btree.At(p, page)
}

func TestTwelveLevels(t *testing.T) {
	_, p := formatted(t, 40)
	b := tower(t, p, 12)
	wantGet(t, b, "a", "v")
	wantRange(t, b, "", "", 9, []api.Pair{{Key: "a", Value: "v"}})
	if b.Depth() != 12 {
		t.Fatalf("Depth = %d", b.Depth())
	}
	wantBroken(t, p, tower(t, p, 13))
}

// Many ways to one page are not gone one by one.
func TestRangeEnds(t *testing.T) {
	_, p := formatted(t, 40)
	keys := strings.Split("abcdefghijklmnopqrstuvwxyz", "")
	page := lay(t, p, leaf("v", keys...))
	var l []api.Pair
	for _, k := range keys {
		l = append(l, api.Pair{Key: k, Value: "v"})
	}
	for range 11 {
		page = lay(t, p, over(slices.Repeat([]int{page}, 27), keys...))
	}
	wantRange(t, btree.At(p, page), "", "", 99, l)
	page = lay(t, p, leaf(""))
	for range 11 {
		page = lay(t, p, over(slices.Repeat([]int{page}, 27), keys...))
	}
	wantRange(t, btree.At(p, page), "", "", 99, nil)
}

// Rule 3

func TestAnswersAreTheCallersOwn(t *testing.T) {
	_, _, b := planted(t, 20)
	put(t, b, "a", "1")
	put(t, b, "b", "2")
	l, _ := b.Range("", "", 9)
	l[0] = api.Pair{Key: "x", Value: "y"}
	wantRange(t, b, "", "", 9, []api.Pair{{Key: "a", Value: "1"}, {Key: "b", Value: "2"}})
	keys := []string{"b", "x", "a", "b"}
	wantDelete(t, b, 2, api.OK, keys...)
	if !slices.Equal(keys, []string{"b", "x", "a", "b"}) {
		t.Fatalf("Delete changed what was handed in: %q", keys)
	}
}

// Rule 4

func TestNoTree(t *testing.T) {
	for _, b := range []*btree.Tree{nil, {}, {Pager: &pager.Pager{}}} {
		wantNoGet(t, b, "a", api.ErrNil)
		wantNoRange(t, b, "", "", 9, api.ErrNil)
		wantNoRange(t, b, "b", "a", -1, api.ErrNil)
		want(t, "Put", b.Put("a", "1"), api.ErrNil)
		want(t, "Put", b.Put(long(61), long(60001)), api.ErrNil)
		wantDelete(t, b, 0, api.ErrNil)
		wantDelete(t, b, 0, api.ErrNil, "a")
		wantLooks(t, b, 0, 0, api.ErrNil)
	}
}

// Without power

func TestTreesWithoutPower(t *testing.T) {
	d, p, b := planted(t, 20)
	put(t, b, "a", text(1000))
	root := b.Root()
	kill(t, d, p)
	wantNoGet(t, b, "a", api.ErrPower)
	wantNoGet(t, b, "x", api.ErrPower)
	wantNoRange(t, b, "", "", 9, api.ErrPower)
	want(t, "Put", b.Put("a", "1"), api.ErrPower)
	want(t, "Put of a key that is too long", b.Put(long(61), long(60001)), api.ErrArg)
	want(t, "Put of a value that is too long", b.Put(long(60), long(60001)), api.ErrLong)
	wantDelete(t, b, 0, api.ErrPower, "x")
	wantLooks(t, b, root, 0, api.ErrPower)
	wantFree(t, p, 14)
}

// An empty tree needs no power to be told of; with no power it has no room either, but that is told first.
func TestEmptyTreeWithoutPower(t *testing.T) {
	for _, left := range []int{0, 5} {
		d, p, b := planted(t, 20)
		full(t, p, left)
		kill(t, d, p)
		want(t, "Put", b.Put("a", "1"), api.ErrPower)
		wantNoGet(t, b, "a", api.OK)
		wantLooks(t, b, 0, 0, api.OK)
		wantFree(t, p, left)
	}
}
