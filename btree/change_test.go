package btree_test

import (
	"slices"
	"testing"

	"haversack/api"
	"haversack/btree"
	"haversack/disk"
	"haversack/node"
	"haversack/pager"
)

// P5.3

func TestPutRefusesWhatIsTooLong(t *testing.T) {
	_, p, b := planted(t, 300)
	put(t, b, "a", "1")
	root, steps := b.Root(), p.Steps()
	for _, key := range []string{long(api.MaxKey + 1), long(1000)} {
		want(t, "Put of a key that is too long", b.Put(key, "1"), api.ErrArg)
		want(t, "Put of both", b.Put(key, long(api.MaxValue+1)), api.ErrArg)
		wantDelete(t, b, 0, api.OK, key)
	}
	want(t, "Put of a value that is too long", b.Put("a", long(api.MaxValue+1)), api.ErrLong)
	want(t, "Put of a value that is too long", b.Put("b", long(api.MaxValue+1000)), api.ErrLong)
	if b.Root() != root || p.Steps() != steps {
		t.Fatal("a Put that was refused did something")
	}
	wantTree(t, p, b, []api.Pair{{Key: "a", Value: "1"}}, 0)
	put(t, b, "a", text(api.MaxValue))
	put(t, b, long(api.MaxKey), "2")
	wantTree(t, p, b, []api.Pair{{Key: "a", Value: text(api.MaxValue)}, {Key: long(api.MaxKey), Value: "2"}}, 0)
}

func TestPutOverWhatIsThere(t *testing.T) {
	_, p, b := planted(t, 100)
	lengths := []int{0, 60, 61, 5, linkRoom, linkRoom + 1, 5000, 61, 0, 3000, 3001}
	for _, n := range lengths {
		put(t, b, "a", text(n))
		wantTree(t, p, b, []api.Pair{{Key: "a", Value: text(n)}}, 0)
	}
}

// A tree grows at the one end, at the other, and between.
func TestNodesThatAreCut(t *testing.T) {
	orders := map[string]func(i, count int) int{
		"up":      func(i, count int) int { return i },
		"down":    func(i, count int) int { return count - 1 - i },
		"between": func(i, count int) int { return i * 377 % count },
	}
	for what, order := range orders {
		for _, prefix := range []string{"", long(30), long(57)} {
			_, p, b := planted(t, 600)
			l := pairs(prefix, 500, func(i int) string { return text(i % 61) })
			depths := []int{0}
			for i := range l {
				k := l[order(i, len(l))]
				put(t, b, k.Key, k.Value)
				if d := b.Depth(); d != depths[len(depths)-1] {
					depths = append(depths, d)
				}
			}
			wantTree(t, p, b, l, 0)
			if least := 3; len(depths) < least || !slices.IsSorted(depths) {
				t.Fatalf("%s with %q: depths %v", what, prefix, depths)
			}
		}
	}
}

// A tree is emptied from the one end, from the other, and between.
func TestNodesThatAreJoined(t *testing.T) {
	orders := []func(i, count int) int{
		func(i, count int) int { return i },
		func(i, count int) int { return count - 1 - i },
		func(i, count int) int { return i * 377 % count },
	}
	for _, order := range orders {
		for _, prefix := range []string{"", long(30), long(57)} {
			_, p, b := planted(t, 600)
			l := pairs(prefix, 500, func(i int) string { return text(i % 61) })
			putAll(t, b, l)
			left := slices.Clone(l)
			for i := range l {
				k := l[order(i, len(l))]
				wantDelete(t, b, 1, api.OK, k.Key)
				wantDelete(t, b, 0, api.OK, k.Key)
				left = slices.DeleteFunc(left, func(o api.Pair) bool { return o.Key == k.Key })
				if i%7 == 0 || len(left) < 40 {
					wantTree(t, p, b, left, 0)
				}
			}
			wantLooks(t, b, 0, 0, api.OK)
		}
	}
}

// A Put that makes a value shorter leaves leaves too short, too.
func TestPutThatMakesNodesShort(t *testing.T) {
	_, p, b := planted(t, 600)
	l := pairs(long(20), 200, same(long(60)))
	putAll(t, b, l)
	depth, pages := b.Depth(), len(seenOf(p, b.Root()).pages)
	for i := range l {
		l[i].Value = ""
		put(t, b, l[i].Key, "")
		wantTree(t, p, b, l, 0)
	}
	if now := len(seenOf(p, b.Root()).pages); b.Depth() > depth || now >= pages*2/3 {
		t.Fatalf("%d pages of %d are left, the depth %d of %d", now, pages, b.Depth(), depth)
	}
}

// The key between two leaves changes, so that the node above becomes too long, or too short: it is cut or joined likewise.
func TestKeysBetweenThatChange(t *testing.T) {
	_, p, b := planted(t, 1500)
	var l []api.Pair
	for i, k := range pairs("", 900, same(long(55))) {
		if i%9 == 0 {
			k.Key += long(api.MaxKey - 3)
		}
		l = append(l, k)
	}
	putAll(t, b, l)
	wantTree(t, p, b, l, 0)
	for pass := range 9 {
		left := l[:0:0]
		for i, k := range l {
			if i%(9-pass) == 4%(9-pass) {
				wantDelete(t, b, 1, api.OK, k.Key)
			} else {
				left = append(left, k)
			}
			if i%17 == 0 {
				wantTree(t, p, b, slices.Concat(left, l[i+1:]), 0)
			}
		}
		l = left
		wantTree(t, p, b, l, 0)
	}
}

func TestDeleteTellsHowMany(t *testing.T) {
	_, p, b := planted(t, 40)
	l := pairs("k", 10, func(i int) string { return text(i * 50) })
	putAll(t, b, l)
	wantDelete(t, b, 0, api.OK)
	wantDelete(t, b, 0, api.OK, "x", "", "k", "k0010")
	wantDelete(t, b, 1, api.OK, "k003", "k003", "k003")
	wantDelete(t, b, 2, api.OK, "x", "k009", "k0", "k000", "k003")
	wantTree(t, p, b, slices.Concat(l[1:3], l[4:9]), 0)
	wantDelete(t, b, 7, api.OK, "k001", "k002", "k004", "k005", "k006", "k007", "k008")
	wantTree(t, p, b, nil, 0)
}

// Pages that count stay till a commit; fresh ones are free at once.
func TestWhichPagesAreDropped(t *testing.T) {
	_, p, b := planted(t, 60)
	l := pairs("k", 20, func(i int) string { return text(40 + i*10) })
	putAll(t, b, l)
	want(t, "Commit", p.Commit(""), api.OK)
	old, free := btree.At(p, b.Root()), p.Free()
	before := seenOf(p, old.Root()).pages
	put(t, b, "k019", "")
	put(t, b, "k018", text(1000))
	wantDelete(t, b, 1, api.OK, "k017")
	after := seenOf(p, b.Root()).pages
	fresh, dropped := 0, 0
	for _, page := range after {
		if !slices.Contains(before, page) {
			fresh++
		}
	}
	for _, page := range before {
		e := p.Drop(page)
		if slices.Contains(after, page) {
			want(t, "Drop of a page that is in the tree", e, api.OK)
			continue
		}
		want(t, "Drop of a page that is in the tree no more", e, api.ErrRange)
		dropped++
	}
	wantFree(t, p, free-fresh)
	wantRange(t, old, "", "", 99, l)
	p.Abort()
	wantTree(t, p, old, l, 0)
	if dropped == 0 {
		t.Fatal("nothing was dropped")
	}
}

// An older tree may be changed, too: what was dropped ahead stays so.
func TestPutIntoAnOlderTree(t *testing.T) {
	_, p, b := planted(t, 60)
	l := pairs("k", 20, same(long(50)))
	putAll(t, b, l)
	want(t, "Commit", p.Commit(""), api.OK)
	gen := p.Pin()
	old := btree.At(p, b.Root())
	put(t, b, "k000", "new")
	want(t, "Commit", p.Commit(""), api.OK)
	put(t, old, "k000", "other")
	wantGet(t, old, "k000", "other")
	wantGet(t, b, "k000", "new")
	want(t, "Check", old.Check(), api.OK)
	want(t, "Check", b.Check(), api.OK)
	want(t, "Unpin", p.Unpin(gen), api.OK)
}

// Too few free pages

// deed is something that is done with a tree; what it answers.
type deed struct {
	what string
	do   func(b *btree.Tree) api.Errno
}

func deeds() []deed {
	return []deed{
		{"a Put of a key", func(b *btree.Tree) api.Errno { return b.Put("k0055", "1") }},
		{"a Put that cuts leaves", func(b *btree.Tree) api.Errno { return b.Put("k0055"+long(55), long(60)) }},
		{"a Put over a key", func(b *btree.Tree) api.Errno { return b.Put("k005", "1") }},
		{"a Put of a long value", func(b *btree.Tree) api.Errno { return b.Put("k0055", text(5*linkRoom)) }},
		{"a Put over a long value", func(b *btree.Tree) api.Errno { return b.Put("k006", text(7*linkRoom+1)) }},
		{"a Delete", func(b *btree.Tree) api.Errno { _, e := b.Delete("k005"); return e }},
		{"a Delete of the first one", func(b *btree.Tree) api.Errno { _, e := b.Delete("k000"); return e }},
		{"a Delete of the last one", func(b *btree.Tree) api.Errno { _, e := b.Delete("k099"); return e }},
		{"a Delete of a long value", func(b *btree.Tree) api.Errno { _, e := b.Delete("k006"); return e }},
	}
}

// grown is a tree that was committed: with more keys its leaves are nearer to being cut.
func grown(t *testing.T, keys int) (*disk.Disk, *pager.Pager, *btree.Tree, []api.Pair) {
	t.Helper()
	d, p, b := planted(t, 400)
	l := pairs("k", 100, func(i int) string { return text(i * keys % 61) })
	l[6].Value = text(3 * linkRoom)
	putAll(t, b, l)
	want(t, "Commit", p.Commit(""), api.OK)
	return d, p, b, l
}

func TestTooFewFreePages(t *testing.T) {
	for keys := 1; keys < 60; keys += 5 {
		for _, c := range deeds() {
			d, p, b, l := grown(t, keys)
			done := false
			for left := 0; !done; left++ {
				c2 := d.Copy()
				q := opened(t, c2)
				x, e := btree.Open(q, b.Root())
				want(t, "Open", e, api.OK)
				full(t, q, left)
				steps, waiting := c2.Steps(), c2.Waiting()
				switch e := c.do(x); e {
				case api.OK:
					done = true
				case api.ErrFull:
					if c2.Steps() != steps || c2.Waiting() != waiting || q.Free() != left {
						t.Fatalf("%s was refused and did something", c.what)
					}
					wantTree(t, q, x, l, p.Free()-left)
					wantLooks(t, x, b.Root(), b.Depth(), api.OK)
				default:
					t.Fatalf("%s = %v", c.what, e)
				}
				if left > 30 {
					t.Fatalf("%s is refused with %d free pages", c.what, left)
				}
			}
		}
	}
}

// Just as many pages are enough as are written.
func TestJustEnoughFreePages(t *testing.T) {
	for keys := 1; keys < 60; keys += 7 {
		for _, c := range deeds() {
			d, _, b, _ := grown(t, keys)
			q := opened(t, d.Copy())
			x, _ := btree.Open(q, b.Root())
			steps := q.Steps()
			want(t, c.what, c.do(x), api.OK)
			needs := q.Steps() - steps
			for _, left := range []int{needs - 1, needs} {
				q = opened(t, d.Copy())
				x, _ = btree.Open(q, b.Root())
				full(t, q, left)
				if left < needs {
					want(t, c.what+" with too few pages", c.do(x), api.ErrFull)
				} else {
					want(t, c.what+" with just enough pages", c.do(x), api.OK)
				}
			}
		}
	}
}

func TestEmptyTreeWithoutFreePages(t *testing.T) {
	_, p, b := planted(t, 6)
	full(t, p, 0)
	want(t, "Put", b.Put("a", "1"), api.ErrFull)
	wantDelete(t, b, 0, api.OK, "a")
	wantLooks(t, b, 0, 0, api.OK)
	want(t, "Drop", p.Drop(3), api.OK)
	want(t, "Put of a long value", b.Put("a", text(61)), api.ErrFull)
	wantFree(t, p, 1)
	put(t, b, "a", "1")
	wantFree(t, p, 0)
	want(t, "Put", b.Put("a", "2"), api.ErrFull)
	wantGet(t, b, "a", "1")
	// The last key goes without a new page.
	wantDelete(t, b, 1, api.OK, "a")
	wantLooks(t, b, 0, 0, api.OK)
	wantFree(t, p, 1)
}

// Keys ahead of one that fails stay deleted, and are told.
func TestDeleteThatFailsMidway(t *testing.T) {
	_, p, b := planted(t, 40)
	l := pairs("k", 20, same(long(50)))
	putAll(t, b, l)
	want(t, "Commit", p.Commit(""), api.OK)
	depth := b.Depth()
	full(t, p, depth)
	count, e := b.Delete("k000", "x", "k001", "k010", "k019")
	if e != api.ErrFull || count == 0 || count == 4 {
		t.Fatalf("Delete = %d, %v", count, e)
	}
	left := slices.DeleteFunc(slices.Clone(l), func(k api.Pair) bool {
		return slices.Contains([]string{"k000", "k001", "k010", "k019"}[:count], k.Key)
	})
	wantRange(t, b, "", "", 99, left)
	want(t, "Check", b.Check(), api.OK)
}

// The power goes

func TestPowerThatGoesInAPutOrDelete(t *testing.T) {
	for _, c := range deeds() {
		for keys := 1; keys < 60; keys += 7 {
			fuse := 0
			for !doneWithFuse(t, c, keys, fuse) {
				fuse++
			}
			if fuse == 0 {
				t.Fatalf("%s wrote nothing", c.what)
			}
		}
	}
}

// doneWithFuse tells whether something is done with so many steps; if not, it holds that all is as ahead.
func doneWithFuse(t *testing.T, c deed, keys, fuse int) bool {
	t.Helper()
	d, p, b, l := grown(t, keys)
	root, depth, free := b.Root(), b.Depth(), p.Free()
	d.Fuse(fuse)
	e := c.do(b)
	if e == api.OK {
		return true
	}
	want(t, c.what, e, api.ErrPower)
	wantLooks(t, b, root, 0, api.ErrPower)
	wantNoGet(t, b, "k005", api.ErrPower)
	want(t, "Put", b.Put("a", "1"), api.ErrPower)
	wantDelete(t, b, 0, api.ErrPower, "k005")
	// What was put ahead of it is fresh: an Abort frees it. Nothing was dropped.
	p.Abort()
	wantFree(t, p, free)
	q := opened(t, d.Crash())
	x, e := btree.Open(q, root)
	want(t, "Open behind a crash", e, api.OK)
	wantTree(t, q, x, l, 0)
	wantLooks(t, x, root, depth, api.OK)
	return false
}

func TestPowerThatGoesMidwayInADelete(t *testing.T) {
	told := -1
	for fuse, done := 0, false; !done; fuse++ {
		d, _, b, _ := grown(t, 31)
		d.Fuse(fuse)
		count, e := b.Delete("k000", "x", "k050", "k099")
		if done = e == api.OK; !done {
			want(t, "Delete", e, api.ErrPower)
		}
		if count < told || count > 3 || done != (count == 3) {
			t.Fatalf("Delete with a fuse of %d = %d, %v", fuse, count, e)
		}
		told = count
	}
}

// Trees that are not sound

// wantRefused holds that a tree can't be changed so, and is as it was.
func wantRefused(t *testing.T, p *pager.Pager, c deed, b *btree.Tree) {
	t.Helper()
	root, free, steps := b.Root(), p.Free(), p.Steps()
	want(t, c.what, c.do(b), api.ErrBroken)
	if b.Root() != root || p.Free() != free || p.Steps() != steps {
		t.Fatalf("%s was refused and did something", c.what)
	}
}

func putting(key, value string) deed {
	return deed{"Put(" + key + ")", func(b *btree.Tree) api.Errno { return b.Put(key, value) }}
}

func deleting(key string) deed {
	return deed{"Delete(" + key + ")", func(b *btree.Tree) api.Errno { _, e := b.Delete(key); return e }}
}

func TestChangesOfBrokenChains(t *testing.T) {
	for _, c := range chains() {
		_, p := formatted(t, laidSectors)
		b := btree.At(p, c.tree(t, p))
		if _, _, e := b.Get("a"); e == api.OK {
			continue
		}
		wantRefused(t, p, putting("a", "1"), b)
		wantRefused(t, p, putting("a", text(100)), b)
		wantRefused(t, p, deleting("a"), b)
		// What lies beside it is not read.
		put(t, b, "x", "1")
		wantGet(t, b, "x", "1")
		wantNoGetAtAll(t, b, "a")
		wantDelete(t, b, 1, api.OK, "x")
		wantNoGetAtAll(t, b, "a")
	}
}

func wantNoGetAtAll(t *testing.T, b *btree.Tree, key string) {
	t.Helper()
	if _, _, e := b.Get(key); e == api.OK {
		t.Fatalf("Get(%q) tells of a chain that is broken", key)
	}
}

// A leaf that becomes too short needs the one beside it.
func TestChangesBesideBrokenNodes(t *testing.T) {
	short, other := wide(quarter, "a"), wide(quarter, "m")
	besides := map[string]func(p *pager.Pager) int{
		"a free page":            func(p *pager.Pager) int { return 60 },
		"a page beyond":          func(p *pager.Pager) int { return api.MaxSectors - 1 },
		"a chain's page":         func(p *pager.Pager) int { return layPage(t, p, 3, link(0, text(100))) },
		"a node that is no leaf": func(p *pager.Pager) int { return lay(t, p, over([]int{2, 3}, "x")) },
	}
	for what, beside := range besides {
		_, p := formatted(t, laidSectors)
		b := btree.At(p, lay(t, p, over([]int{lay(t, p, short), beside(p)}, "m")))
		wantRefused(t, p, deleting("a"), b)
		wantRefused(t, p, putting("a", ""), b)
		wantGet(t, b, "a", short.Items[0].Value)
		b = btree.At(p, lay(t, p, over([]int{beside(p), lay(t, p, other)}, "m")))
		wantRefused(t, p, deleting("m"), b)
		wantGet(t, b, "m", other.Items[0].Value)
		put(t, b, "n", "1")
		if wantGet(t, b, "n", "1"); b.Depth() != 0 && what != "a node that is no leaf" {
			t.Fatalf("beside %s the depth is %d", what, b.Depth())
		}
	}
}

// Keys that would not rise are not written.
func TestChangesOfKeysOutOfOrder(t *testing.T) {
	_, p := formatted(t, laidSectors)
	big := leaf(long(60), "n1", "n2", "n3", "n4", "n5", "n6", "n7")
	b := btree.At(p, lay(t, p, over([]int{lay(t, p, big), lay(t, p, wide(quarter, "m"))}, "m")))
	wantRefused(t, p, putting("a", long(60)), b)
	b = btree.At(p, lay(t, p, over([]int{lay(t, p, wide(quarter, "x")), lay(t, p, wide(quarter, "m"))}, "y")))
	wantRefused(t, p, deleting("x"), b)
	kid := lay(t, p, wide(quarter, "a"))
	b = btree.At(p, lay(t, p, over([]int{kid, kid}, "a+")))
	wantRefused(t, p, deleting("a"), b)
}

// Nodes of one kid fewer than a sound tree has them are mended as well.
func TestChangesOfNodesThatAreTooShort(t *testing.T) {
	_, p := formatted(t, laidSectors)
	left := lay(t, p, over([]int{lay(t, p, wide(quarter, "a")), lay(t, p, wide(quarter, "d"))}, "d"))
	right := lay(t, p, over([]int{lay(t, p, wide(quarter, "g")), lay(t, p, wide(quarter, "j"))}, "j"))
	b := btree.At(p, lay(t, p, over([]int{left, right}, "g")))
	want(t, "Check", b.Check(), api.ErrBroken)
	wantDelete(t, b, 1, api.OK, "a")
	want(t, "Check", b.Check(), api.OK)
	if b.Depth() != 2 {
		t.Fatalf("Depth = %d", b.Depth())
	}
	l, e := b.Range("", "", 9)
	if e != api.OK || len(l) != 7 {
		t.Fatalf("Range = %v, %v", l, e)
	}
}

// A pager with so great a gen that nothing can be sealed puts nothing.
func TestPutOfTheGreatestGen(t *testing.T) {
	d, p := formatted(t, 20)
	b := btree.At(p, 0)
	put(t, b, "a", text(100))
	want(t, "Commit", p.Commit(""), api.OK)
	sector := rootSector(t, 1<<48-1)
	want(t, "Write", d.Write(1, sector), api.OK)
	q := opened(t, d)
	b, e := btree.Open(q, b.Root())
	want(t, "Open", e, api.OK)
	wantRefused(t, q, putting("a", "1"), b)
	wantRefused(t, q, putting("b", text(100)), b)
	wantGet(t, b, "a", text(100))
	wantDelete(t, b, 1, api.OK, "a")
}

// How nodes are cut and joined is layer 4's: the pages tell.
func TestCutAsNodesAre(t *testing.T) {
	_, p, b := planted(t, 20)
	n := api.Node{Leaf: true}
	for i := 0; ; i++ {
		k := pairs("k", i+1, same(long(40)))[i]
		next := node.With(n, len(n.Keys), k.Key, api.Item{Value: k.Value})
		put(t, b, k.Key, k.Value)
		if n = next; node.Size(n) > api.Room {
			break
		}
	}
	first, key, second, _ := node.Split(n)
	kind, content, _ := p.Read(b.Root())
	root, e := node.Decode(kind, content)
	want(t, "Decode", e, api.OK)
	if !slices.Equal(root.Keys, []string{key}) {
		t.Fatalf("the root's keys are %q; want %q", root.Keys, key)
	}
	for i, half := range []api.Node{first, second} {
		_, wanted, _ := node.Encode(half)
		if _, content, _ := p.Read(root.Kids[i]); content != wanted {
			t.Fatalf("the leaf %d is %q; want %q", i, content, wanted)
		}
	}
}

// A node of just Room bytes is not cut, one of a byte more is.
func TestNodesOfJustRoomBytes(t *testing.T) {
	_, p, b := planted(t, 20)
	l := pairs("", 7, same(long(60))) // 2 and 7 times 65 bytes
	l = append(l, api.Pair{Key: "z", Value: long(api.Room - 2 - 7*65 - 3)})
	putAll(t, b, l)
	wantLooks(t, b, b.Root(), 1, api.OK)
	l[7].Value += "x"
	put(t, b, "z", l[7].Value)
	wantLooks(t, b, b.Root(), 2, api.OK)
	wantTree(t, p, b, l, 0)
}
