package txn_test

import (
	"maps"
	"slices"
	"strconv"
	"strings"
	"testing"

	"haversack/api"
	"haversack/disk"
	"haversack/node"
	"haversack/page"
	"haversack/pager"
	"haversack/txn"
)

func formatted(t *testing.T, sectors int) *disk.Disk {
	t.Helper()
	d, e := disk.New(sectors)
	want(t, "disk.New", e, api.OK)
	want(t, "Format", txn.Format(d), api.OK)
	return d
}

func opened(t *testing.T, d *disk.Disk) *txn.Store {
	t.Helper()
	s, e := txn.Open(d)
	want(t, "Open", e, api.OK)
	return s
}

// stocked is a store on a disk of its own, with these pairs in it.
func stocked(t *testing.T, sectors int, l ...api.Pair) (*disk.Disk, *txn.Store) {
	t.Helper()
	d := formatted(t, sectors)
	s := opened(t, d)
	if len(l) > 0 {
		putAll(t, s, l...)
	}
	return d, s
}

// kill takes the power away, for good.
func kill(t *testing.T, d *disk.Disk) {
	t.Helper()
	d.Fuse(0)
	want(t, "Flush without power", d.Flush(), api.ErrPower)
}

func want(t *testing.T, what string, e, wanted api.Errno) {
	t.Helper()
	if e != wanted {
		t.Fatalf("%s = %v; want %v", what, e, wanted)
	}
}

// list is pairs of keys and values, told in turn.
func list(words ...string) []api.Pair {
	var l []api.Pair
	for i := 0; i+1 < len(words); i += 2 {
		l = append(l, api.Pair{Key: words[i], Value: words[i+1]})
	}
	return l
}

// letters are pairs with keys of one byte each, whose values are these keys.
func letters(keys string) []api.Pair {
	var l []api.Pair
	for _, k := range keys {
		l = append(l, api.Pair{Key: string(k), Value: string(k)})
	}
	return l
}

// numbered are pairs with keys of five digits.
func numbered(from, count int, value string) []api.Pair {
	var l []api.Pair
	for i := range count {
		l = append(l, api.Pair{Key: strconv.Itoa(100000 + from + i)[1:], Value: value})
	}
	return l
}

func listOf(holds map[string]string) []api.Pair {
	var l []api.Pair
	for _, k := range slices.Sorted(maps.Keys(holds)) {
		l = append(l, api.Pair{Key: k, Value: holds[k]})
	}
	return l
}

func long(n int) string { return strings.Repeat("x", n) }

func putAll(t *testing.T, s *txn.Store, l ...api.Pair) {
	t.Helper()
	x := s.Begin()
	for _, p := range l {
		want(t, "Put", x.Put(p.Key, p.Value), api.OK)
	}
	want(t, "Commit", x.Commit(), api.OK)
}

func deleteAll(t *testing.T, s *txn.Store, keys ...string) {
	t.Helper()
	x := s.Begin()
	want(t, "Delete", x.Delete(keys...), api.OK)
	want(t, "Commit", x.Commit(), api.OK)
}

// short is the first ones of a list, so that a test that fails does not tell thousands.
func short(l []api.Pair) []api.Pair {
	return l[:min(len(l), 8)]
}

func wantPairs(t *testing.T, s *txn.Store, wanted []api.Pair) {
	t.Helper()
	l, e := s.Pairs()
	if e != api.OK || !slices.Equal(l, wanted) {
		t.Fatalf("Pairs = %d pairs %.80q, %v; want %d pairs %.80q", len(l), short(l), e, len(wanted), short(wanted))
	}
	want(t, "Check", s.Check(), api.OK)
}

func wantNoPairs(t *testing.T, s *txn.Store, wanted api.Errno) {
	t.Helper()
	if l, e := s.Pairs(); len(l) != 0 || e != wanted {
		t.Fatalf("Pairs = %d pairs, %v; want none and %v", len(l), e, wanted)
	}
}

// wantAnew holds that a store tells the same when it is opened anew, and that as many pages are free then: so there must be no transaction that is open.
func wantAnew(t *testing.T, d *disk.Disk, s *txn.Store) {
	t.Helper()
	l, e := s.Pairs()
	want(t, "Pairs", e, api.OK)
	anew := opened(t, d.Crash())
	wantPairs(t, anew, l)
	if s.Free() != anew.Free() || s.Gen() != anew.Gen() {
		t.Fatalf("%d pages are free in the gen %d; opened anew %d in %d", s.Free(), s.Gen(), anew.Free(), anew.Gen())
	}
}

func wantGet(t *testing.T, x *txn.Tx, key, value string) {
	t.Helper()
	if v, is, e := x.Get(key); v != value || !is || e != api.OK {
		t.Fatalf("Get(%q) = %.100q, %v, %v; want %.100q", key, v, is, e, value)
	}
}

func wantNoGet(t *testing.T, x *txn.Tx, key string, wanted api.Errno) {
	t.Helper()
	if v, is, e := x.Get(key); v != "" || is || e != wanted {
		t.Fatalf("Get(%q) = %.100q, %v, %v; want nothing and %v", key, v, is, e, wanted)
	}
}

func wantRange(t *testing.T, x *txn.Tx, from, to string, most int, wanted []api.Pair) {
	t.Helper()
	l, e := x.Range(from, to, most)
	if e != api.OK || !slices.Equal(l, wanted) {
		t.Fatalf("Range(%q, %q, %d) = %d pairs %.80q, %v; want %d pairs %.80q", from, to, most, len(l), short(l), e, len(wanted), short(wanted))
	}
}

func wantNoRange(t *testing.T, x *txn.Tx, from, to string, most int, wanted api.Errno) {
	t.Helper()
	if l, e := x.Range(from, to, most); len(l) != 0 || e != wanted {
		t.Fatalf("Range(%q, %q, %d) = %d pairs, %v; want none and %v", from, to, most, len(l), e, wanted)
	}
}

// cutOut is the pairs of a list that a range has.
func cutOut(l []api.Pair, from, to string, most int) []api.Pair {
	var cut []api.Pair
	for _, p := range l {
		if p.Key >= from && (to == "" || p.Key < to) && len(cut) < min(most, api.MaxPairs) {
			cut = append(cut, p)
		}
	}
	return cut
}

// state is what of a store a refused call must leave as it was.
type state struct {
	pairs     []api.Pair
	gen, free int
}

func stateOf(t *testing.T, s *txn.Store) state {
	t.Helper()
	l, e := s.Pairs()
	want(t, "Pairs", e, api.OK)
	return state{l, s.Gen(), s.Free()}
}

func wantState(t *testing.T, s *txn.Store, was state) {
	t.Helper()
	wantPairs(t, s, was.pairs)
	if s.Gen() != was.gen || s.Free() != was.free {
		t.Fatalf("%d pages are free in the gen %d; want %d in %d", s.Free(), s.Gen(), was.free, was.gen)
	}
}

// treeRoot is the page of the tree's root, as the root's content on the disk tells it.
func treeRoot(t *testing.T, d *disk.Disk) int {
	t.Helper()
	p, e := pager.Open(d)
	want(t, "pager.Open", e, api.OK)
	c := p.Root()
	if len(c) != 4 {
		t.Fatalf("the root's content is %q", c)
	}
	return int(c[0])<<24 | int(c[1])<<16 | int(c[2])<<8 | int(c[3])
}

// layRoot makes a disk's root tell of this content, in the next gen.
func layRoot(t *testing.T, d *disk.Disk, content string) {
	t.Helper()
	p, e := pager.Open(d)
	want(t, "pager.Open", e, api.OK)
	want(t, "pager.Commit", p.Commit(content), api.OK)
}

// spoil writes noughts over a page; what it answers writes over it what was there.
func spoil(t *testing.T, d *disk.Disk, n int) func() {
	t.Helper()
	was, e := d.Read(n)
	want(t, "disk.Read", e, api.OK)
	want(t, "disk.Write", d.Write(n, make([]byte, api.Sector)), api.OK)
	return func() {
		t.Helper()
		want(t, "disk.Write", d.Write(n, was), api.OK)
	}
}

// layNode writes a node over a page, whatever was there.
func layNode(t *testing.T, d *disk.Disk, at int, n api.Node) {
	t.Helper()
	kind, content, e := node.Encode(n)
	want(t, "Encode", e, api.OK)
	b, e := page.Seal(kind, 1, content)
	want(t, "Seal", e, api.OK)
	want(t, "disk.Write", d.Write(at, b), api.OK)
}
