package node_test

import (
	"math/rand"
	"slices"
	"testing"

	"haversack/api"
	"haversack/node"
)

// chanceText is a text of so many bytes at the most, often short and of few letters.
func chanceText(r *rand.Rand, most int) string {
	size := r.Intn(most + 1)
	if r.Intn(3) == 0 {
		size = min(size, 3)
	}
	letters := 1 + r.Intn(256)
	b := make([]byte, size)
	for i := range b {
		b[i] = byte(r.Intn(letters))
	}
	return string(b)
}

func chanceItem(r *rand.Rand) api.Item {
	if r.Intn(4) == 0 {
		return api.Item{Page: 2 + r.Intn(api.MaxSectors-2), Size: api.MaxInline + 1 + r.Intn(api.MaxValue-api.MaxInline)}
	}
	return api.Item{Value: chanceText(r, api.MaxInline)}
}

// chanceNode is a right node with a few keys; mostly not far from Room.
func chanceNode(r *rand.Rand) api.Node {
	var keys []string
	for range 1 + r.Intn(20) {
		keys = append(keys, chanceText(r, 1+r.Intn(api.MaxKey)))
	}
	slices.Sort(keys)
	n := api.Node{Leaf: r.Intn(2) == 0, Keys: slices.Compact(keys)}
	for range n.Keys {
		if n.Leaf {
			n.Items = append(n.Items, chanceItem(r))
		}
	}
	for range len(n.Keys) + 1 {
		if !n.Leaf {
			n.Kids = append(n.Kids, 2+r.Intn(api.MaxSectors-2))
		}
	}
	return n
}

// P4.6

func TestWhatWasEncodedComesBack(t *testing.T) {
	r := rand.New(rand.NewSource(41))
	short, long := 0, 0
	for range 20000 {
		n := chanceNode(r)
		kind, content, e := node.Encode(n)
		if node.Size(n) > api.Room {
			long++
			want(t, "Encode of a long node", e, api.ErrLong)
			continue
		}
		short++
		want(t, "Encode", e, api.OK)
		if len(content) != node.Size(n) {
			t.Fatalf("Size of %v = %d; its content has %d bytes", n, node.Size(n), len(content))
		}
		back, e := node.Decode(kind, content)
		want(t, "Decode", e, api.OK)
		wantNode(t, "Decode of Encode", back, n)
	}
	if short < 2000 || long < 2000 {
		t.Fatalf("just %d short and %d long nodes", short, long)
	}
}

// damaged changes, cuts or lengthens a content a bit, mostly ahead where its counts lie.
func damaged(r *rand.Rand, content string) string {
	b := []byte(content)
	for range r.Intn(3) {
		at := r.Intn(min(len(b), 1+r.Intn(len(b))))
		switch r.Intn(4) {
		case 0:
			b[at] = byte(r.Intn(256))
		case 1:
			b[at] ^= 1 << r.Intn(8)
		case 2:
			b = slices.Insert(b, at, byte(r.Intn(3)))
		case 3:
			if len(b) > 1 {
				b = slices.Delete(b, at, at+1)
			}
		}
	}
	return string(b)
}

func TestWhatDecodeTakesIsWhatEncodeTells(t *testing.T) {
	r := rand.New(rand.NewSource(42))
	taken, refused := 0, 0
	for range 50000 {
		kind, content, e := node.Encode(chanceNode(r))
		if e != api.OK {
			continue
		}
		content = damaged(r, content)
		n, e := node.Decode(kind, content)
		if e != api.OK {
			refused++
			want(t, "Decode", e, api.ErrForm)
			continue
		}
		taken++
		k, c, e := node.Encode(n)
		if len(content) > api.Room {
			want(t, "Encode of what is too long", e, api.ErrLong)
		} else if k != kind || c != content || e != api.OK {
			t.Fatalf("Decode takes %d, %q; Encode tells %d, %q, %v", kind, content, k, c, e)
		}
	}
	if taken < 2000 || refused < 2000 {
		t.Fatalf("just %d were taken and %d refused", taken, refused)
	}
}

// All short contents, byte for byte of a few that matter.
func TestShortContents(t *testing.T) {
	letters := []byte{0, 1, 2, 3, 60, 61, 97, 255}
	var gone func(content []byte)
	gone = func(content []byte) {
		for _, kind := range []int{1, 2} {
			n, e := node.Decode(kind, string(content))
			if e == api.OK {
				if k, c, e := node.Encode(n); k != kind || c != string(content) || e != api.OK {
					t.Fatalf("Decode takes %d, %q; Encode tells %d, %q, %v", kind, content, k, c, e)
				}
			}
		}
		if len(content) < 6 {
			for _, c := range letters {
				gone(append(slices.Clone(content), c))
			}
		}
	}
	gone(nil)
}

// P4.7

// wantHalves looks at what Split tells of a node against what the chapter says of it.
func wantHalves(t *testing.T, n api.Node) {
	t.Helper()
	a, key, b, e := node.Split(n)
	want(t, "Split", e, api.OK)
	wantNode(t, "Join of the halves", node.Join(a, key, b), n)
	if !node.Right(a) || !node.Right(b) || a.Leaf != n.Leaf || b.Leaf != n.Leaf {
		t.Fatalf("Split of %v = %v, %q, %v", n, a, key, b)
	}
	if a.Keys[len(a.Keys)-1] >= key || b.Keys[0] < key {
		t.Fatalf("Split of %v: keys on the wrong side of %q", n, key)
	}
	if node.Size(n) > api.Room && (4*node.Size(a) < api.Room || 4*node.Size(b) < api.Room) {
		t.Fatalf("Split of %v: sizes %d and %d", n, node.Size(a), node.Size(b))
	}
	wantFewest(t, n, len(a.Keys))
}

// wantFewest looks that the first one is the smallest that may be.
func wantFewest(t *testing.T, n api.Node, first int) {
	t.Helper()
	most := len(n.Keys) - 1
	if !n.Leaf {
		most = len(n.Keys) - 2
	}
	for keys := 1; keys < most; keys++ {
		part := api.Node{Leaf: n.Leaf, Keys: n.Keys[:keys]}
		if n.Leaf {
			part.Items = n.Items[:keys]
		} else {
			part.Kids = n.Kids[:keys+1]
		}
		if 2*node.Size(part) >= node.Size(n) {
			most = keys
		}
	}
	if first != most {
		t.Fatalf("Split of %v: %d keys in the first one; want %d", n, first, most)
	}
}

func TestHalves(t *testing.T) {
	r := rand.New(rand.NewSource(43))
	long := 0
	for range 20000 {
		n := chanceNode(r)
		if len(n.Keys) < 2 || !n.Leaf && len(n.Keys) < 3 {
			wantNoSplit(t, "too few keys", n)
			continue
		}
		if node.Size(n) > api.Room {
			long++
		}
		wantHalves(t, n)
	}
	if long < 2000 {
		t.Fatalf("just %d long nodes", long)
	}
}

// Nodes just above Room, with the greatest keys and items where they hurt most.
func TestHalvesAtTheEdge(t *testing.T) {
	r := rand.New(rand.NewSource(44))
	for range 20000 {
		n := api.Node{Leaf: r.Intn(2) == 0}
		if !n.Leaf {
			n.Kids = []int{2}
		}
		for c := 0; node.Size(n) <= api.Room; c++ {
			key := string([]byte{byte(c)})
			if r.Intn(2) == 0 {
				key += long(api.MaxKey - 1)
			}
			n.Keys = append(n.Keys, key)
			if n.Leaf {
				n.Items = append(n.Items, api.Item{Value: long(api.MaxInline * r.Intn(2))})
			} else {
				n.Kids = append(n.Kids, 2)
			}
		}
		wantHalves(t, n)
	}
}

// P4.3 and P4.5 together: what With puts in at the place that Find tells is found there, and all else as ahead.
func TestFindAndWith(t *testing.T) {
	r := rand.New(rand.NewSource(45))
	for range 500 {
		n := api.Node{Leaf: true}
		model := map[string]api.Item{}
		for range 60 {
			key, item := chanceText(r, 2), chanceItem(r)
			at, is := node.Find(n, key)
			_, has := model[key]
			if is != has || is && n.Keys[at] != key {
				t.Fatalf("Find of %q in %v = %d, %v", key, n, at, is)
			}
			if is {
				n = node.With(n, at, "")
				delete(model, key)
			} else {
				n = node.With(n, at, key, item)
				model[key] = item
			}
			if !node.Right(n) || len(n.Keys) != len(model) {
				t.Fatalf("a leaf of %d keys is %v", len(model), n)
			}
			for i, key := range n.Keys {
				if model[key] != n.Items[i] {
					t.Fatalf("the item of %q is %v; want %v", key, n.Items[i], model[key])
				}
			}
		}
	}
}
