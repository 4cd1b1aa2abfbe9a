package node_test

import (
	"math"
	"reflect"
	"slices"
	"strings"
	"testing"

	"haversack/api"
	"haversack/node"
)

// leafOf is a leaf of keys, each with the same Value.
func leafOf(value string, keys ...string) api.Node {
	n := api.Node{Leaf: true, Keys: keys}
	for range keys {
		n.Items = append(n.Items, api.Item{Value: value})
	}
	return n
}

// holding is a leaf with one key and this item.
func holding(i api.Item) api.Node {
	return api.Node{Leaf: true, Keys: []string{"k"}, Items: []api.Item{i}}
}

// otherOf is a node that is no leaf, with kids from 2 on.
func otherOf(keys ...string) api.Node {
	n := api.Node{Keys: keys}
	for i := range len(keys) + 1 {
		n.Kids = append(n.Kids, 2+i)
	}
	return n
}

// over is a node that is no leaf, with one key, over these kids.
func over(kids ...int) api.Node {
	return api.Node{Keys: []string{"k"}, Kids: kids}
}

func long(n int) string { return strings.Repeat("x", n) }

// like tells whether nodes are alike; a list without members may be nil or empty.
func like(a, b api.Node) bool {
	return a.Leaf == b.Leaf && slices.Equal(a.Keys, b.Keys) && slices.Equal(a.Items, b.Items) && slices.Equal(a.Kids, b.Kids)
}

func want(t *testing.T, what string, e, wanted api.Errno) {
	t.Helper()
	if e != wanted {
		t.Fatalf("%s = %v; want %v", what, e, wanted)
	}
}

func wantNode(t *testing.T, what string, n, wanted api.Node) {
	t.Helper()
	if !like(n, wanted) {
		t.Fatalf("%s = %v; want %v", what, n, wanted)
	}
}

// named is a node with what is wrong or special of it.
type named struct {
	what string
	n    api.Node
}

func rightOnes() []named {
	return []named{
		{"a leaf without keys", api.Node{Leaf: true}},
		{"a leaf with empty lists", api.Node{Leaf: true, Keys: []string{}, Items: []api.Item{}, Kids: []int{}}},
		{"a leaf of one key", leafOf("x", "a")},
		{"an empty key", leafOf("", "")},
		{"an empty key and another one", leafOf("", "", "\x00")},
		{"a key that begins another one", leafOf("", "a", "a\x00", "ab")},
		{"bytes beyond ASCII", leafOf("", "z", "\x7f", "\x80", "\xff", "\xff\x00")},
		{"a key of MaxKey bytes", leafOf("", long(api.MaxKey))},
		{"a Value of MaxInline bytes", leafOf(long(api.MaxInline), "a")},
		{"Page 2", holding(api.Item{Page: 2, Size: 100})},
		{"Page MaxSectors - 1", holding(api.Item{Page: api.MaxSectors - 1, Size: 100})},
		{"Size MaxInline + 1", holding(api.Item{Page: 9, Size: api.MaxInline + 1})},
		{"Size MaxValue", holding(api.Item{Page: 9, Size: api.MaxValue})},
		{"two items on one page", api.Node{Leaf: true, Keys: []string{"a", "b"}, Items: []api.Item{{Page: 9, Size: 61}, {Page: 9, Size: 61}}}},
		{"a node over two kids", otherOf("a")},
		{"a node over empty key", otherOf("")},
		{"a node over kids that are alike", over(5, 5)},
		{"a node over kids at the edges", over(2, api.MaxSectors-1)},
		{"a node with a key of MaxKey bytes", otherOf(long(api.MaxKey))},
		{"a node with empty items", api.Node{Keys: []string{"a"}, Items: []api.Item{}, Kids: []int{3, 2}}},
	}
}

func wrongOnes() []named {
	x := api.Item{Value: "x"}
	return []named{
		{"the zero value", api.Node{}},
		{"keys that are alike", leafOf("x", "a", "a")},
		{"empty keys", leafOf("x", "", "")},
		{"keys that fall", leafOf("x", "b", "a")},
		{"keys that fall at the end", leafOf("x", "a", "b", "ab")},
		{"a key of MaxKey + 1 bytes", leafOf("x", long(api.MaxKey+1))},
		{"a second key of MaxKey + 1 bytes", leafOf("x", "a", long(api.MaxKey+1))},
		{"a leaf with fewer items", api.Node{Leaf: true, Keys: []string{"a", "b"}, Items: []api.Item{x}}},
		{"a leaf with more items", api.Node{Leaf: true, Keys: []string{"a"}, Items: []api.Item{x, x}}},
		{"a leaf with an item and no key", api.Node{Leaf: true, Items: []api.Item{x}}},
		{"a leaf with a kid", api.Node{Leaf: true, Keys: []string{"a"}, Items: []api.Item{x}, Kids: []int{2}}},
		{"a leaf with kids alone", api.Node{Leaf: true, Kids: []int{2}}},
		{"a Value of MaxInline + 1 bytes", leafOf(long(api.MaxInline+1), "a")},
		{"a Size without a Page", holding(api.Item{Value: "x", Size: 1})},
		{"a long Size without a Page", holding(api.Item{Size: 100})},
		{"a negative Size without a Page", holding(api.Item{Size: -1})},
		{"Page 1", holding(api.Item{Page: 1, Size: 100})},
		{"Page -1", holding(api.Item{Page: -1, Size: 100})},
		{"Page MaxSectors", holding(api.Item{Page: api.MaxSectors, Size: 100})},
		{"the greatest Page", holding(api.Item{Page: math.MaxInt, Size: 100})},
		{"the smallest Page", holding(api.Item{Page: math.MinInt, Size: 100})},
		{"Page and Value", holding(api.Item{Page: 2, Size: 100, Value: "x"})},
		{"Size 0", holding(api.Item{Page: 2})},
		{"Size MaxInline", holding(api.Item{Page: 2, Size: api.MaxInline})},
		{"Size MaxValue + 1", holding(api.Item{Page: 2, Size: api.MaxValue + 1})},
		{"a negative Size", holding(api.Item{Page: 2, Size: -100})},
		{"a second item that is wrong", api.Node{Leaf: true, Keys: []string{"a", "b"}, Items: []api.Item{x, {Page: 1, Size: 100}}}},
		{"a node without keys", api.Node{Kids: []int{2}}},
		{"a node with as many kids as keys", api.Node{Keys: []string{"a"}, Kids: []int{2}}},
		{"a node with two kids more", over(2, 3, 4)},
		{"a node without kids", api.Node{Keys: []string{"a"}}},
		{"a node with items", api.Node{Keys: []string{"a"}, Items: []api.Item{x}, Kids: []int{2, 3}}},
		{"a node with items for kids", api.Node{Keys: []string{"a"}, Items: []api.Item{x}}},
		{"kid 1", over(2, 1)},
		{"a first kid 0", over(0, 2)},
		{"kid -2", over(-2, 2)},
		{"kid MaxSectors", over(2, api.MaxSectors)},
		{"a node's keys that are alike", otherOf("a", "a")},
		{"a node's keys that fall", otherOf("b", "a")},
		{"a node's key of MaxKey + 1 bytes", otherOf(long(api.MaxKey + 1))},
	}
}

// P4.1

func TestRight(t *testing.T) {
	for _, c := range rightOnes() {
		if !node.Right(c.n) {
			t.Errorf("%s: %v is refused", c.what, c.n)
		}
	}
	for _, c := range wrongOnes() {
		if node.Right(c.n) {
			t.Errorf("%s: %v is taken", c.what, c.n)
		}
	}
}

func TestRightHasNoBoundOfKeys(t *testing.T) {
	var keys []string
	for i := range 70000 {
		keys = append(keys, string([]byte{byte(i >> 16), byte(i >> 8), byte(i)}))
	}
	n := leafOf("", keys...)
	if !node.Right(n) || node.Size(n) != 2+70000*5 {
		t.Fatalf("a leaf of 70000 keys: %v, %d", node.Right(n), node.Size(n))
	}
	_, _, e := node.Encode(n)
	want(t, "Encode of 70000 keys", e, api.ErrLong)
	if at, is := node.Find(n, keys[69999]); at != 69999 || !is {
		t.Fatalf("Find of the last of 70000 keys = %d, %v", at, is)
	}
	a, key, b, e := node.Split(n)
	want(t, "Split of 70000 keys", e, api.OK)
	wantNode(t, "Join of its halves", node.Join(a, key, b), n)
}

func TestSize(t *testing.T) {
	for _, c := range []struct {
		n    api.Node
		size int
	}{
		{api.Node{Leaf: true}, 2},
		{leafOf("", ""), 4},
		{leafOf("x", "a"), 6},
		{leafOf("xyz", "a", "bc"), 2 + 6 + 7},
		{leafOf(long(api.MaxInline), long(api.MaxKey)), 2 + 122},
		{holding(api.Item{Page: 2, Size: 100}), 2 + 2 + 9},
		{holding(api.Item{Page: 4095, Size: 60000}), 2 + 2 + 9},
		{otherOf(""), 11},
		{otherOf("a"), 12},
		{otherOf("a", "bc"), 6 + 6 + 7},
		{otherOf(long(api.MaxKey)), 6 + 65},
	} {
		if size := node.Size(c.n); size != c.size {
			t.Errorf("Size of %v = %d; want %d", c.n, size, c.size)
		}
	}
	for _, c := range wrongOnes() {
		if size := node.Size(c.n); size != 0 {
			t.Errorf("%s: the Size is %d", c.what, size)
		}
	}
}

// P4.2

// laid is nodes, and their contents as the chapter lays them.
func laid() []struct {
	n       api.Node
	kind    int
	content string
} {
	return []struct {
		n       api.Node
		kind    int
		content string
	}{
		{leafOf("x", "a"), 1, "\x00\x01\x01a\x01x"},
		{api.Node{Leaf: true}, 1, "\x00\x00"},
		{leafOf("", ""), 1, "\x00\x01\x00\x00"},
		{leafOf("xyz", "a", "bc"), 1, "\x00\x02\x01a\x03xyz\x02bc\x03xyz"},
		{leafOf("\xff\x00", "\x00\xff"), 1, "\x00\x01\x02\x00\xff\x02\xff\x00"},
		{leafOf(long(60), long(60)), 1, "\x00\x01\x3c" + long(60) + "\x3c" + long(60)},
		{holding(api.Item{Page: 0x203, Size: 0xea60}), 1, "\x00\x01\x01k\xff\x00\x00\x02\x03\x00\x00\xea\x60"},
		{otherOf("a"), 2, "\x00\x01\x00\x00\x00\x02\x01a\x00\x00\x00\x03"},
		{api.Node{Keys: []string{"", "bc"}, Kids: []int{4095, 0x102, 9}}, 2,
			"\x00\x02\x00\x00\x0f\xff\x00\x00\x00\x01\x02\x02bc\x00\x00\x00\x09"},
	}
}

func TestEncode(t *testing.T) {
	for _, c := range laid() {
		kind, content, e := node.Encode(c.n)
		if e != api.OK || kind != c.kind || content != c.content {
			t.Errorf("Encode of %v = %d, %q, %v; want %d, %q", c.n, kind, content, e, c.kind, c.content)
		}
	}
	for _, c := range wrongOnes() {
		if kind, content, e := node.Encode(c.n); kind != 0 || content != "" || e != api.ErrArg {
			t.Errorf("%s: Encode = %d, %q, %v", c.what, kind, content, e)
		}
	}
}

// ofSize is a leaf with a content of so many bytes, not far from Room.
func ofSize(size int) api.Node {
	n := leafOf(long(60), "a"+long(59), "b"+long(59), "c"+long(59))
	last := size - 2 - 3*122 - 62 - 12
	n.Keys = append(n.Keys, "d"+long(9), "e"+long(9))
	n.Items = append(n.Items, api.Item{Value: long(50)}, api.Item{Value: long(last)})
	return n
}

func TestEncodeAtRoom(t *testing.T) {
	for _, size := range []int{api.Room - 1, api.Room, api.Room + 1, api.Room + 2} {
		n := ofSize(size)
		if !node.Right(n) || node.Size(n) != size {
			t.Fatalf("a leaf of %d bytes: %v, %d", size, node.Right(n), node.Size(n))
		}
		kind, content, e := node.Encode(n)
		if size > api.Room {
			if kind != 0 || content != "" || e != api.ErrLong {
				t.Fatalf("Encode of %d bytes = %d, %q, %v", size, kind, content, e)
			}
			continue
		}
		if kind != 1 || len(content) != size || e != api.OK {
			t.Fatalf("Encode of %d bytes = %d, %q, %v", size, kind, content, e)
		}
	}
	wrong := ofSize(api.Room + 1)
	wrong.Keys[1] = wrong.Keys[0]
	_, _, e := node.Encode(wrong)
	want(t, "Encode of a long node that is not right", e, api.ErrArg)
}

func TestEncodeOtherAtRoom(t *testing.T) {
	var keys []string
	for c := byte('a'); c < 'h'; c++ {
		keys = append(keys, string(c)+long(59))
	}
	// 6 and 7 times 65 are 461; a key of 26 bytes more takes 31.
	n := otherOf(append(keys, "h"+long(25))...)
	kind, content, e := node.Encode(n)
	if kind != 2 || len(content) != api.Room || e != api.OK {
		t.Fatalf("Encode of a node of Room bytes = %d, %q, %v", kind, content, e)
	}
	_, _, e = node.Encode(otherOf(append(keys, "h"+long(26))...))
	want(t, "Encode of a node of one byte more", e, api.ErrLong)
}

func TestDecode(t *testing.T) {
	for _, c := range laid() {
		n, e := node.Decode(c.kind, c.content)
		want(t, "Decode", e, api.OK)
		wantNode(t, "Decode", n, c.n)
	}
}

// wantNoNode looks that a kind and content are refused.
func wantNoNode(t *testing.T, what string, kind int, content string) {
	t.Helper()
	n, e := node.Decode(kind, content)
	if e != api.ErrForm || !reflect.DeepEqual(n, api.Node{}) {
		t.Errorf("%s: Decode of %d, %q = %v, %v", what, kind, content, n, e)
	}
}

func TestDecodeOfOtherKinds(t *testing.T) {
	for _, c := range laid() {
		for _, kind := range []int{math.MinInt, -1, 0, 3, 4, 255, 257, 258, math.MaxInt} {
			wantNoNode(t, "another kind", kind, c.content)
		}
		if len(c.n.Keys) > 0 && c.kind == 2 {
			wantNoNode(t, "a leaf's kind", 1, c.content)
		}
		if c.kind == 1 {
			wantNoNode(t, "no leaf's kind", 2, c.content)
		}
	}
}

func TestDecodeOfOtherLengths(t *testing.T) {
	for _, c := range laid() {
		for cut := range len(c.content) {
			wantNoNode(t, "cut off", c.kind, c.content[:cut])
		}
		for _, more := range []string{"\x00", "\x01", "a", "\x00\x00\x00\x00\x00\x00"} {
			wantNoNode(t, "bytes more", c.kind, c.content+more)
		}
		count := int(c.content[0])<<8 | int(c.content[1])
		for _, other := range []int{count - 1, count + 1, count + 256, 65535} {
			if other >= 0 {
				wantNoNode(t, "another count", c.kind, string([]byte{byte(other >> 8), byte(other)})+c.content[2:])
			}
		}
	}
}

func TestDecodeOfWrongNodes(t *testing.T) {
	for _, c := range []struct {
		what    string
		kind    int
		content string
	}{
		{"no bytes", 1, ""},
		{"no bytes", 2, ""},
		{"keys that are alike", 1, "\x00\x02\x01a\x00\x01a\x00"},
		{"keys that fall", 1, "\x00\x02\x01b\x00\x01a\x00"},
		{"a key of MaxKey + 1 bytes", 1, "\x00\x01\x3d" + long(61) + "\x00"},
		{"a key of 255 bytes", 1, "\x00\x01\xff" + long(255) + "\x00"},
		{"a Value of MaxInline + 1 bytes", 1, "\x00\x01\x01a\x3d" + long(61)},
		{"a Value of 254 bytes", 1, "\x00\x01\x01a\xfe" + long(254)},
		{"Page and Size 0", 1, "\x00\x01\x01a\xff\x00\x00\x00\x00\x00\x00\x00\x00"},
		{"Page 0", 1, "\x00\x01\x01a\xff\x00\x00\x00\x00\x00\x00\x00\x64"},
		{"Page 1", 1, "\x00\x01\x01a\xff\x00\x00\x00\x01\x00\x00\x00\x64"},
		{"Page MaxSectors", 1, "\x00\x01\x01a\xff\x00\x00\x10\x00\x00\x00\x00\x64"},
		{"Page 2^31 + 2", 1, "\x00\x01\x01a\xff\x80\x00\x00\x02\x00\x00\x00\x64"},
		{"Size MaxInline", 1, "\x00\x01\x01a\xff\x00\x00\x00\x02\x00\x00\x00\x3c"},
		{"Size MaxValue + 1", 1, "\x00\x01\x01a\xff\x00\x00\x00\x02\x00\x00\xea\x61"},
		{"Size 2^31 + 100", 1, "\x00\x01\x01a\xff\x00\x00\x00\x02\x80\x00\x00\x64"},
		{"a node without keys", 2, "\x00\x00\x00\x00\x00\x02"},
		{"a first kid 1", 2, "\x00\x01\x00\x00\x00\x01\x01a\x00\x00\x00\x03"},
		{"a last kid MaxSectors", 2, "\x00\x01\x00\x00\x00\x02\x01a\x00\x00\x10\x00"},
		{"a kid 2^24 + 2", 2, "\x00\x01\x00\x00\x00\x02\x01a\x01\x00\x00\x02"},
		{"a node's keys that are alike", 2, "\x00\x02\x00\x00\x00\x02\x01a\x00\x00\x00\x03\x01a\x00\x00\x00\x04"},
		{"a node's key of MaxKey + 1 bytes", 2, "\x00\x01\x00\x00\x00\x02\x3d" + long(61) + "\x00\x00\x00\x03"},
	} {
		wantNoNode(t, c.what, c.kind, c.content)
	}
	for _, edge := range []string{
		"\x00\x01\x01a\xff\x00\x00\x00\x02\x00\x00\x00\x3d",
		"\x00\x01\x01a\xff\x00\x00\x0f\xff\x00\x00\xea\x60",
	} {
		_, e := node.Decode(1, edge)
		want(t, "Decode at the edge", e, api.OK)
	}
}

func TestDecodeIsNotBoundByRoom(t *testing.T) {
	content := "\xff\xff"
	var keys []string
	for i := range 65535 {
		key := string([]byte{byte(i >> 8), byte(i)})
		keys = append(keys, key)
		content += "\x02" + key + "\x00"
		if i == 299 {
			n, e := node.Decode(1, "\x01\x2c"+content[2:])
			want(t, "Decode of 300 keys", e, api.OK)
			wantNode(t, "Decode of 300 keys", n, leafOf("", keys...))
		}
		if i == 1000 {
			break
		}
	}
	wantNoNode(t, "a count of 65535", 1, content)
	whole := []byte("\xff\xff")
	for i := range 65535 {
		whole = append(whole, 2, byte(i>>8), byte(i), 0)
	}
	n, e := node.Decode(1, string(whole))
	if e != api.OK || len(n.Keys) != 65535 || node.Size(n) != len(whole) {
		t.Fatalf("Decode of 65535 keys = %d of them, %v", len(n.Keys), e)
	}
}

// P4.3

func TestFindInALeaf(t *testing.T) {
	n := leafOf("x", "", "b", "bb", "d\xff")
	for _, c := range []struct {
		key string
		at  int
		is  bool
	}{
		{"", 0, true}, {"\x00", 1, false}, {"a", 1, false}, {"azz", 1, false}, {"b", 1, true},
		{"b\x00", 2, false}, {"ba", 2, false}, {"bb", 2, true}, {"bba", 3, false}, {"c", 3, false},
		{"d", 3, false}, {"d\xff", 3, true}, {"d\xff\x00", 4, false}, {"\xff", 4, false}, {long(1000), 4, false},
	} {
		if at, is := node.Find(n, c.key); at != c.at || is != c.is {
			t.Errorf("Find of %q = %d, %v; want %d, %v", c.key, at, is, c.at, c.is)
		}
	}
	if at, is := node.Find(api.Node{Leaf: true}, "a"); at != 0 || is {
		t.Errorf("Find in a leaf without keys = %d, %v", at, is)
	}
}

func TestFindInAnotherNode(t *testing.T) {
	n := otherOf("b", "bb", "d")
	for _, c := range []struct {
		key string
		at  int
		is  bool
	}{
		{"", 0, false}, {"a", 0, false}, {"b", 1, true}, {"ba", 1, false}, {"bb", 2, true},
		{"c", 2, false}, {"d", 3, true}, {"d\x00", 3, false}, {"\xff", 3, false}, {long(1000), 3, false},
	} {
		if at, is := node.Find(n, c.key); at != c.at || is != c.is {
			t.Errorf("Find of %q = %d, %v; want %d, %v", c.key, at, is, c.at, c.is)
		}
	}
	if at, is := node.Find(otherOf("", "b"), ""); at != 1 || !is {
		t.Errorf("Find of an empty key = %d, %v", at, is)
	}
}

func TestFindInWhatIsNotRight(t *testing.T) {
	for _, c := range wrongOnes() {
		for _, key := range []string{"", "a", "b", "k", "zz", long(api.MaxKey + 1)} {
			if at, is := node.Find(c.n, key); at != 0 || is {
				t.Errorf("%s: Find of %q = %d, %v", c.what, key, at, is)
			}
		}
	}
}

// P4.4

func wantSplit(t *testing.T, what string, n, first api.Node, key string, second api.Node) {
	t.Helper()
	a, k, b, e := node.Split(n)
	want(t, what, e, api.OK)
	wantNode(t, what+", the first one", a, first)
	wantNode(t, what+", the other one", b, second)
	if k != key {
		t.Fatalf("%s: the key is %q; want %q", what, k, key)
	}
}

func wantNoSplit(t *testing.T, what string, n api.Node) {
	t.Helper()
	a, key, b, e := node.Split(n)
	if e != api.ErrArg || key != "" || !reflect.DeepEqual(a, api.Node{}) || !reflect.DeepEqual(b, api.Node{}) {
		t.Fatalf("%s: Split = %v, %q, %v, %v", what, a, key, b, e)
	}
}

func TestSplitOfALeaf(t *testing.T) {
	wantNoSplit(t, "no key", api.Node{Leaf: true})
	wantNoSplit(t, "one key", leafOf("x", "a"))
	wantSplit(t, "two keys", leafOf("x", "a", "b"), leafOf("x", "a"), "b", leafOf("x", "b"))
	// Of 2 + 3 times 4 bytes the first one has 6 with one key, which is below half, 10 with two.
	wantSplit(t, "three keys", leafOf("x", "a", "b", "c"), leafOf("x", "a", "b"), "c", leafOf("x", "c"))
	// Of 2 + 4 times 4 bytes it has 10 with two keys.
	wantSplit(t, "four keys", leafOf("x", "a", "b", "c", "d"), leafOf("x", "a", "b"), "c", leafOf("x", "c", "d"))
}

// sizes is a leaf of the keys a, b and so on, each of which takes so many bytes with its Value, from 3 on.
func sizes(s ...int) api.Node {
	n := api.Node{Leaf: true}
	for i, size := range s {
		n.Keys = append(n.Keys, string(rune('a'+i)))
		n.Items = append(n.Items, api.Item{Value: long(size - 3)})
	}
	return n
}

// firstKeys is how many keys the first one has.
func firstKeys(t *testing.T, n api.Node) int {
	t.Helper()
	a, _, b, e := node.Split(n)
	want(t, "Split", e, api.OK)
	if up := len(n.Keys) - len(a.Keys) - len(b.Keys); n.Leaf && up != 0 || !n.Leaf && up != 1 {
		t.Fatalf("Split of %v: %d keys of the first one and %d of the other one", n, len(a.Keys), len(b.Keys))
	}
	return len(a.Keys)
}

func TestWhereALeafIsSplit(t *testing.T) {
	for _, c := range []struct {
		n     api.Node
		first int
	}{
		{sizes(60, 3), 1},         // the fewest
		{sizes(3, 60), 1},         // all but one, though that is below half
		{sizes(3, 3, 60), 2},      // all but one
		{sizes(60, 3, 3), 1},      // one at least
		{sizes(3, 3, 3, 60), 3},   // all but one
		{sizes(3, 60, 3, 3), 2},   // the second one fills it
		{sizes(10, 4, 8), 1},      // just half: 12 of 24
		{sizes(10, 4, 9), 2},      // below half: 12 of 25
		{sizes(10, 4, 10), 2},     // below half: 12 of 26
		{sizes(9, 5, 8), 2},       // below half: 11 of 24
		{sizes(4, 4, 3, 3, 4), 2}, // half of the whole, with the two bytes of the count: 10 of 20
		{sizes(4, 3, 3, 4, 3), 3}, // 9 of 19 is below half
	} {
		if first := firstKeys(t, c.n); first != c.first {
			t.Errorf("Split of %v: the first one has %d keys; want %d", c.n, first, c.first)
		}
	}
}

func TestSplitOfAnotherNode(t *testing.T) {
	wantNoSplit(t, "one key", otherOf("a"))
	wantNoSplit(t, "two keys", otherOf("a", "b"))
	wantSplit(t, "three keys", otherOf("a", "b", "c"),
		api.Node{Keys: []string{"a"}, Kids: []int{2, 3}}, "b", api.Node{Keys: []string{"c"}, Kids: []int{4, 5}})
	// Of 6 + 4 times 6 bytes the first one has 12 with one key, which is below half, 18 with two.
	wantSplit(t, "four keys", otherOf("a", "b", "c", "d"),
		api.Node{Keys: []string{"a", "b"}, Kids: []int{2, 3, 4}}, "c", api.Node{Keys: []string{"d"}, Kids: []int{5, 6}})
	wantSplit(t, "five keys", otherOf("a", "b", "c", "d", "e"),
		api.Node{Keys: []string{"a", "b"}, Kids: []int{2, 3, 4}}, "c", api.Node{Keys: []string{"d", "e"}, Kids: []int{5, 6, 7}})
}

func TestWhereAnotherNodeIsSplit(t *testing.T) {
	for _, c := range []struct {
		n     api.Node
		first int
	}{
		{otherOf(long(50), "y", "z"), 1},
		{otherOf("a", "b", long(50)), 1},
		{otherOf("a", "b", "c", long(50)), 2},              // all but two, though that is below half
		{otherOf("a", "b", "c", "d", long(50)), 3},         // all but two
		{otherOf("a"+long(50), "b", "c", "d", "e"), 1},     // one at least
		{otherOf("a"+long(7), "b", "c", "d"+long(1)), 1},   // just half: 6 + 13 of 38
		{otherOf("a"+long(7), "b", "c", "d"+long(2)), 2},   // below half: 19 of 39
		{otherOf("a", "b", "c", "d", "e"+long(2), "f"), 3}, // 18 of 44 is below half
	} {
		if first := firstKeys(t, c.n); first != c.first {
			t.Errorf("Split of %v: the first one has %d keys; want %d", c.n, first, c.first)
		}
	}
}

func TestSplitOfALongNode(t *testing.T) {
	n := ofSize(api.Room + 1)
	a, key, b, e := node.Split(n)
	want(t, "Split", e, api.OK)
	if node.Size(a)+node.Size(b)-2 != api.Room+1 || key != b.Keys[0] || 2*node.Size(a) < api.Room+1 {
		t.Fatalf("Split of a long leaf = %v, %q, %v", a, key, b)
	}
}

func TestSplitOfWhatIsNotRight(t *testing.T) {
	for _, c := range wrongOnes() {
		wantNoSplit(t, c.what, c.n)
	}
	wrong := leafOf("x", "a", "b", "c")
	wrong.Items[2].Size = 1
	wantNoSplit(t, "a last item that is wrong", wrong)
}

func TestJoin(t *testing.T) {
	a, b := leafOf("x", "a", "b"), leafOf("y", "c")
	wantNode(t, "Join of leaves", node.Join(a, "c", b), api.Node{Leaf: true, Keys: []string{"a", "b", "c"},
		Items: []api.Item{{Value: "x"}, {Value: "x"}, {Value: "y"}}})
	wantNode(t, "Join of leaves with any key", node.Join(a, "zz", b), node.Join(a, "", b))
	wantNode(t, "Join with a leaf without keys", node.Join(api.Node{Leaf: true}, "k", b), b)
	wantNode(t, "Join of others", node.Join(over(2, 3), "m", api.Node{Keys: []string{"x", "y"}, Kids: []int{9, 8, 7}}),
		api.Node{Keys: []string{"k", "m", "x", "y"}, Kids: []int{2, 3, 9, 8, 7}})
	wantNode(t, "Join of a leaf and another one", node.Join(a, "k", over(2, 3)), a)
	wantNode(t, "Join of another one and a leaf", node.Join(over(2, 3), "k", a), over(2, 3))
}

// Join asks for no node to be right.
func TestJoinOfWhatIsNotRight(t *testing.T) {
	wantNode(t, "Join of zero values", node.Join(api.Node{}, "k", api.Node{}), api.Node{Keys: []string{"k"}})
	wantNode(t, "Join of keys that fall", node.Join(leafOf("x", "b"), "", leafOf("x", "a")), leafOf("x", "b", "a"))
	odd := api.Node{Keys: []string{"b", "a"}, Items: []api.Item{{Size: 3}}, Kids: []int{-1}}
	wantNode(t, "Join of another one and a leaf", node.Join(odd, "k", leafOf("x", "a")), odd)
	for _, a := range append(wrongOnes(), rightOnes()...) {
		for _, b := range append(wrongOnes(), rightOnes()...) {
			n := node.Join(a.n, "k", b.n)
			if n.Leaf != a.n.Leaf {
				t.Fatalf("Join of %s and %s = %v", a.what, b.what, n)
			}
		}
	}
}

// P4.5

func TestWithout(t *testing.T) {
	n := leafOf("x", "a", "b", "c")
	wantNode(t, "With at 0", node.With(n, 0, ""), leafOf("x", "b", "c"))
	wantNode(t, "With at 1", node.With(n, 1, "zz"), leafOf("x", "a", "c"))
	wantNode(t, "With at 2", node.With(n, 2, "c"), leafOf("x", "a", "b"))
	wantNode(t, "With at 3", node.With(n, 3, "c"), n)
	wantNode(t, "With at 4", node.With(n, 4, "c"), n)
	wantNode(t, "With at -1", node.With(n, -1, "c"), n)
	wantNode(t, "With of the last key", node.With(leafOf("x", "a"), 0, "a"), api.Node{Leaf: true})
	wantNode(t, "With of no key", node.With(api.Node{Leaf: true}, 0, "a"), api.Node{Leaf: true})
	items := api.Node{Leaf: true, Keys: []string{"a", "b"}, Items: []api.Item{{Page: 2, Size: 61}, {Value: "v"}}}
	wantNode(t, "With of an item", node.With(items, 0, "a"), leafOf("v", "b"))
	wantNode(t, "With of the other item", node.With(items, 1, "a"), api.Node{Leaf: true, Keys: []string{"a"}, Items: []api.Item{{Page: 2, Size: 61}}})
}

func TestWithOneMore(t *testing.T) {
	n := leafOf("x", "b", "d")
	more := api.Item{Value: "new"}
	for at, keys := range [][]string{{"k", "b", "d"}, {"b", "k", "d"}, {"b", "d", "k"}} {
		wanted := leafOf("x", keys...)
		wanted.Items[at] = more
		wantNode(t, "With one more", node.With(n, at, "k", more), wanted)
	}
	wantNode(t, "With one more at -1", node.With(n, -1, "k", more), n)
	wantNode(t, "With one more beyond", node.With(n, 3, "k", more), n)
	wantNode(t, "With one more at the greatest", node.With(n, math.MaxInt, "k", more), n)
	wantNode(t, "With one more at the smallest", node.With(n, math.MinInt, "k", more), n)
	wantNode(t, "With one in a leaf without keys", node.With(api.Node{Leaf: true}, 0, "k", more), leafOf("new", "k"))
	long := api.Item{Page: 2, Size: 61}
	wantNode(t, "With a long one", node.With(api.Node{Leaf: true}, 0, "k", long), holding(long))
}

// With asks for no key and no item that may be: it puts in what it is told.
func TestWithOneThatMayNotBe(t *testing.T) {
	odd := api.Item{Value: "x", Page: -1, Size: 7}
	n := node.With(leafOf("x", "b"), 1, "a", odd)
	wantNode(t, "With an odd one", n, api.Node{Leaf: true, Keys: []string{"b", "a"}, Items: []api.Item{{Value: "x"}, odd}})
}

func TestWithTwoMore(t *testing.T) {
	n := leafOf("x", "b", "d")
	for at := -1; at < 4; at++ {
		wantNode(t, "With two more", node.With(n, at, "k", api.Item{}, api.Item{}), n)
		wantNode(t, "With three more", node.With(n, at, "k", api.Item{}, api.Item{}, api.Item{}), n)
	}
}

func TestWithOfOthers(t *testing.T) {
	for _, c := range append(wrongOnes(), named{"no leaf", otherOf("a", "b")}) {
		for at := -1; at < 4; at++ {
			wantNode(t, c.what, node.With(c.n, at, "k"), c.n)
			wantNode(t, c.what, node.With(c.n, at, "k", api.Item{Value: "v"}), c.n)
			wantNode(t, c.what, node.With(c.n, at, "k", api.Item{}, api.Item{}), c.n)
		}
	}
}

// Rule 3

// spare is the node with room behind each of its lists: what writes there, or into them, writes into the caller's.
func spare(n api.Node) api.Node {
	keys := append(slices.Clone(n.Keys), "!", "!")
	items := append(slices.Clone(n.Items), api.Item{Size: -7}, api.Item{Size: -7})
	kids := append(slices.Clone(n.Kids), -7, -7)
	return api.Node{Leaf: n.Leaf, Keys: keys[:len(n.Keys)], Items: items[:len(n.Items)], Kids: kids[:len(n.Kids)]}
}

// wantUntouched looks that the lists of spare's answer are as they were, and behind them.
func wantUntouched(t *testing.T, what string, n, was api.Node) {
	t.Helper()
	wantNode(t, what, n, was)
	keys, items, kids := n.Keys[:len(n.Keys)+2], n.Items[:len(n.Items)+2], n.Kids[:len(n.Kids)+2]
	if keys[len(n.Keys)] != "!" || items[len(n.Items)].Size != -7 || kids[len(n.Kids)] != -7 {
		t.Fatalf("%s: bytes behind the lists changed: %v %v %v", what, keys, items, kids)
	}
}

// spoil writes over all of a node's lists, and behind them.
func spoil(n api.Node) {
	for i := range n.Keys {
		n.Keys[i] = "spoilt"
	}
	for i := range n.Items {
		n.Items[i] = api.Item{Value: "spoilt"}
	}
	for i := range n.Kids {
		n.Kids[i] = -99
	}
	_ = append(n.Keys, "spoilt")
	_ = append(n.Items, api.Item{Value: "spoilt"})
	_ = append(n.Kids, -99)
}

func TestWhatIsHandedInAndOutIsTheCallers(t *testing.T) {
	all := append(wrongOnes(), rightOnes()...)
	all = append(all, named{"three keys", leafOf("x", "a", "b", "c")}, named{"no leaf, three keys", otherOf("a", "b", "c")})
	for _, c := range all {
		n := spare(c.n)
		node.Right(n)
		node.Size(n)
		node.Encode(n)
		node.Find(n, "a")
		a, key, b, _ := node.Split(n)
		was := node.Join(b, key, b)
		spoil(a)
		wantNode(t, c.what+": the other half", node.Join(b, key, b), was)
		spoil(b)
		spoil(node.Join(n, "k", n))
		spoil(node.Join(n, "k", leafOf("x", "a")))
		spoil(node.Join(n, "k", otherOf("a")))
		spoil(node.Join(n, "k", api.Node{Leaf: n.Leaf}))
		spoil(node.Join(api.Node{Leaf: n.Leaf}, "k", n))
		items := []api.Item{{Value: "v"}, {Value: "w"}, {Value: "u"}}
		for at := -1; at < len(n.Keys)+2; at++ {
			spoil(node.With(n, at, "k"))
			spoil(node.With(n, at, "k", items[:1]...))
			spoil(node.With(n, at, "k", items[:2]...))
		}
		wantUntouched(t, c.what, n, c.n)
		if items[0].Value != "v" || items[1].Value != "w" || items[2].Value != "u" {
			t.Fatalf("%s: items that were handed in are %v", c.what, items)
		}
	}
}

func TestEachDecodeIsItsOwn(t *testing.T) {
	for _, c := range laid() {
		n, _ := node.Decode(c.kind, c.content)
		spoil(n)
		n, e := node.Decode(c.kind, c.content)
		want(t, "Decode again", e, api.OK)
		wantNode(t, "Decode again", n, c.n)
	}
}
