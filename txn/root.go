package txn

// rootBytes is how many bytes of the root's content tell the tree's root.
const rootBytes = 4

// rootOf is the tree's root that a root's content tells, if it tells one.
func rootOf(content string) (int, bool) {
	root := 0
	for _, b := range []byte(content) {
		root = root<<8 | int(b)
	}
	switch len(content) {
	case 0, rootBytes:
		return root, true
	}
	return 0, false
}

// contentOf is the root's content that tells a tree's root.
func contentOf(root int) string {
	var b [rootBytes]byte
	for i := range b {
		b[i] = byte(root >> (8 * (rootBytes - 1 - i)))
	}
	return string(b[:])
}
