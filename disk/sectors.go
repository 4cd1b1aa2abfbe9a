package disk

import (
	"slices"

	"haversack/api"
)

// sectors are the bytes that last whatever happens to the power. They are arrays, so that a copied list of them shares nothing.
type sectors struct {
	list [][api.Sector]byte
}

func blank(n int) sectors {
	return sectors{list: make([][api.Sector]byte, n)}
}

func (s *sectors) count() int {
	return len(s.list)
}

func (s *sectors) has(at int) bool {
	return at >= 0 && at < len(s.list)
}

// lay takes fewer bytes than a sector has, too: a crash may tear a write.
func (s *sectors) lay(at int, b []byte) {
	copy(s.list[at][:], b)
}

// held hands out the caller's own bytes, so that nobody can change a sector but by a write.
func (s *sectors) held(at int) []byte {
	b := make([]byte, api.Sector)
	copy(b, s.list[at][:])
	return b
}

func (s *sectors) another() sectors {
	return sectors{list: slices.Clone(s.list)}
}
