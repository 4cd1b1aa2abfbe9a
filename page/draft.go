package page

import (
	"slices"

	"haversack/api"
)

// strip is bytes of a sector, and the place where the next one comes.
type strip struct {
	bytes [api.Sector]byte
	next  int
}

// number lays a number of so many bytes, the highest one first.
func (s *strip) number(size int, n uint64) {
	for i := range size {
		s.bytes[s.next+size-1-i] = byte(n >> (8 * i))
	}
	s.next += size
}

// text lays bytes as they are.
func (s *strip) text(t string) {
	s.next += copy(s.bytes[s.next:], t)
}

// draft is a sector under way. It begins as noughts, so that a nought is laid by going on.
type draft struct {
	strip
}

// noughtsTo leaves noughts up to a place.
func (d *draft) noughtsTo(at int) {
	d.next = at
}

// sector is what was laid, as the caller's own.
func (d *draft) sector() []byte {
	return slices.Clone(d.bytes[:])
}

// number is the number that bytes tell, the highest one first.
func number(b []byte) uint64 {
	var n uint64
	for _, c := range b {
		n = n<<8 | uint64(c)
	}
	return n
}

// text is the first bytes of b, so many as there are of them: that a sector tells of more shows when it is sealed again.
func text(size uint64, b []byte) string {
	return string(b[:min(size, uint64(len(b)))])
}
