package names

// octets are the bytes of a text that is being written.
type octets struct{ list []byte }

func (o *octets) add(more ...byte) { o.list = append(o.list, more...) }

func (o *octets) text() string { return string(o.list) }

// bits are those under way between groups of unlike widths, 16 of a unit and six of a letter, and the text that comes of them.
type bits struct {
	octets
	held    uint32 // those that wait are its lowest ones; what is above them has been taken
	count   int
	running bool // is a run of them open in the text?
}

// push lays bits behind those that wait: of at most 16 that wait, and at most 16 more, none is lost.
func (b *bits) push(value uint32, wide int) {
	b.held = b.held<<wide | value
	b.count += wide
}

// take is the first ones that wait, if there are so many.
func (b *bits) take(wide int) (uint32, bool) {
	if b.count < wide {
		return 0, false
	}
	b.count -= wide
	return b.held >> b.count & (1<<wide - 1), true
}

// clear lets what waits go.
func (b *bits) clear() { b.held, b.count = 0, 0 }
