package names

// places tell of a name, for each count of its first bytes, whether the pattern so far matches these. All ways are kept at one time: to try them one by one could take longer than anybody waits.
type places []bool

// Match tells whether a name matches a pattern.
func Match(pattern, name string) bool {
	reached := make(places, len(name)+1)
	reached[0] = true
	for i := range len(pattern) {
		switch pattern[i] {
		case '*':
			reached.spread(name, false)
		case '%':
			reached.spread(name, true)
		default:
			reached.step(name, pattern[i])
		}
	}
	return reached[len(name)]
}

// spread goes on from each place over any bytes, or up to the next slash.
func (p places) spread(name string, within bool) {
	for i := range len(name) {
		if p[i] && !(within && name[i] == slash[0]) {
			p[i+1] = true
		}
	}
}

// step goes on from each place over one byte, from the end on, so that no place is left twice.
func (p places) step(name string, over byte) {
	for i := len(name); i > 0; i-- {
		p[i] = p[i-1] && name[i-1] == over
	}
	p[0] = false
}
