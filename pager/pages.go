package pager

// firstPage is the lowest number of a page: the sectors ahead of it are the roots'.
const firstPage = 2

// state is what a page is.
type state int

// The states of a page: in all but the first it is used.
const (
	free state = iota
	kept
	fresh
	dropped
	waiting
)

// sheet is a page's state and, of one that waits, the gen that it waits for. A free page's is the zero value, so that nothing is kept of what it was.
type sheet struct {
	state state
	gen   int
}

// pages has a sheet for each sector, the roots' too: so a page's number is its place.
type pages struct {
	sheets []sheet
}

func allFree(sectors int) pages {
	return pages{sheets: make([]sheet, sectors)}
}

func (s *pages) isPage(n int) bool {
	return n >= firstPage && n < len(s.sheets)
}

func (s *pages) isUsed(n int) bool {
	return s.isPage(n) && s.sheets[n].state != free
}

// lowestFree is 0, which is no page's number, if none is free.
func (s *pages) lowestFree() int {
	for n := firstPage; n < len(s.sheets); n++ {
		if s.sheets[n].state == free {
			return n
		}
	}
	return 0
}

func (s *pages) countFree() int {
	count := 0
	for n := firstPage; n < len(s.sheets); n++ {
		if s.sheets[n].state == free {
			count++
		}
	}
	return count
}

func (s *pages) turn(from state, to sheet) {
	for n := range s.sheets {
		if s.sheets[n].state == from {
			s.sheets[n] = to
		}
	}
}

// releaseUpTo frees what waits for no gen above this one.
func (s *pages) releaseUpTo(gen int) {
	for n := range s.sheets {
		if s.sheets[n].state == waiting && s.sheets[n].gen <= gen {
			s.sheets[n] = sheet{}
		}
	}
}
