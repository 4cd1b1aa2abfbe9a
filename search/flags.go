package search

import (
	"slices"
	"strings"

	"haversack/words"
)

// mostFlags is how many flags are kept at the most, longestFlag how many bytes one has.
const (
	mostFlags   = 20
	longestFlag = 30
)

// kept is a flag as it is kept; false, if it is passed over.
func kept(flag string) (string, bool) {
	switch words.Lower(flag) {
	case `\answered`:
		return `\Answered`, true
	case `\deleted`:
		return `\Deleted`, true
	case `\draft`:
		return `\Draft`, true
	case `\flagged`:
		return `\Flagged`, true
	case `\seen`:
		return `\Seen`, true
	}
	return flag, keyword(flag)
}

// keyword tells whether a flag may be kept that is none of the system's.
func keyword(flag string) bool {
	if len(flag) < 1 || len(flag) > longestFlag || words.Lower(flag) == "nil" {
		return false
	}
	digits := 0
	for i := range len(flag) {
		if !letter(flag[i]) {
			return false
		}
		if flag[i] >= '0' && flag[i] <= '9' {
			digits++
		}
	}
	return digits < len(flag)
}

func letter(b byte) bool {
	return b >= 33 && b <= 126 && strings.IndexByte(`(){}%*"\[]<>`, b) < 0
}

// allKept is flags as they are kept, but for how many they may be.
func allKept(l []string) []string {
	var all []string
	for _, flag := range l {
		if flag, is := kept(flag); is {
			all = append(all, flag)
		}
	}
	slices.Sort(all)
	return slices.Compact(all)
}

// without takes flags out of a list, which must be nobody else's. However many are taken, each of them is.
func without(l, taken []string) []string {
	all := allKept(taken)
	return slices.DeleteFunc(l, func(flag string) bool { return slices.Contains(all, flag) })
}
