package view_test

import (
	"math"
	"slices"
	"testing"

	"haversack/api"
)

// P18.2: Sync, and P18.3: Note.

func TestExample(t *testing.T) {
	p := newPlay(t, plain(1, 2, 3)...)
	p.wantSync("the chapter's example", false, plain(1, 3, 5), told(gone(2), exists(3)), 1, 3, 5)
}

// Each case goes on from a view of UIDs 1, 2, 3 and 7, whose flags are none, a, \Seen, and none.
func TestSync(t *testing.T) {
	ahead := box(of(1), of(2, "a"), of(3, `\Seen`), of(7))
	for _, c := range []struct {
		why         string
		now         []api.Mail
		wanted      []api.Told
		uids        []int
		wantedQuiet []api.Told
		uidsQuiet   []int
	}{
		{"nothing changed", ahead, nil, numbers(1, 2, 3, 7), nil, numbers(1, 2, 3, 7)},
		{"all gone", nil, told(gone(4), gone(3), gone(2), gone(1)), nil, nil, numbers(1, 2, 3, 7)},
		{"the first one gone", ahead[1:], told(gone(1)), numbers(2, 3, 7), nil, numbers(1, 2, 3, 7)},
		{"the last one gone", ahead[:3], told(gone(4)), numbers(1, 2, 3), nil, numbers(1, 2, 3, 7)},
		{"the first and the last one gone", ahead[1:3], told(gone(4), gone(1)), numbers(2, 3), nil, numbers(1, 2, 3, 7)},
		{"two within gone", box(ahead[0], ahead[3]), told(gone(3), gone(2)), numbers(1, 7), nil, numbers(1, 2, 3, 7)},
		{"each second one gone", box(ahead[1], ahead[3]), told(gone(3), gone(1)), numbers(2, 7), nil, numbers(1, 2, 3, 7)},
		{"one new", append(slices.Clone(ahead), of(8)), told(exists(5)), numbers(1, 2, 3, 7, 8), told(exists(5)), numbers(1, 2, 3, 7, 8)},
		{"several new", append(slices.Clone(ahead), plain(8, 10, math.MaxInt)...), told(exists(7)), numbers(1, 2, 3, 7, 8, 10, math.MaxInt), told(exists(7)), numbers(1, 2, 3, 7, 8, 10, math.MaxInt)},
		{"new ones with flags", append(slices.Clone(ahead), of(8, "x"), of(9, `\seen`, "y")), told(exists(6)), numbers(1, 2, 3, 7, 8, 9), told(exists(6)), numbers(1, 2, 3, 7, 8, 9)},
		{"all gone, others new", plain(8, 9), told(gone(4), gone(3), gone(2), gone(1), exists(2)), numbers(8, 9), told(exists(6)), numbers(1, 2, 3, 7, 8, 9)},
		{"as many new as gone", box(ahead[0], ahead[1], ahead[2], of(8)), told(gone(4), exists(4)), numbers(1, 2, 3, 8), told(exists(5)), numbers(1, 2, 3, 7, 8)},
		{"one not known, not above", box(ahead[0], ahead[1], ahead[2], of(4, "x"), of(6), ahead[3]), nil, numbers(1, 2, 3, 7), nil, numbers(1, 2, 3, 7)},
		{"such ones, and new ones", box(ahead[0], ahead[1], of(5), ahead[3], of(9)), told(gone(3), exists(4)), numbers(1, 2, 7, 9), told(exists(5)), numbers(1, 2, 3, 7, 9)},
		{"such ones alone", plain(4, 5, 6), told(gone(4), gone(3), gone(2), gone(1)), nil, nil, numbers(1, 2, 3, 7)},
		{"other flags", box(of(1, "x"), of(2), of(3, `\Seen`, "y"), of(7)), told(flagged(1, "x"), flagged(2), flagged(3, `\Seen`, "y")), numbers(1, 2, 3, 7), told(flagged(1, "x"), flagged(2), flagged(3, `\Seen`, "y")), numbers(1, 2, 3, 7)},
		{"other flags of one that moves", box(ahead[0], of(3), of(7, "z")), told(gone(2), flagged(2), flagged(3, "z")), numbers(1, 3, 7), told(flagged(3), flagged(4, "z")), numbers(1, 2, 3, 7)},
		{"gone, new and flags", box(of(2, "b"), of(3, `\Seen`), of(7), of(8, "n")), told(gone(1), exists(4), flagged(1, "b")), numbers(2, 3, 7, 8), told(exists(5), flagged(2, "b")), numbers(1, 2, 3, 7, 8)},
		{"other letters of a flag of the system", box(of(1), of(2, "a"), of(3, `\sEEN`, `\SEEN`), of(7)), nil, numbers(1, 2, 3, 7), nil, numbers(1, 2, 3, 7)},
		{"other letters of another flag", box(of(1), of(2, "A"), of(3, `\Seen`), of(7)), told(flagged(2, "A")), numbers(1, 2, 3, 7), told(flagged(2, "A")), numbers(1, 2, 3, 7)},
		{"flags that are passed over", box(of(1, `\x`, ""), of(2, "nil", "a", "1"), of(3, `\Seen`, "("), of(7, `\`)), nil, numbers(1, 2, 3, 7), nil, numbers(1, 2, 3, 7)},
		{"falling", box(ahead[3], ahead[2], ahead[1], ahead[0]), told(gone(3), gone(2), gone(1)), numbers(7), nil, numbers(1, 2, 3, 7)},
		{"one that falls", box(ahead[0], ahead[2], ahead[1], ahead[3]), told(gone(2)), numbers(1, 3, 7), nil, numbers(1, 2, 3, 7)},
		{"twice, with other flags", box(of(1), of(1, "x"), of(2, "a"), of(2), of(3, `\Seen`), of(1, "y"), of(7), of(7, "z")), nil, numbers(1, 2, 3, 7), nil, numbers(1, 2, 3, 7)},
		{"0 and below", box(of(0, "x"), of(-1), of(1), of(math.MinInt), of(2, "a"), of(3, `\Seen`), of(0), of(7)), nil, numbers(1, 2, 3, 7), nil, numbers(1, 2, 3, 7)},
		{"0 and below alone", plain(0, -1), told(gone(4), gone(3), gone(2), gone(1)), nil, nil, numbers(1, 2, 3, 7)},
		{"new ones that fall", append(slices.Clone(ahead), plain(9, 8, 9, 10)...), told(exists(6)), numbers(1, 2, 3, 7, 9, 10), told(exists(6)), numbers(1, 2, 3, 7, 9, 10)},
		{"a new one ahead of all", append(plain(8), ahead...), told(gone(4), gone(3), gone(2), gone(1), exists(1)), numbers(8), told(exists(5)), numbers(1, 2, 3, 7, 8)},
	} {
		newPlay(t, ahead...).wantSync(c.why, false, c.now, c.wanted, c.uids...)
		newPlay(t, ahead...).wantSync(c.why, true, c.now, c.wantedQuiet, c.uidsQuiet...)
		p := newPlay(t, ahead...)
		p.wantSync(c.why, true, c.now, c.wantedQuiet, c.uidsQuiet...)
		p.wantSync(c.why+", again", true, c.now, nil, c.uidsQuiet...)
		p.syncs(false, c.now...)
		wantLooks(t, c.why+", quiet, and then not", p.v, c.uids...)
	}
}

func TestSyncOfNone(t *testing.T) {
	for _, quiet := range []bool{false, true} {
		p := newPlay(t)
		p.wantSync("none of none", quiet, nil, nil)
		p.wantSync("others alone", quiet, plain(0, -1), nil)
		p.wantSync("the first one", quiet, box(of(1, "a")), told(exists(1)), 1)
		p = newPlay(t)
		p.wantSync("several", quiet, plain(3, 1, 4, 1, 5), told(exists(3)), 3, 4, 5)
	}
}

// A quiet Sync leaves those that are gone for one that is not.
func TestQuietThenNot(t *testing.T) {
	p := newPlay(t, plain(1, 2, 3)...)
	p.wantSync("quiet", true, plain(2), nil, 1, 2, 3)
	p.wantSync("quiet, with a new one", true, plain(2, 4), told(exists(4)), 1, 2, 3, 4)
	p.wantSync("quiet, the new one is gone", true, plain(2), nil, 1, 2, 3, 4)
	p.wantSync("quiet, one that is newer", true, box(of(2, "a"), of(6)), told(exists(5), flagged(2, "a")), 1, 2, 3, 4, 6)
	p.wantSync("not quiet", false, box(of(2, "a"), of(6)), told(gone(4), gone(3), gone(1)), 2, 6)
}

// One that was gone for a quiet Sync comes again; one that was told as gone never does.
func TestGoneAndBack(t *testing.T) {
	ahead := box(of(1), of(2, "a"), of(3))
	p := newPlay(t, ahead...)
	p.wantSync("2 is gone, quiet", true, plain(1, 3), nil, 1, 2, 3)
	p.wantSync("2 is back", false, ahead, nil, 1, 2, 3)
	p.wantSync("2 is gone, quiet", true, plain(1, 3), nil, 1, 2, 3)
	p.wantSync("2 is back with other flags", true, box(of(1), of(2, "b"), of(3)), told(flagged(2, "b")), 1, 2, 3)
	p.wantSync("2 is gone", false, plain(1, 3), told(gone(2)), 1, 3)
	p.wantSync("2 stays gone", false, ahead, nil, 1, 3)
	p.wantSync("2 stays gone, quiet", true, ahead, nil, 1, 3)
	p.wantSync("3 is gone", false, plain(1), told(gone(2)), 1)
	p.wantSync("3 stays gone, 4 comes", false, plain(1, 2, 3, 4), told(exists(2)), 1, 4)
	p.wantSync("all are gone", false, nil, told(gone(2), gone(1)))
	p.wantSync("all stay gone", false, plain(1, 2, 3, 4), nil)
	p.wantSync("5 comes", false, plain(1, 2, 3, 4, 5), told(exists(1)), 5)
}

// Those that were never known are not told later, as long as they are not above the greatest one.
func TestNeverKnown(t *testing.T) {
	p := newPlay(t, plain(5)...)
	for _, quiet := range []bool{false, true} {
		p.wantSync("below", quiet, plain(1, 4, 5), nil, 5)
		p.wantSync("below, with flags", quiet, box(of(1, "a"), of(5)), nil, 5)
	}
	p.wantSync("above", false, plain(1, 5, 9), told(exists(2)), 5, 9)
	p.wantSync("between", true, plain(1, 5, 6, 7, 8, 9), nil, 5, 9)
	p.wantSync("between, quiet no more", false, plain(1, 6, 7, 8), told(gone(2), gone(1)))
	p.wantSync("just not above", false, plain(9), nil)
	p.wantSync("just above", false, plain(10), told(exists(1)), 10)
	p = newPlay(t, plain(math.MaxInt)...)
	p.wantSync("nothing is above", false, plain(1, math.MaxInt-1), told(gone(1)))
	p.wantSync("it was there", false, plain(math.MaxInt), nil)
}

// Flags are told as they are kept, and once.
func TestFlags(t *testing.T) {
	p := newPlay(t, of(1))
	all := append(letters(26), `\seen`, "!", "~")
	wanted := append([]string{"!", `\Seen`}, letters(18)...)
	for _, c := range []struct {
		why    string
		flags  []string
		wanted []api.Told
	}{
		{"none", nil, nil},
		{"none that may be kept", []string{"", `\x`, "1", "nil"}, nil},
		{"some", []string{"b", `\SEEN`, "a", "b"}, told(flagged(1, `\Seen`, "a", "b"))},
		{"the same", []string{"b", `\SEEN`, "a", "b"}, nil},
		{"in another order", []string{"a", "b", `\Seen`}, nil},
		{"in other letters", []string{"a", "b", `\seen`}, nil},
		{"with some that are passed over", []string{"", "a", "b", `\seen`, `\recent`}, nil},
		{"one less", []string{"b", `\seen`}, told(flagged(1, `\Seen`, "b"))},
		{"one more", []string{"b", `\seen`, "1a"}, told(flagged(1, "1a", `\Seen`, "b"))},
		{"more than may be kept", all, told(flagged(1, wanted...))},
		{"just those that are kept", wanted, nil},
		{"other ones that are not kept", append([]string{"~"}, wanted...), nil},
		{"one of those ahead", append([]string{"A"}, wanted...), told(flagged(1, append([]string{"!", "A", `\Seen`}, letters(17)...)...))},
		{"none again", []string{`\x`}, told(flagged(1))},
	} {
		p.wantSync(c.why, false, box(of(1, c.flags...)), c.wanted, 1)
		p.wantSync(c.why+", again", true, box(of(1, c.flags...)), nil, 1)
	}
}

// Flags that a new one has by and by are told; those that it came with are not.
func TestFlagsOfNewOnes(t *testing.T) {
	for _, quiet := range []bool{false, true} {
		p := newPlay(t, of(1))
		p.wantSync("it comes", quiet, box(of(1), of(2, "b", "a")), told(exists(2)), 1, 2)
		p.wantSync("the same", quiet, box(of(1), of(2, "a", "b")), nil, 1, 2)
		p.wantSync("others", quiet, box(of(1, "x"), of(2, "a"), of(3, "c")), told(exists(3), flagged(1, "x"), flagged(2, "a")), 1, 2, 3)
		p.wantSync("none", quiet, plain(1, 2, 3), told(flagged(1), flagged(2), flagged(3)), 1, 2, 3)
	}
}

// Nothing but the UID and the flags of a message matters.
func TestTheRestOfAMessage(t *testing.T) {
	p := newPlay(t, of(1, "a"))
	p.wantSync("another text", false, box(api.Mail{UID: 1, Flags: []string{"a"}, Text: "x", Size: 7, ID: 9, Date: api.Date{Year: 2000}}), nil, 1)
}

func TestNote(t *testing.T) {
	p := newPlay(t, of(1), of(3, "a"), of(4))
	p.notes(3, "b", `\seen`, "b", `\x`)
	p.wantSync("they were told", false, box(of(1), of(3, `\Seen`, "b"), of(4)), nil, 1, 3, 4)
	p.notes(3)
	p.notes(1, "z")
	p.wantSync("they are others than the mailbox has", false, box(of(1), of(3, `\Seen`, "b"), of(4)), told(flagged(1), flagged(2, `\Seen`, "b")), 1, 3, 4)
	p.notes(4, "a")
	p.notes(4, "b")
	p.wantSync("the last ones count", true, box(of(1), of(3, `\Seen`, "b"), of(4, "b")), nil, 1, 3, 4)
	p.notes(4, append(letters(26), "!")...)
	p.wantSync("more than may be kept", true, box(of(4, append([]string{"!"}, letters(19)...)...)), nil, 1, 3, 4)
}

// A Note of a UID that is not known is of no place, then or later.
func TestNoteOfOthers(t *testing.T) {
	p := newPlay(t, of(1, "a"), of(3, "a"))
	p.syncs(false, of(3, "a"))
	for _, uid := range append([]int{1, 2, 4}, edges...) {
		if uid != 3 {
			p.notes(uid, "z")
		}
	}
	p.wantSync("nothing was noted", false, box(of(3, "a")), nil, 3)
	p.wantSync("1 stays gone, 4 comes with its own flags", false, box(of(1), of(3, "a"), of(4, "b")), told(exists(2)), 3, 4)
	p.wantSync("4 has others then", false, box(of(3, "a"), of(4, "z")), told(flagged(2, "z")), 3, 4)
}

// The last place's flags are noted by its UID, not by its place.
func TestNoteByUID(t *testing.T) {
	p := newPlay(t, plain(2, 3, 4)...)
	p.notes(2, "x")
	p.wantSync("2 is place 1", true, plain(2, 3, 4), told(flagged(1)), 2, 3, 4)
	p.notes(4, "x")
	p.wantSync("4 is place 3", true, plain(2, 3, 4), told(flagged(3)), 2, 3, 4)
	p.notes(3, "x")
	p.wantSync("3 moves", false, plain(3, 4), told(gone(1), flagged(1)), 3, 4)
	p.notes(3, "x")
	p.wantSync("3 is gone, quiet", true, plain(4), nil, 3, 4)
	p.notes(3, "y")
	p.wantSync("3 is back", true, box(of(3, "x"), of(4)), told(flagged(1, "x")), 3, 4)
}
