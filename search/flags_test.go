package search_test

import (
	"math"
	"math/rand"
	"slices"
	"strings"
	"testing"

	"haversack/search"
)

// P16.1, and what the chapter says of flags as they are kept.

var system = flags(`\Answered`, `\Deleted`, `\Draft`, `\Flagged`, `\Seen`)

func TestExampleOfFlags(t *testing.T) {
	wantFlags(t, "the example", flags(`\seen`, "b", "a", `\SEEN`, `\x`), `\Seen`, "a", "b")
}

func TestFlagsOfTheSystem(t *testing.T) {
	for _, flag := range system {
		wantKept(t, "as it is kept", flag, flag)
		for _, other := range inLetters(flag) {
			wantKept(t, "in other letters", other, flag)
			wantKept(t, "without its first byte", other[1:], other[1:])
			for _, near := range flags(other+"x", other+" ", other+`\`, " "+other, `\`+other, other[:len(other)-1], `\ `+other[1:]) {
				wantPassed(t, "near one of the system", near)
			}
		}
	}
	wantFlags(t, "all of them", flags(`\SEEN`, `\flagged`, `\dRAFT`, `\deleted`, `\ANSwered`, `\seen`, "Seen"), append(flags("Seen"), system...)...)
}

func TestOtherFlagsWithABackslash(t *testing.T) {
	for _, flag := range flags(`\`, `\\`, `\x`, `\*`, `\Recent`, `\All`, `\1`, `\nil`, "\\ſeen", "\\\u212aeen", `\Seen\Seen`, `a\`, `a\Seen`, `Seen\`, "/Seen") {
		if flag == "/Seen" {
			wantKept(t, "with a slash", flag, flag)
		} else {
			wantPassed(t, "with a backslash", flag)
		}
	}
}

func TestEachByteOfAFlag(t *testing.T) {
	for n := range 256 {
		b := byte(n)
		one := string([]byte{b})
		right := b >= 33 && b <= 126 && !strings.Contains(`(){}%*"\[]<>`, one)
		for _, flag := range flags("x"+one, one+"x", "x"+one+"x", one+one+"x", "1"+one+"x") {
			if right {
				wantKept(t, "with a byte", flag, flag)
			} else {
				wantPassed(t, "with a byte", flag)
			}
		}
		for _, flag := range flags(one, one+one, "7"+one, one+"7") {
			if right && (b < '0' || b > '9') {
				wantKept(t, "of a byte", flag, flag)
			} else {
				wantPassed(t, "of a byte", flag)
			}
		}
	}
}

func TestLongFlags(t *testing.T) {
	wantPassed(t, "no bytes", "")
	for _, one := range flags("a", "Z", "!", "~") {
		for _, n := range []int{1, 2, 29, 30} {
			wantKept(t, "not too long", times(one, n), times(one, n))
		}
		for _, n := range []int{31, 32, 60, 256 + 30, 65536 + 1, 1 << 20} {
			wantPassed(t, "too long", times(one, n))
		}
	}
	wantPassed(t, "as many digits as may be", times("1", 30))
	wantKept(t, "digits and a letter", times("1", 29)+"a", times("1", 29)+"a")
	wantPassed(t, "too many digits and a letter", times("1", 30)+"a")
	wantPassed(t, "letters beyond seven bits", times("é", 15))
}

func TestDigitsAndNil(t *testing.T) {
	for _, digits := range flags("0", "1", "9", "00", "17", "0123456789", "4294967296", times("9", 29)) {
		wantPassed(t, "digits alone", digits)
		for _, one := range flags("a", "-", ".", "+", ",", ":", "/", "_") {
			wantKept(t, "behind a sign", one+digits[1:]+"x", one+digits[1:]+"x")
			wantKept(t, "with a sign", digits[1:]+one, digits[1:]+one)
		}
	}
	for _, text := range flags("NIL", "nil", "Nil", "nIl", "niL", "NIl", "nIL", "NiL") {
		wantPassed(t, "nothing's name", text)
		for _, near := range flags(text+"x", "x"+text, text+"1", "1"+text, text[:2], text[1:], text+text, "-"+text) {
			wantKept(t, "near nothing's name", near, near)
		}
	}
	for _, text := range flags("N1L", "N", "I", "L", "NI", "IL", "nill", "nul", "1e5", "0x10", "1.5", "-1") {
		wantKept(t, "neither digits nor nothing's name", text, text)
	}
}

func TestSameFlagTwice(t *testing.T) {
	wantFlags(t, "none", nil)
	wantFlags(t, "none", flags())
	wantFlags(t, "none is kept", flags("", "1", "nil", `\x`))
	wantFlags(t, "in other letters", flags("b", "B", "a", "A", "b", "A", "aB", "Ab"), "A", "Ab", "B", "a", "aB", "b")
	wantFlags(t, "of the system in other letters", flags(`\seen`, `\Seen`, `\SEEN`, `\sEEN`), `\Seen`)
	wantFlags(t, "in their bytes' order", flags("aa", "a", "b", "ab", "a!", `\Draft`, "Z", "_", "~", "!", "^"), "!", "Z", `\Draft`, "^", "_", "a", "a!", "aa", "ab", "b", "~")
}

func TestManyFlags(t *testing.T) {
	all := letters(26)
	for n := range 27 {
		backward := slices.Clone(all[:n])
		slices.Reverse(backward)
		wantFlags(t, "in order", all[:n], all[:min(n, 20)]...)
		wantFlags(t, "backward", backward, all[:min(n, 20)]...)
		wantFlags(t, "twice", slices.Concat(backward, all[:n]), all[:min(n, 20)]...)
		wantFlags(t, "the first one last", slices.Concat(backward, flags("!")), append(flags("!"), all[:min(n, 19)]...)...)
		wantFlags(t, "the last one first", slices.Concat(flags("~"), backward), append(slices.Clone(all[:n]), "~")[:min(n+1, 20)]...)
		wantFlags(t, "with such as are passed over", slices.Concat(times1(30), backward), all[:min(n, 20)]...)
	}
	wantFlags(t, "of the system behind great letters", append(upper(letters(16)), system...), append(upper(letters(16)), system[:4]...)...)
}

// times1 are digits alone, so many.
func times1(n int) []string {
	var l []string
	for i := range n {
		l = append(l, times("1", i+1))
	}
	return l
}

func upper(l []string) []string {
	for i, s := range l {
		l[i] = strings.ToUpper(s)
	}
	return l
}

func TestHas(t *testing.T) {
	wantHas(t, "of none", nil, "a", false)
	wantHas(t, "none of none", nil, "", false)
	l := flags("b", `\SEEN`, "B", "17", "", "nil", "c")
	for _, flag := range flags("b", "B", "c", `\Seen`, `\seen`, `\SEEN`, `\sEEn`) {
		wantHas(t, "there", l, flag, true)
	}
	for _, flag := range flags("C", "bb", "a", "", "17", "nil", "Seen", `\Draft`, `\`, "\\ſeen", "b ", "b,c") {
		wantHas(t, "not there, or passed over", l, flag, false)
	}
	full := append(letters(22), "!")
	for _, flag := range append(letters(19), "!") {
		wantHas(t, "among the first ones", full, flag, true)
	}
	for _, flag := range flags("t", "u", "v") {
		wantHas(t, "no room", full, flag, false)
		wantHas(t, "room", full[2:], flag, flag != "v")
	}
	wantHas(t, "no room for one of the system", append(upper(letters(20)), `\Seen`), `\Seen`, false)
	wantHas(t, "room for one of the system", append(upper(letters(19)), `\Seen`), `\seen`, true)
}

func TestChange(t *testing.T) {
	l, more := flags("c", "a", `\seen`, "1"), flags("b", `\SEEN`, "a", "nil", `\draft`)
	wantChange(t, "these", l, 0, more, `\Draft`, `\Seen`, "a", "b")
	wantChange(t, "these more", l, 1, more, `\Draft`, `\Seen`, "a", "b", "c")
	wantChange(t, "these not", l, 2, more, "c")
	for _, mode := range []int{-1, -2, 3, 4, 256, 257, 258, 1 << 32, 1<<32 + 1, 1<<32 + 2, math.MinInt, math.MinInt + 2, math.MaxInt} {
		wantChange(t, "another mode", l, mode, more, `\Seen`, "a", "c")
	}
	wantChange(t, "none", l, 0, nil)
	wantChange(t, "none more", l, 1, nil, `\Seen`, "a", "c")
	wantChange(t, "none not", l, 2, nil, `\Seen`, "a", "c")
	for mode := -1; mode <= 3; mode++ {
		wantChange(t, "of nothing", nil, mode, nil)
		wantChange(t, "of what is passed over", flags("1", `\x`), mode, flags("", "nil"))
	}
	wantChange(t, "such as are not there", l, 2, flags("b", "A", "C", `\Draft`, "Seen", "1", "", `\x`), `\Seen`, "a", "c")
	wantChange(t, "all of them", l, 2, flags("a", `\SEEN`, "c"))
	wantChange(t, "of none", nil, 2, flags("a"))
	wantChange(t, "in other letters", flags("a", "B", `\Flagged`), 2, flags("A", "b", `\fLAGGED`), "B", "a")
}

func TestChangeOfMany(t *testing.T) {
	all := letters(26)
	wantChange(t, "too many", flags("!"), 0, all, all[:20]...)
	wantChange(t, "too many together", all[10:], 1, all[:12], all[:20]...)
	wantChange(t, "room for one more", all[1:20], 1, all[:1], all[:20]...)
	wantChange(t, "no room for one more", all[:20], 1, flags("z"), all[:20]...)
	wantChange(t, "one that comes first", all[:20], 1, flags("!"), append(flags("!"), all[:19]...)...)
	wantChange(t, "many both", all, 1, append(flags("!"), all...), append(flags("!"), all[:19]...)...)
	wantChange(t, "what had no room stays out", all, 2, all[:10], all[10:20]...)
	wantChange(t, "more than are kept are taken", flags("y", "z", "~"), 2, all, "~")
	wantChange(t, "all are taken", all[6:], 2, all)
	wantChange(t, "another mode", all, 3, nil, all[:20]...)
}

// All texts of such signs, as flags alone and together.
func TestShortFlags(t *testing.T) {
	eachText(flags("N", "i", "l", "1", `\`, "-", "(", "\x7f"), 4, func(flag string) {
		if kept := slowFlags(flags(flag)); len(kept) == 1 {
			wantKept(t, "short", flag, kept[0])
		} else {
			wantPassed(t, "short", flag)
		}
	})
}

// someFlags are such as are kept, as they are and in other letters, and such as are passed over.
var someFlags = slices.Concat(letters(26), system, flags("A", "B", "C", `\SEEN`, `\seen`, `\dRAFT`, "", "1", "nil", `\x`, "é", "(", times("x", 30), times("x", 31), "!", "~"))

func TestFlagsByChance(t *testing.T) {
	r := rand.New(rand.NewSource(161))
	for range 20000 {
		most := one(r, 2, 8, 20, 40, 80)
		l, more, mode := some(r, most, someFlags...), some(r, most, someFlags...), r.Intn(5)-1
		wantFlags(t, "by chance", l, slowFlags(l)...)
		wantChange(t, "by chance", l, mode, more, slowChange(l, mode, more)...)
		flag := one(r, someFlags...)
		wantHas(t, "by chance", l, flag, slowHas(l, flag))
	}
}

// Of many flags the first ones are kept, whatever the others are.
func TestVeryManyFlags(t *testing.T) {
	var l []string
	for i := range 300000 {
		l = append(l, "x"+string(rune('a'+i%26))+string(rune('a'+i/26%26))+string(rune('a'+i/676%26)))
	}
	if got := search.Flags(l...); len(got) != 20 || got[0] != "xaaa" || got[19] != "xaat" {
		t.Fatalf("of many flags %s are kept", tell(got))
	}
	if got := search.Change(l, 2, l...); len(got) != 0 {
		t.Fatalf("without all of them there are %s", tell(got))
	}
	if got := search.Change(l[:1], 2, l[1:26]...); !slices.Equal(got, flags("xaaa")) {
		t.Fatalf("without others there are %s", tell(got))
	}
}
