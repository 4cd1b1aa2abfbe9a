package search_test

import (
	"math/rand"
	"testing"
)

// P16.2.

func TestContains(t *testing.T) {
	for _, s := range []string{"Hello", "hello", "HELLO", "say Hello", "Hello there", "hehello", "hhhello", "helhello", "\xffHello\x00"} {
		for _, part := range []string{"", "h", "H", "hello", "HELLO", "hElLo", "ell", "LO", "o"} {
			wantContains(t, s, part, true)
		}
		for _, part := range []string{"hello!", "hella", "ello there you", "x", "\thello", "olleh", "he llo", "h\x00"} {
			wantContains(t, s, part, false)
		}
	}
}

func TestContainsAtTheEdges(t *testing.T) {
	for _, s := range []string{"", "a", "A", "ab", "é", "\xff", "\x00", " ", "\r\n", "a\r\nb"} {
		wantContains(t, s, "", true)
		wantContains(t, s, s, true)
		wantContains(t, s, s+"x", false)
		wantContains(t, s, "x"+s, false)
		wantContains(t, s+"x", s, true)
		wantContains(t, "x"+s, s, true)
		wantContains(t, "x"+s+"x", s, true)
		wantContains(t, "", s, s == "")
	}
}

// What stands there may begin ahead of it, more than once.
func TestContainsBegunAhead(t *testing.T) {
	wantContains(t, "aaab", "AAB", true)
	wantContains(t, "aabaabaac", "aabaac", true)
	wantContains(t, "ABABABC", "ababc", true)
	wantContains(t, "ababab", "ababc", false)
	wantContains(t, times("a", 1000)+"b", times("A", 500)+"B", true)
	wantContains(t, times("a", 1000)+"b", times("A", 1001)+"B", false)
	wantContains(t, times("ab", 500), times("ba", 499)+"a", false)
	wantContains(t, times("ab", 500), times("BA", 499)+"B", true)
}

// Only A to Z have small letters: no other two bytes, nor letters of several bytes, are alike.
func TestContainsEachByte(t *testing.T) {
	for a := range 256 {
		for b := range 256 {
			alike := a == b || a|0x20 == b|0x20 && a|0x20 >= 'a' && a|0x20 <= 'z'
			wantContains(t, string([]byte{byte(a)})+"yz", string([]byte{byte(b)})+"YZ", alike)
		}
	}
	wantContains(t, "É", "é", false)
	wantContains(t, "é", "\xa9", true)
	wantContains(t, "é", "é", true)
	wantContains(t, "\u212a", "k", false)
	wantContains(t, "k", "\u212a", false)
	wantContains(t, "ſ", "s", false)
	wantContains(t, "S", "ſ", false)
	wantContains(t, "\u0130", "i", false)
	wantContains(t, "\xff", "\xfe", false)
	wantContains(t, "\xff", "\ufffd", false)
	wantContains(t, "ß", "ss", false)
}

func TestShortTexts(t *testing.T) {
	signs := []string{"a", "A", "b", "[", "{"}
	eachText(signs, 4, func(s string) {
		eachText(signs, 3, func(part string) { wantContains(t, s, part, slowContains(s, part)) })
	})
}

func TestContainsByChance(t *testing.T) {
	r := rand.New(rand.NewSource(162))
	for range 30000 {
		s, part := chance(r, 30, "a", "A", "b", "é", "\r\n"), chance(r, 4, "a", "A", "b", "B", "é", "\r\n")
		wantContains(t, s, part, slowContains(s, part))
		wantContains(t, s+part+s, part, true)
	}
}
