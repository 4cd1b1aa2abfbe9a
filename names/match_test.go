package names_test

import (
	"math/rand"
	"strings"
	"testing"

	"haversack/names"
)

// slowMatch tries all that a sign may stand for, one after another.
func slowMatch(pattern, name string) bool {
	if pattern == "" {
		return name == ""
	}
	sign, rest := pattern[0], pattern[1:]
	if sign != '*' && sign != '%' {
		return name != "" && name[0] == sign && slowMatch(rest, name[1:])
	}
	for i := 0; i <= len(name); i++ {
		if sign == '%' && strings.Contains(name[:i], "/") {
			return false
		}
		if slowMatch(rest, name[i:]) {
			return true
		}
	}
	return false
}

// P7.3

func TestMatch(t *testing.T) {
	for _, c := range []struct {
		pattern, name string
		wanted        bool
	}{
		{"a%", "ab/c", false}, {"a*", "ab/c", true},
		{"", "", true}, {"", "a", false}, {"", "/", false},
		{"a", "a", true}, {"a", "", false}, {"a", "b", false}, {"a", "A", false}, {"a", "aa", false}, {"aa", "a", false}, {"a/b", "a/b", true}, {"a/b", "a/c", false}, {"INBOX", "inbox", false},
		{"*", "", true}, {"*", "a", true}, {"*", "a/b", true}, {"*", "/", true}, {"*", "//", true}, {"**", "", true}, {"**", "a/b", true}, {"***", "a", true},
		{"%", "", true}, {"%", "a", true}, {"%", "ab", true}, {"%", "a/b", false}, {"%", "/", false}, {"%%", "ab", true}, {"%%", "a/b", false}, {"%%%", "", true},
		{"*%", "a/b", true}, {"%*", "a/b", true}, {"%*%", "/", true}, {"*%*", "", true},
		{"%/%", "a/b", true}, {"%/%", "/", true}, {"%/%", "a", false}, {"%/%", "a/b/c", false}, {"%/*", "a/b/c", true}, {"*/%", "a/b/c", true}, {"*/%", "abc", false},
		{"a%b", "ab", true}, {"a%b", "axb", true}, {"a%b", "axbxb", true}, {"a%b", "a/b", false}, {"a%b", "axbx", false}, {"a*b", "a/b", true}, {"a*b", "ab/xb", true}, {"a*b", "ab/x", false},
		{"*a", "a", true}, {"*a", "ba", true}, {"*a", "ab", false}, {"*a", "b/a", true}, {"%a", "b/a", false}, {"%a", "aaa", true}, {"%a%", "bab", true}, {"%a%", "b/ab", false},
		{"*a%b", "a/ab", true}, {"*a%b%c", "ab/abc", true}, {"*a%b%c", "ab/ab/c", false}, {"*a%b*c", "ab/ab/c", true}, {"a*b%c*d", "abxc/d", true}, {"a*b%c*d", "ab/cd", false}, {"a*b%c*d", "ab/bcd", true},
		{"*ab", "aab", true}, {"*aab", "aaab", true}, {"%aab%", "aaaab", true}, {"*aba", "ababa", true}, {"*abab*c", "abaabab/c", true},
		{"*", "\xff\x00", true}, {"%", "\xff\x00", true}, {"*\xa9", "é", true}, {"\xc3%", "é", true}, {"é", "é", true}, {"é", "e", false}, {"?", "a", false}, {"?", "?", true}, {"[a]", "a", false}, {"\\*", "*", false}, {"\\*", "\\x", true}, {".", "a", false},
		{"a", "*", false}, {"*", "*", true}, {"%", "%", true}, {"*", "%", true}, {"%", "*", true}, {"*a", "*", false},
		{"/%", "/a", true}, {"/%", "a", false}, {"%/", "a/", true}, {"%/", "a", false},
	} {
		if got := names.Match(c.pattern, c.name); got != c.wanted {
			t.Fatalf("Match(%q, %q) = %v", c.pattern, c.name, got)
		}
	}
}

// each calls a function with each text of these signs that is not longer.
func each(signs string, most int, do func(s string)) {
	var more func(s string)
	more = func(s string) {
		do(s)
		if len(s) == most {
			return
		}
		for i := range len(signs) {
			more(s + signs[i:i+1])
		}
	}
	more("")
}

func TestMatchOfEachShortOne(t *testing.T) {
	each("ab/*%", 5, func(pattern string) {
		each("ab/", 4, func(name string) {
			if got := names.Match(pattern, name); got != slowMatch(pattern, name) {
				t.Fatalf("Match(%q, %q) = %v", pattern, name, got)
			}
		})
	})
}

// Many ways to match are not tried one by one.
func TestMatchOfManyWays(t *testing.T) {
	many := strings.Repeat("a", 2000)
	for _, c := range []struct {
		pattern, name string
		wanted        bool
	}{
		{strings.Repeat("*a", 500), many, true},
		{strings.Repeat("*a", 500) + "b", many, false},
		{strings.Repeat("%a", 500) + "*b", many, false},
		{strings.Repeat("*", 2000), many, true},
		{strings.Repeat("%", 2000) + "/", many, false},
		{strings.Repeat("*%", 1000) + "b", many, false},
		{many, many, true},
		{many + "a", many, false},
	} {
		if got := names.Match(c.pattern, c.name); got != c.wanted {
			t.Fatalf("Match of %.8q.. is %v", c.pattern, got)
		}
	}
}

// P7.6

func TestMatchFollows(t *testing.T) {
	r := rand.New(rand.NewSource(7))
	found := 0
	for range 60000 {
		a, b := nameOf(r, "ab/", 4), nameOf(r, "ab/", 4)
		p, q := nameOf(r, "ab/**%%", 4), nameOf(r, "ab/**%%", 4)
		if !names.Match(a, a) || names.Match(a, b) != (a == b) {
			t.Fatalf("%q as a pattern matches more than itself, or less: %q", a, b)
		}
		if names.Match(p, a) && names.Match(q, b) {
			found++
			if !names.Match(p+q, a+b) {
				t.Fatalf("%q matches %q and %q matches %q, but %q not %q", p, a, q, b, p+q, a+b)
			}
		}
		if !names.Match("*", a) || names.Match("%", a) == strings.Contains(a, "/") {
			t.Fatalf("* or %% at %q", a)
		}
	}
	if found < 1000 {
		t.Fatalf("just %d pairs matched", found)
	}
}
