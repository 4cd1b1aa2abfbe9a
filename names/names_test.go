package names_test

import (
	"math/rand"
	"slices"
	"strings"
	"testing"

	"haversack/api"
	"haversack/names"
)

// P7.2

func TestRight(t *testing.T) {
	forty := strings.Repeat("a", api.MaxName)
	eight := "a/b/c/d/e/f/g/h"
	for _, name := range []string{
		"a", "INBOX", "inbox", "a/b", eight, forty, forty[2:] + "/b", " ", "~", "!", "a b", "&", "&-", "-", "+", ",", "\\", "\"", "(", ")", "{", "[", "]", "#", ".", "..", "'", "&AOk-",
		"é", "\u0080", "\u009f", "\u00a0", "\uffff", "\ufffd", "\U0001F600", "\U0010FFFF", strings.Repeat("é", 20), strings.Repeat("\U0001F600", 10), "é/é",
	} {
		if !names.Right(name) {
			t.Fatalf("Right(%q) is false", name)
		}
	}
	for _, c := range []struct{ why, name string }{
		{"the empty one", ""},
		{"one byte too many", forty + "a"},
		{"one byte too many, though fewer letters", strings.Repeat("é", 20) + "a"},
		{"one byte too many, though fewer letters", strings.Repeat("\U0001F600", 10) + "a"},
		{"far too many", strings.Repeat(forty, 1000)},
		{"one part too many", eight + "/i"},
		{"many parts", strings.Repeat("a/", 19) + "a"},
		{"an empty part", "/"},
		{"empty parts", "//"},
		{"an empty part at its beginning", "/a"},
		{"an empty part in its middle", "a//b"},
		{"an empty part at its end", "a/"},
		{"eight parts, one of them empty", "a/b/c/d/e/f/g/"},
		{"a *", "*"}, {"a *", "a*b"}, {"a *", "a/b*"},
		{"a %", "%"}, {"a %", "%a"}, {"a %", "a/%/b"},
		{"a letter below the space", "\x1f"}, {"a letter below the space", "a\x00"}, {"a letter below the space", "a\tb"}, {"a letter below the space", "a\r\n"},
		{"the letter 127", "\x7f"}, {"the letter 127", "a/b\x7f"},
		{"no text", "\xff"}, {"no text", "a\xc3"}, {"no text", "\xed\xa0\x80"}, {"no text", "a/\x80/b"}, {"no text", "\xc0\xaf"},
	} {
		if names.Right(c.name) {
			t.Fatalf("%s: Right(%q) is true", c.why, c.name)
		}
	}
}

// Each letter of one byte or two, and the ends of the others.
func TestRightOfEachLetter(t *testing.T) {
	for r := rune(0); r < 0x800; r++ {
		wanted := r >= 0x20 && r != 0x7F && r != '*' && r != '%'
		if got := names.Right("a" + string(r) + "b"); got != wanted {
			t.Fatalf("Right with the letter %U is %v", r, got)
		}
	}
	for b := range 256 {
		if names.Right("é"+string([]byte{byte(b)})+"é") != (b >= 0x20 && b < 0x7F && b != '*' && b != '%') {
			t.Fatalf("Right with the byte %d", b)
		}
	}
}

func TestNorm(t *testing.T) {
	for _, c := range []struct{ name, wanted string }{
		{"inBox/a", "INBOX/a"},
		{"INBOX", "INBOX"}, {"inbox", "INBOX"}, {"Inbox", "INBOX"}, {"iNbOx", "INBOX"},
		{"inbox/inbox", "INBOX/inbox"}, {"inbox/", "INBOX/"}, {"inbox//a", "INBOX//a"}, {"inbox/Ab/c", "INBOX/Ab/c"}, {"inbox/\xff", "INBOX/\xff"},
		{"a/inbox", "a/inbox"}, {"/inbox", "/inbox"}, {"inboxes", "inboxes"}, {"inboxes/a", "inboxes/a"}, {"inbo", "inbo"}, {"inbo/x", "inbo/x"}, {"nbox", "nbox"},
		{"", ""}, {"/", "/"}, {"a", "a"}, {"in box", "in box"}, {" inbox", " inbox"}, {"inbox ", "inbox "}, {"inb\xf6x", "inb\xf6x"},
		{"\u0130nbox", "\u0130nbox"}, {"\u0131nbox", "\u0131nbox"}, {"ınbo", "ınbo"}, {"inbox\x00", "inbox\x00"}, {"inbox\\a", "inbox\\a"},
		{"\x49\x2e\x42\x4f\x58", "I.BOX"}, {"inb\x0fx", "inb\x0fx"}, {"inbo8", "inbo8"}, {"inboX*", "inboX*"},
	} {
		if got := names.Norm(c.name); got != c.wanted {
			t.Fatalf("Norm(%q) = %q; want %q", c.name, got, c.wanted)
		}
	}
}

// Whatever byte stands in it: INBOX has just its letters, small and big.
func TestNormOfEachByte(t *testing.T) {
	for at := range 5 {
		for b := range 256 {
			name := []byte("inbox/x")
			name[at] = byte(b)
			wanted := string(name)
			if b == int("inbox"[at]) || b == int("INBOX"[at]) {
				wanted = "INBOX/x"
			}
			if b == '/' {
				wanted = string(name)
			}
			if got := names.Norm(string(name)); got != wanted {
				t.Fatalf("Norm(%q) = %q; want %q", name, got, wanted)
			}
		}
	}
}

func TestPartsAndJoin(t *testing.T) {
	for _, c := range []struct {
		name  string
		parts []string
	}{
		{"", []string{""}},
		{"a", []string{"a"}},
		{"a/b", []string{"a", "b"}},
		{"a/b/c", []string{"a", "b", "c"}},
		{"/", []string{"", ""}},
		{"//", []string{"", "", ""}},
		{"/a", []string{"", "a"}},
		{"a/", []string{"a", ""}},
		{"a//b", []string{"a", "", "b"}},
		{"é/\xff/*", []string{"é", "\xff", "*"}},
		{"b/a/b", []string{"b", "a", "b"}},
		{"a\\b.c", []string{"a\\b.c"}},
	} {
		if got := names.Parts(c.name); !slices.Equal(got, c.parts) {
			t.Fatalf("Parts(%q) = %q; want %q", c.name, got, c.parts)
		}
		if got := names.Join(c.parts...); got != c.name {
			t.Fatalf("Join(%q) = %q; want %q", c.parts, got, c.name)
		}
	}
	if names.Join() != "" || names.Join([]string{}...) != "" {
		t.Fatal("Join of no parts is not empty")
	}
	if got := names.Join("a/b", "c/d", ""); got != "a/b/c/d/" {
		t.Fatalf("Join of names = %q", got)
	}
}

func TestUp(t *testing.T) {
	for _, c := range []struct {
		name string
		up   []string
	}{
		{"", nil}, {"a", nil}, {"INBOX", nil}, {"a.b", nil},
		{"a/b", []string{"a"}},
		{"a/b/c", []string{"a", "a/b"}},
		{"a/b/c/d", []string{"a", "a/b", "a/b/c"}},
		{"a/", []string{"a"}},
		{"/a", []string{""}},
		{"/", []string{""}},
		{"//", []string{"", "/"}},
		{"a//b", []string{"a", "a/"}},
		{"é/\xff/b", []string{"é", "é/\xff"}},
	} {
		if got := names.Up(c.name); !slices.Equal(got, c.up) {
			t.Fatalf("Up(%q) = %q; want %q", c.name, got, c.up)
		}
	}
}

func TestUnder(t *testing.T) {
	for _, c := range []struct {
		name, above string
		wanted      bool
	}{
		{"a/b", "a", true}, {"a/b/c", "a", true}, {"a/b/c", "a/b", true}, {"a/", "a", true}, {"a//b", "a", true}, {"a//b", "a/", true},
		{"/a", "", true}, {"/", "", true}, {"//", "/", true}, {"é/b", "é", true},
		{"a", "a", false}, {"a/b", "a/b", false}, {"a", "a/b", false}, {"ab", "a", false}, {"ab/c", "a", false}, {"a/bc", "a/b", false},
		{"a/b", "b", false}, {"a/b", "A", false}, {"a/b", "a/", false}, {"a", "", false}, {"", "", false}, {"", "a", false}, {"a/b", "", false},
		{"b/a/c", "a", false}, {"inbox/a", "INBOX", false}, {"a.b", "a", false},
	} {
		if got := names.Under(c.name, c.above); got != c.wanted {
			t.Fatalf("Under(%q, %q) = %v", c.name, c.above, got)
		}
	}
}

func TestMoved(t *testing.T) {
	for _, c := range []struct {
		name, from, to string
		wanted         string
		is             bool
	}{
		{"a/b", "a", "x", "x/b", true},
		{"a", "a", "x", "x", true},
		{"a/b/c", "a", "x", "x/b/c", true},
		{"a/b/c", "a/b", "x", "x/c", true},
		{"a/b", "a/b", "x/y", "x/y", true},
		{"a/b", "a", "x/y", "x/y/b", true},
		{"a/a", "a", "b", "b/a", true},
		{"a/b", "a", "a", "a/b", true},
		{"a/b", "a", "a/b", "a/b/b", true},
		{"a/b", "a", "", "/b", true},
		{"a", "a", "", "", true},
		{"a/", "a", "x", "x/", true},
		{"", "", "x", "x", true},
		{"", "", "", "", true},
		{"/a", "", "x", "x/a", true},
		{"/", "", "x", "x/", true},
		{"a", "", "x", "a", false},
		{"a/b", "", "x", "a/b", false},
		{"", "a", "x", "", false},
		{"ab", "a", "x", "ab", false},
		{"ab/c", "a", "x", "ab/c", false},
		{"a", "a/b", "x", "a", false},
		{"b", "a", "x", "b", false},
		{"b/a", "a", "x", "b/a", false},
		{"A/b", "a", "x", "A/b", false},
		{"a/b", "a/", "x", "a/b", false},
		{"x", "a", "x", "x", false},
		{"\xff/b", "\xff", "é", "é/b", true},
	} {
		if got, is := names.Moved(c.name, c.from, c.to); got != c.wanted || is != c.is {
			t.Fatalf("Moved(%q, %q, %q) = %q, %v; want %q, %v", c.name, c.from, c.to, got, is, c.wanted, c.is)
		}
	}
}

// nameOf is a name of few letters, so that it often has something to do with another one.
func nameOf(r *rand.Rand, signs string, most int) string {
	b := make([]byte, r.Intn(most+1))
	for i := range b {
		b[i] = signs[r.Intn(len(signs))]
	}
	return string(b)
}

// P7.5

func TestPartsFollow(t *testing.T) {
	r := rand.New(rand.NewSource(5))
	for range 20000 {
		a, b := nameOf(r, "ab/\xc3", 8), nameOf(r, "ab/\xc3", 8)
		if got := names.Join(names.Parts(a)...); got != a {
			t.Fatalf("Join of the Parts of %q = %q", a, got)
		}
		both := append(names.Parts(a), names.Parts(b)...)
		if got := names.Parts(names.Join(a, b)); !slices.Equal(got, both) {
			t.Fatalf("Parts of %q and %q joined = %q", a, b, got)
		}
	}
}

// Up, Under and Moved say the same of names, each in its way.
func TestWhatIsUnderFollows(t *testing.T) {
	r := rand.New(rand.NewSource(6))
	for range 20000 {
		name, other, to := nameOf(r, "ab/", 7), nameOf(r, "ab/", 4), nameOf(r, "xy/", 4)
		under := names.Under(name, other)
		if under != slices.Contains(names.Up(name), other) {
			t.Fatalf("Under(%q, %q) = %v, but Up = %q", name, other, under, names.Up(name))
		}
		for i, up := range names.Up(name) {
			if !names.Under(name, up) || names.Join(names.Parts(name)[:i+1]...) != up {
				t.Fatalf("Up(%q) = %q", name, names.Up(name))
			}
		}
		moved, is := names.Moved(name, other, to)
		if is != (under || name == other) || is && moved != to+strings.TrimPrefix(name, other) || !is && moved != name {
			t.Fatalf("Moved(%q, %q, %q) = %q, %v", name, other, to, moved, is)
		}
		if back, _ := names.Moved(moved, to, other); is && back != name {
			t.Fatalf("%q moved from %q to %q and back is %q", name, other, to, back)
		}
	}
}

// What is handed in stays as it was, and what is handed out is the caller's own.
func TestNothingIsShared(t *testing.T) {
	parts := make([]string, 3, 8)
	copy(parts, []string{"a", "inbox", "c"})
	all := parts[:8]
	if names.Join(parts...) != "a/inbox/c" {
		t.Fatal("Join")
	}
	if !slices.Equal(all, []string{"a", "inbox", "c", "", "", "", "", ""}) {
		t.Fatalf("Join has changed its parts: %q", all)
	}
	for _, f := range []func(string) []string{names.Parts, names.Up} {
		first := f("a/b/c")
		was := slices.Clone(first)
		second := f("a/b/c")
		for i := range first {
			first[i] = "z"
		}
		_ = append(first[:1], "y")
		if !slices.Equal(second, was) || !slices.Equal(f("a/b/c"), was) {
			t.Fatal("two answers share their members")
		}
	}
}

// P1: whatever the bytes are, every call ends, and with an error there is nothing else.
func TestAnyBytes(t *testing.T) {
	r := rand.New(rand.NewSource(1))
	for range 50000 {
		a, b, c := nameOf(r, "&-Aa,/*%\x00\x7f\x80\xc3\xa9\xed\xf0\x9f\xff", 9), nameOf(r, "&-A/*%\xc3\xa9", 5), nameOf(r, "a/\xff", 3)
		if s, e := names.Encode(a); e != api.OK && (e != api.ErrForm || s != "") {
			t.Fatalf("Encode(%q) = %q, %v", a, s, e)
		}
		if s, e := names.Decode(a); e != api.OK && (e != api.ErrForm || s != "") {
			t.Fatalf("Decode(%q) = %q, %v", a, s, e)
		}
		names.Right(a)
		names.Norm(a)
		names.Join(a, b, c)
		names.Parts(a)
		names.Up(a)
		names.Under(a, b)
		names.Moved(a, b, c)
		names.Match(b, a)
	}
}
