package header_test

import (
	"math/rand"
	"slices"
	"strings"
	"testing"

	"haversack/api"
	"haversack/header"
)

// P10.1

func TestCut(t *testing.T) {
	for _, c := range []struct{ why, head, content string }{
		{"nothing", "", ""},
		{"the chapter's example", "A: b\r\n\r\n", "c"},
		{"ends with 10 alone", "A: b\n\n", "c"},
		{"an end with 13, then one without", "A: b\r\n\n", "c"},
		{"an end without 13, then one with", "A: b\n\r\n", "c"},
		{"an empty line at the beginning", "\r\n", "A: b\r\n"},
		{"an empty line at the beginning", "\n", "A: b\n"},
		{"an empty line alone", "\r\n", ""},
		{"an empty line alone", "\n", ""},
		{"two empty lines", "\n", "\n"},
		{"two empty lines", "\r\n", "\r\n"},
		{"two empty lines", "\n", "\r\n"},
		{"two empty lines in the middle", "A: b\r\n\r\n", "\r\nc"},
		{"two empty lines, apart", "A: b\r\n\r\n", "c\r\n\r\nd"},
		{"an empty line at the end", "A: b\r\n\r\n", ""},
		{"an empty line at the end", "A: b\n\n", ""},
		{"an empty line behind lines of no field", "a\n:\n\n", "c"},
		{"none", "A: b", ""},
		{"none, with an end", "A: b\r\n", ""},
		{"none, with an end", "A: b\n", ""},
		{"none, with lines of no field", "a\nb\nc", ""},
		{"a 13 at the end", "A: b\r\n\r", ""},
		{"a 13 alone", "\r", ""},
		{"a 13 that stands alone", "A: b\r\n\rA: c\r\n", ""},
		{"a 13 twice ahead of a 10", "A: b\r\n\r\r\nc", ""},
		{"a 13 twice ahead of a 10, then an empty line", "A: b\n\r\r\n\r\n", "c"},
		{"a 13 twice ahead of a 10, at the beginning", "\r\r\n\n", "c"},
		{"ends with 13 alone", "A: b\r\rc", ""},
		{"ends with 10 13", "A: b\n\r\n", "\rc"},
		{"a line with a blank", "A: b\n \nc", ""},
		{"a line with a byte 9", "A: b\r\n\t\r\nc", ""},
		{"a line with a blank, and an empty line", "A: b\r\n \r\n\r\n", "c"},
		{"a line with a byte 0", "A: b\n\x00\nc", ""},
	} {
		t.Log(c.why)
		wantCut(t, c.head+c.content, c.head, c.content)
	}
}

func TestFields(t *testing.T) {
	f := func(name, value string) api.Field { return api.Field{Name: name, Value: value} }
	for _, c := range []struct {
		why, s string
		wanted []api.Field
	}{
		{"nothing", "", nil},
		{"the chapter's example", "A: b\r\n\r\n", []api.Field{f("A", " b")}},
		{"an end with 10 alone", "A: b\n", []api.Field{f("A", " b")}},
		{"no end", "A: b", []api.Field{f("A", " b")}},
		{"a 13 at the end", "A: b\r", []api.Field{f("A", " b\r")}},
		{"a 13 twice ahead of a 10", "A: b\r\r\n", []api.Field{f("A", " b\r")}},
		{"a 13 that stands alone", "A: b\rC: d\r\n", []api.Field{f("A", " b\rC: d")}},
		{"10 13", "A: b\n\rC: d\n", []api.Field{f("A", " b")}},
		{"two fields", "A: b\r\nC: d\r\n", []api.Field{f("A", " b"), f("C", " d")}},
		{"two fields, one as the other", "A:b\nA:b\n", []api.Field{f("A", "b"), f("A", "b")}},
		{"a value without bytes", "A:\r\nB:\nC:", []api.Field{f("A", ""), f("B", ""), f("C", "")}},
		{"a value of a 13", "A:\r", []api.Field{f("A", "\r")}},
		{"a value of two 13", "A:\r\r\n", []api.Field{f("A", "\r")}},
		{"several colons", "A:b:c\n::\nD::\n", []api.Field{f("A", "b:c"), f("D", ":")}},
		{"no colon", "A\nB: c\nD", []api.Field{f("B", " c")}},
		{"nothing ahead of the colon", ":\n: a\nB: c\n", []api.Field{f("B", " c")}},
		{"a blank ahead of the colon", "A : b\nC D: e\nF: g\n", []api.Field{f("F", " g")}},
		{"a byte 9 ahead of the colon", "A\t: b\nC\tD: e\n", nil},
		{"a byte below 33 ahead of the colon", "A\x00: b\nC\x1fD: e\n\x7fA: b\n", nil},
		{"a byte above 126 ahead of the colon", "A\x7f: b\nC\xe9: e\n\xff: b\né: b\n", nil},
		{"a 13 ahead of the colon", "A\r: b\n\r: c\n", nil},
		{"the first and the last byte that a name may have", "!: a\n~: b\n!~\":c", []api.Field{f("!", " a"), f("~", " b"), f("!~\"", "c")}},
		{"any bytes behind the colon", "A: \x00\xff\t é :\n", []api.Field{f("A", " \x00\xff\t é :")}},
		{"a line that goes on", "A: b\r\n c\r\n", []api.Field{f("A", " b\r\n c")}},
		{"a line that goes on by a byte 9", "A: b\n\tc\n", []api.Field{f("A", " b\n\tc")}},
		{"lines that go on", "A: b\r\n c\n\td\r\r\n  e", []api.Field{f("A", " b\r\n c\n\td\r\r\n  e")}},
		{"lines that go on, of two fields", "A:\n b\nC:\n d\n", []api.Field{f("A", "\n b"), f("C", "\n d")}},
		{"a line that goes on by a blank alone", "A: b\r\n \r\n", []api.Field{f("A", " b\r\n ")}},
		{"a line that goes on by a blank alone, and another", "A: b\n \n\t\n c\n", []api.Field{f("A", " b\n \n\t\n c")}},
		{"a line that goes on at the end", "A: b\n ", []api.Field{f("A", " b\n ")}},
		{"a line that goes on, a 13 behind it", "A: b\n c\r", []api.Field{f("A", " b\n c\r")}},
		{"a line that goes on like a field", "A: b\n C: d\n", []api.Field{f("A", " b\n C: d")}},
		{"a line that goes on a line of no field", "a\n b\nC: d\n", []api.Field{f("C", " d")}},
		{"a line that goes on a line of no field, like a field", "a\n B: c\nD: e\n", []api.Field{f("D", " e")}},
		{"a line that goes on a line of no field, behind a field", "A: b\nc\n d\nE: f\n", []api.Field{f("A", " b"), f("E", " f")}},
		{"a line that goes on nothing", " a\n B: c\nD: e\n", []api.Field{f("D", " e")}},
		{"a line that goes on behind an empty line", "A: b\r\n\r\n c\r\n", []api.Field{f("A", " b")}},
		{"a line that goes on behind an empty line", "A: b\n\n\tc\nD: e\n f\n", []api.Field{f("A", " b"), f("D", " e\n f")}},
		{"a line that goes on behind an empty line at the beginning", "\n c\nD: e\n", []api.Field{f("D", " e")}},
		{"a line of two 13 and a 10", "A: b\n\r\r\n c\n", []api.Field{f("A", " b")}},
		{"fields behind an empty line", "A: b\r\n\r\nC: d\r\n", []api.Field{f("A", " b"), f("C", " d")}},
		{"an empty line at the beginning", "\r\nC: d\r\n", []api.Field{f("C", " d")}},
	} {
		t.Log(c.why)
		wantFields(t, c.s, c.wanted...)
	}
}

// Each byte at the beginning of a name, within it, at its end, and at the beginning of a line that may go on.
func TestEachByteOfAName(t *testing.T) {
	for n := range 256 {
		b := string([]byte{byte(n)})
		if n == ':' || n == '\n' {
			continue
		}
		for _, name := range []string{b, b + "A", "A" + b, "A" + b + "B"} {
			s := name + ":c\n"
			if n >= 33 && n <= 126 {
				wantFields(t, s, api.Field{Name: name, Value: "c"})
				wantOnly(t, s, false, []string{name}, s+"\r\n")
			} else {
				wantFields(t, s)
				wantOnly(t, s, true, nil, "\r\n")
			}
		}
		s := "A: b\n" + b + "c\n"
		if n == ' ' || n == '\t' {
			wantFields(t, s, api.Field{Name: "A", Value: " b\n" + b + "c"})
		} else {
			wantFields(t, s, api.Field{Name: "A", Value: " b"})
		}
	}
}

// P10.2

func TestUnfold(t *testing.T) {
	for _, c := range []struct{ s, wanted string }{
		{"", ""},
		{"a", "a"},
		{" a", "a"},
		{"a ", "a"},
		{"\ta\t", "a"},
		{" \t a b \t ", "a b"},
		{"a  b\tc", "a  b\tc"},
		{"a\r\n b", "a b"},
		{"a\n\tb", "a\tb"},
		{"a\r\nb", "ab"},
		{"a\rb\nc", "abc"},
		{"\r\n a", "a"},
		{" \r\n a", "a"},
		{" \r \n\ta \n \r\t", "a"},
		{"\r\na\r\n", "a"},
		{"a \r\n", "a"},
		{"a\r\n ", "a"},
		{" ", ""},
		{"\t", ""},
		{"\r\n", ""},
		{" \r\n\t", ""},
		{"\n\n\r\r", ""},
		{"\x00a\x00", "\x00a\x00"},
		{"\va\f", "\va\f"},
		{"\u00a0a\u00a0", "\u00a0a\u00a0"},
		{" \xff \xfe ", "\xff \xfe"},
		{"\u0085é\u2028", "\u0085é\u2028"},
		{"\"a\r\n\"", "\"a\""},
	} {
		wantUnfold(t, c.s, c.wanted)
	}
	for n := range 256 {
		b := string([]byte{byte(n)})
		wanted := b + "a" + b + "c" + b
		switch n {
		case '\r', '\n':
			wanted = "ac"
		case ' ', '\t':
			wanted = "a" + b + "c"
		}
		wantUnfold(t, b+"a"+b+"c"+b, wanted)
	}
	eachText([]string{"a", " ", "\t", "\r", "\n", "\v"}, 6, func(s string) { wantUnfold(t, s, slowUnfold(s)) })
}

func TestGet(t *testing.T) {
	l := []api.Field{
		{Name: "To", Value: " a\r\n b "},
		{Name: "Cc", Value: "c"},
		{Name: "tO", Value: ""},
		{Name: "To ", Value: "d"},
		{Name: "", Value: "e"},
		{Name: "X-\xc3\x89", Value: "f"},
		{Name: "cc", Value: "\tg"},
		{Name: "[", Value: "h"},
		{Name: "T\no", Value: "i"},
		{Name: "To", Value: " a\r\n b "},
	}
	wantGet(t, l, nil)
	wantGet(t, l, []string{})
	wantGet(t, nil, nil)
	wantGet(t, nil, []string{"to"})
	wantGet(t, l, []string{"to"}, "a b", "", "a b")
	wantGet(t, l, []string{"TO"}, "a b", "", "a b")
	wantGet(t, l, []string{"To", "tO", "to"}, "a b", "", "a b")
	wantGet(t, l, []string{"cc", "to"}, "a b", "c", "", "g", "a b")
	wantGet(t, l, []string{"to", "CC"}, "a b", "c", "", "g", "a b")
	wantGet(t, l, []string{"to "}, "d")
	wantGet(t, l, []string{"T"})
	wantGet(t, l, []string{"Too"})
	wantGet(t, l, []string{"to:"})
	wantGet(t, l, []string{"subject"})
	wantGet(t, l, []string{""}, "e")
	wantGet(t, l, []string{"x-\xc3\x89"}, "f")
	wantGet(t, l, []string{"x-\xc3\xa9"})
	wantGet(t, l, []string{"{"})
	wantGet(t, l, []string{"t\nO"}, "i")
	wantGet(t, l, []string{"subject", "", "cc"}, "c", "e", "g")
}

// A to Z alone have other letters.
func TestEachLetterOfANameThatIsAsked(t *testing.T) {
	for a := range 256 {
		for b := range 256 {
			one, other := string([]byte{'X', byte(a)}), string([]byte{'x', byte(b)})
			same := a == b
			if low, high := min(a, b), max(a, b); low >= 'A' && low <= 'Z' && high == low+'a'-'A' {
				same = true
			}
			var wanted []string
			if same {
				wanted = []string{"v"}
			}
			wantGet(t, []api.Field{{Name: one, Value: "v"}}, []string{other}, wanted...)
		}
	}
	wantGet(t, []api.Field{{Name: "k", Value: "v"}}, []string{"\u212a"})
	wantGet(t, []api.Field{{Name: "\u212a", Value: "v"}}, []string{"k"})
	wantGet(t, []api.Field{{Name: "s", Value: "v"}}, []string{"\u017f"})
	wantOnly(t, "k: v\n", false, []string{"\u212a"}, "\r\n")
	wantOnly(t, "S: v\n", true, []string{"\u017f"}, "S: v\n\r\n")
}

func TestOnly(t *testing.T) {
	const s = "To: a\r\n b\r\nno field\r\n goes on\r\nCC : d\r\nCc:e\n\tf\n\r\n goes on\r\ntO:\r\r\nX: g\n:h\nCC: i\r\n \r\n\nto: j"
	const to, cc, to2, x, cc2, to3 = "To: a\r\n b\r\n", "Cc:e\n\tf\n", "tO:\r\r\n", "X: g\n", "CC: i\r\n \r\n", "to: j"
	for _, c := range []struct {
		not    bool
		names  []string
		wanted string
	}{
		{false, nil, ""},
		{true, nil, to + cc + to2 + x + cc2 + to3},
		{false, []string{"to"}, to + to2 + to3},
		{true, []string{"to"}, cc + x + cc2},
		{false, []string{"TO", "to", "To"}, to + to2 + to3},
		{true, []string{"TO", "to", "To"}, cc + x + cc2},
		{false, []string{"cc", "to"}, to + cc + to2 + cc2 + to3},
		{true, []string{"cc", "to"}, x},
		{false, []string{"x", "cC", "tO"}, to + cc + to2 + x + cc2 + to3},
		{true, []string{"x", "cC", "tO"}, ""},
		{false, []string{"subject"}, ""},
		{true, []string{"subject"}, to + cc + to2 + x + cc2 + to3},
		{false, []string{""}, ""},
		{true, []string{""}, to + cc + to2 + x + cc2 + to3},
		{false, []string{"CC "}, ""},
		{false, []string{"x", "x "}, x},
		{false, []string{"no field", "t"}, ""},
	} {
		wantOnly(t, s, c.not, c.names, c.wanted+"\r\n")
	}
	for _, not := range []bool{false, true} {
		wantOnly(t, "", not, nil, "\r\n")
		wantOnly(t, "", not, []string{"a"}, "\r\n")
		wantOnly(t, "\r\n", not, nil, "\r\n")
		wantOnly(t, "a\n b\n\n", not, []string{"a", ""}, "\r\n")
	}
	wantOnly(t, "A: b", false, []string{"a"}, "A: b\r\n")
	wantOnly(t, "A: b\r", false, []string{"a"}, "A: b\r\r\n")
	wantOnly(t, "A: b\n", false, []string{"a"}, "A: b\n\r\n")
	wantOnly(t, "A: b\r\n\r\n", false, []string{"a"}, "A: b\r\n\r\n")
	wantOnly(t, "A: b\r\n\r\nA: c\r\n", false, []string{"a"}, "A: b\r\nA: c\r\n\r\n")
}

// asSlow holds all that is told of a text by its lines against the slow readers, and against what follows: P10.5, P10.6.
func asSlow(t *testing.T, s string, names ...string) {
	t.Helper()
	head, content := slowCut(s)
	wantCut(t, s, head, content)
	if head+content != s {
		t.Fatalf("%q is cut into %q and %q", s, head, content)
	}
	fields := slowFields(s)
	wantFields(t, s, fields...)
	wantFields(t, head, slowFields(head)...)
	var values []string
	for _, f := range fields {
		if slowAmong(f.Name, names) {
			values = append(values, slowUnfold(f.Value))
		}
	}
	wantGet(t, fields, names, values...)
	wantOnly(t, s, false, names, slowOnly(s, false, names))
	wantOnly(t, s, true, names, slowOnly(s, true, names))
	all := ""
	for _, line := range slowLines(s) {
		if line.field > 0 {
			all += line.text
		}
	}
	wantOnly(t, s, true, nil, all+"\r\n")
	wantOnly(t, s, false, nil, "\r\n")
}

func TestEachShortText(t *testing.T) {
	with := 0
	eachText([]string{"A", ":", " ", "\t", "\r", "\n", "\x7f"}, 6, func(s string) {
		asSlow(t, s, "a")
		if len(header.Fields(s)) > 0 {
			with++
		}
	})
	if with < 4000 {
		t.Fatalf("just %d had fields", with)
	}
	eachText([]string{"A:", "b:", " c", "\r\n", "\n", "d"}, 6, func(s string) { asSlow(t, s, "B", "x") })
}

func TestNearTexts(t *testing.T) {
	for _, s := range []string{
		"A: b\r\n\r\nc",
		"To: a\r\n b\r\nno field\r\n c\r\n\r\n d\r\nCc:e\n\tf\n",
		"a\n\n B:\r\r\n \n!~: x\r",
	} {
		eachNear(s, func(near string) { asSlow(t, near, "TO", "a") })
	}
}

func TestTextsByChance(t *testing.T) {
	r := rand.New(rand.NewSource(10))
	for range 50000 {
		s := chance(r, 20, "From: a", "TO:", "to", "Subject: x y", ":", " ", "\t", "\r\n", "\r\n", "\n", "\r", "\r\n ", "\n\t", "\x00", "é", "c")
		asSlow(t, s, chance(r, 1, "To", "subject", "FROM"), chance(r, 1, "tO", "FroM", "c"))
	}
}

// P10.5: what Cut tells is the message, and its header is cut no further.
func TestCutOfTheHeader(t *testing.T) {
	eachText([]string{"A: b", "\r", "\n", " c", "\r\n"}, 7, func(s string) {
		head, content := header.Cut(s)
		if head+content != s {
			t.Fatalf("%q is cut into %q and %q", s, head, content)
		}
		wantCut(t, head, head, "")
		lines := strings.SplitAfter(head, "\n")
		for i, line := range lines {
			if (line == "\n" || line == "\r\n") && i < len(lines)-2 {
				t.Fatalf("%q is a header with an empty line within", head)
			}
		}
		if content != "" && !strings.HasSuffix("\n"+head, "\n\n") && !strings.HasSuffix("\n"+head, "\n\r\n") {
			t.Fatalf("%q is the header of %q", head, s)
		}
		wantFields(t, head, slowFields(head)...)
	})
}

// P10.6: each field's lines stand in one of the two, in order, so that both can be laid together again.
func TestOnlyAndNot(t *testing.T) {
	r := rand.New(rand.NewSource(6))
	for range 20000 {
		s := chance(r, 12, "A: b\r\n", "B: c\n", "a:\r\n d\r\n", "C:e\n\tf\n", "no\n", " on\n", "\r\n", "cc: g\n", "A")
		names := strings.Split(chance(r, 3, "a,", "B,", "c,", "A,", "x,"), ",")
		with := header.Only(s, false, names...)
		without := header.Only(s, true, names...)
		all := header.Only(s, true)
		if !strings.HasSuffix(with, "\r\n") || !strings.HasSuffix(without, "\r\n") {
			t.Fatalf("Only(%q, .., %q) = %q, %q", s, names, with, without)
		}
		if len(with)+len(without) != len(all)+2 {
			t.Fatalf("Only(%q, .., %q) = %q, %q; all: %q", s, names, with, without, all)
		}
		var both, wanted []api.Field
		both = append(header.Fields(with[:len(with)-2]), header.Fields(without[:len(without)-2])...)
		for _, not := range []bool{false, true} {
			for _, f := range slowFields(s) {
				if slowAmong(f.Name, names) != not {
					wanted = append(wanted, f)
				}
			}
		}
		if !slices.Equal(both, wanted) {
			t.Fatalf("Only(%q, .., %q) = %q, %q", s, names, with, without)
		}
	}
}

// What is handed in stays as it was, and what is handed out is the caller's own.
func TestListsAreTheirOwners(t *testing.T) {
	l := []api.Field{{Name: "A", Value: " b\r\n c "}, {Name: "FROM", Value: "d@e"}, {Name: "a", Value: "\tf"}}
	names := []string{"A", "From", "X"}
	wasFields, wasNames := slices.Clone(l), slices.Clone(names)
	for range 2 {
		values := header.Get(l, names...)
		if !slices.Equal(values, []string{"b c", "d@e", "f"}) {
			t.Fatalf("the values are %q", values)
		}
		values[0] = "changed"
		wantOnly(t, "A: b\nX: c\nY: d\n", false, names, "A: b\nX: c\n\r\n")
		e := header.Envelope(l)
		e.From[0].Box = "changed"
		fields := header.Fields("A: b\nX: c\n")
		fields[0].Name = "changed"
		if !slices.Equal(l, wasFields) || !slices.Equal(names, wasNames) {
			t.Fatalf("the lists are %q, %q; they were %q, %q", l, names, wasFields, wasNames)
		}
	}
	few := append(make([]string, 0, 8), "A")
	header.Get(l, few...)
	header.Only("A: b\n", true, few...)
	if behind := few[:8]; slices.ContainsFunc(behind[1:], func(s string) bool { return s != "" }) {
		t.Fatalf("behind the names stands %q", behind)
	}
}

// P1

func TestLongTexts(t *testing.T) {
	const many = 1000000
	for _, s := range []string{"a", ":", " ", "\n", "\r\n", "\r", "A:", "A:b\n", "A:b\n c\n", " \n", "\x00", "\xff"} {
		long := strings.Repeat(s, many)
		head, content := header.Cut(long)
		if head+content != long {
			t.Fatalf("%q, many times, is not as it was", s)
		}
		header.Fields(long)
		header.Unfold(long)
		header.Only(long, true, "a", long)
		header.Only("A:"+long, false, "a")
		header.Get([]api.Field{{Name: long, Value: long}}, long, "a")
	}
	s := "A: b" + strings.Repeat("\n c", many)
	wantFields(t, s, api.Field{Name: "A", Value: s[2:]})
	wantOnly(t, s, false, []string{"a"}, s+"\r\n")
	if n := len(header.Fields(strings.Repeat("A:b\n", many))); n != many {
		t.Fatalf("there are %d fields", n)
	}
	wantFields(t, strings.Repeat("A", many)+":b", api.Field{Name: strings.Repeat("A", many), Value: "b"})
	wantUnfold(t, strings.Repeat(" \r\n", many)+"a"+strings.Repeat("\n\t", many), "a")
}
