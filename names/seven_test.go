package names_test

import (
	"encoding/base64"
	"math/rand"
	"strings"
	"testing"
	"unicode/utf16"
	"unicode/utf8"

	"haversack/api"
	"haversack/names"
)

const sixBits = "ABCDEFGHIJKLMNOPQRSTUVWXYZabcdefghijklmnopqrstuvwxyz0123456789+,"

// slowEncode is another way to the same: the library's base 64 over the library's units.
func slowEncode(s string) string {
	letters := base64.NewEncoding(sixBits).WithPadding(base64.NoPadding)
	var out strings.Builder
	var run []rune
	end := func() {
		if len(run) == 0 {
			return
		}
		var b []byte
		for _, u := range utf16.Encode(run) {
			b = append(b, byte(u>>8), byte(u))
		}
		out.WriteString("&" + letters.EncodeToString(b) + "-")
		run = nil
	}
	for _, r := range s {
		switch {
		case r < 0x20 || r > 0x7E:
			run = append(run, r)
		case r == '&':
			end()
			out.WriteString("&-")
		default:
			end()
			out.WriteRune(r)
		}
	}
	end()
	return out.String()
}

func wantEncode(t *testing.T, s, wanted string) {
	t.Helper()
	if got, e := names.Encode(s); got != wanted || e != api.OK {
		t.Fatalf("Encode(%q) = %q, %v; want %q", s, got, e, wanted)
	}
}

func wantDecode(t *testing.T, s, wanted string) {
	t.Helper()
	if got, e := names.Decode(s); got != wanted || e != api.OK {
		t.Fatalf("Decode(%q) = %q, %v; want %q", s, got, e, wanted)
	}
}

func refusedDecode(t *testing.T, s string) {
	t.Helper()
	if got, e := names.Decode(s); got != "" || e != api.ErrForm {
		t.Fatalf("Decode(%q) = %q, %v; want none, and ErrForm", s, got, e)
	}
}

// bothWays are texts and their writings in seven bits.
var bothWays = []struct{ text, seven string }{
	{"", ""},
	{"a", "a"},
	{"a&b", "a&-b"},
	{"é", "&AOk-"},
	{"&", "&-"},
	{"&&", "&-&-"},
	{"&&&-", "&-&-&--"},
	{"-", "-"},
	{"--", "--"},
	{"&-", "&--"},
	{"-&", "-&-"},
	{"AOk-", "AOk-"},
	{"&AOk-", "&-AOk-"},
	{"é&", "&AOk-&-"},
	{"&é", "&-&AOk-"},
	{"é&é", "&AOk-&-&AOk-"},
	{"é-", "&AOk--"},
	{"-é", "-&AOk-"},
	{"aéb", "a&AOk-b"},
	{"éaé", "&AOk-a&AOk-"},
	{"éé", "&AOkA6Q-"},
	{"ééé", "&AOkA6QDp-"},
	{"éééé", "&AOkA6QDpAOk-"},
	{"a/é/b", "a/&AOk-/b"},
	{",+", ",+"},
	{"\x00", "&AAA-"},
	{"\x00\x00", "&AAAAAA-"},
	{"\x00\x00\x00", "&AAAAAAAA-"},
	{"\t\r\n", "&AAkADQAK-"},
	{"\x1f", "&AB8-"},
	{" ", " "},
	{"~", "~"},
	{"\x7f", "&AH8-"},
	{"\u0080", "&AIA-"},
	{"\u07ff", "&B,8-"},
	{"\u0800", "&CAA-"},
	{"\ud7ff", "&1,8-"},
	{"\ue000", "&4AA-"},
	{"\ufffd", "&,,0-"},
	{"\ufffe", "&,,4-"},
	{"\uffff", "&,,8-"},
	{"\U00010000", "&2ADcAA-"},
	{"\U0001F600", "&2D3eAA-"},
	{"\U000FFC00", "&27,cAA-"},
	{"\U0010FFFF", "&2,,f,w-"},
	{"\U00010000é", "&2ADcAADp-"},
	{"é\U00010000", "&AOnYANwA-"},
	{"\U0001F600\U0001F600", "&2D3eANg93gA-"},
	{"\U0001F600&\U0001F600", "&2D3eAA-&-&2D3eAA-"},
	{"~peter/mail/台北/日本語", "~peter/mail/&U,BTFw-/&ZeVnLIqe-"},
	{"Entwürfe", "Entw&APw-rfe"},
}

// P7.1

func TestEncodeAndDecode(t *testing.T) {
	for _, w := range bothWays {
		wantEncode(t, w.text, w.seven)
		wantDecode(t, w.seven, w.text)
	}
}

func TestEncodeOfWhatIsNoText(t *testing.T) {
	for _, s := range []string{
		"\x80", "\xff", "a\xc3", "\xc3", "\xc3(", "a\xe2\x82", "\xe2\x28\xa1", "\xc0\xaf", "\xc0\x80", "\xe0\x80\xaf",
		"\xed\xa0\x80", "\xed\xbf\xbf", "\xed\xa0\x80\xed\xb0\x80", "\xf4\x90\x80\x80", "\xf5\x80\x80\x80", "\xf0\x9f\x98", "&\xff", "é\xe9", "\xe9é",
	} {
		if got, e := names.Encode(s); got != "" || e != api.ErrForm {
			t.Fatalf("Encode(%q) = %q, %v; want none, and ErrForm", s, got, e)
		}
	}
}

func TestDecodeOfWhatNoEncodeTells(t *testing.T) {
	for _, c := range []struct{ why, s string }{
		{"an a in base 64", "&AGE-"},
		{"an & in base 64", "&ACY-"},
		{"a space in base 64", "&ACA-"},
		{"a ~ in base 64", "&AH4-"},
		{"an a in base 64 behind an é", "&AOkAYQ-"},
		{"an a in base 64 ahead of an é", "&AGEA6Q-"},
		{"an a in base 64 between", "&AOkAYQDp-"},
		{"two runs behind one another", "&AOk-&AOk-"},
		{"two runs behind one another, one of a pair", "&2D3eAA-&AOk-"},
		{"a pair in two runs", "&2D0-&3gA-"},
		{"noughts that are none", "&AOl-"},
		{"noughts that are none", "&AOm-"},
		{"noughts that are none, in two letters", "&AOkA6R-"},
		{"noughts that are none, in two letters", "&AOkA6f-"},
		{"one more letter than is needed", "&AOkA-"},
		{"two more letters than are needed", "&AOkAA-"},
		{"one more letter behind bits that go up", "&AOkA6QDpA-"},
		{"one letter", "&A-"},
		{"two letters", "&AO-"},
		{"a nought of one letter behind a pair", "&2D3eAAA-"},
		{"the first half of a pair", "&2D0-"},
		{"the last half of a pair", "&3gA-"},
		{"the first half, ahead of a letter", "&2D0A6Q-"},
		{"the first half, ahead of a letter that stands for itself", "&2D0-a"},
		{"the first half twice", "&2D3YPQ-"},
		{"the first half ahead of a pair", "&2D3YPd4A-"},
		{"the last half ahead of the first one", "&3gDYPQ-"},
		{"the last half behind a pair", "&2D3eAN4A-"},
		{"the first half behind a pair", "&2D3eANg9-"},
		{"a half ahead of the first letter that is none", "&2D3gAA-"},
		{"a half ahead of the last letter that is none", "&2D3X,w-"},
		{"no - at the end", "&"},
		{"no - at the end", "a&"},
		{"no - at the end", "&AOk"},
		{"no - at the end", "&-&"},
		{"no - at the end", "&AOk-&AOk"},
		{"a letter that is none of base 64", "&AO/-"},
		{"a letter that is none of base 64", "&AOk=-"},
		{"a letter that is none of base 64", "& AOk-"},
		{"a letter that is none of base 64", "&AO k-"},
		{"a letter that is none of base 64", "&é-"},
		{"a letter that is none of base 64", "&AOk\x00-"},
		{"a letter that is none of base 64", "&AO_-"},
		{"an & in a run", "&AOk&-"},
		{"an & in a run", "&&-"},
		{"a letter beyond seven bits", "é"},
		{"a letter beyond seven bits", "a\x80"},
		{"a letter beyond seven bits", "\x7f"},
		{"a letter below the space", "\x1f"},
		{"a letter below the space", "a\x00"},
		{"a letter below the space", "\r\n"},
		{"no text", "\xff"},
		{"no text behind a run", "&AOk-\xe9"},
	} {
		if got, e := names.Decode(c.s); got != "" || e != api.ErrForm {
			t.Fatalf("%s: Decode(%q) = %q, %v; want none, and ErrForm", c.why, c.s, got, e)
		}
	}
}

// Each letter there is, alone, twice, and beside others.
func TestEachLetter(t *testing.T) {
	for r := rune(0); r <= utf8.MaxRune; r++ {
		if !utf8.ValidRune(r) {
			continue
		}
		s := string(r)
		for _, text := range []string{s, "a" + s + "é" + s} {
			seven := slowEncode(text)
			wantEncode(t, text, seven)
			wantDecode(t, seven, text)
		}
	}
}

// Of a run of three letters, whatever they are, Decode takes just those that Encode tells.
func TestEachRunOfThree(t *testing.T) {
	told := map[string]string{}
	for r := rune(0); r <= 0xFFFF; r++ {
		if utf8.ValidRune(r) {
			told[slowEncode(string(r))] = string(r)
		}
	}
	for a := range len(sixBits) {
		for b := range len(sixBits) {
			for c := range len(sixBits) {
				s := "&" + string([]byte{sixBits[a], sixBits[b], sixBits[c]}) + "-"
				if text, is := told[s]; is {
					wantDecode(t, s, text)
				} else {
					refusedDecode(t, s)
				}
			}
		}
	}
}

// Each short text of signs that count in runs: it is refused, or told again by Encode.
func TestEachShortWriting(t *testing.T) {
	signs := []string{"&", "-", "A", "O", "k", "a", "2", "\x7f", "é"}
	taken := 0
	var try func(s string, more int)
	try = func(s string, more int) {
		text, e := names.Decode(s)
		switch e {
		case api.OK:
			taken++
			if slowEncode(text) != s || !utf8.ValidString(text) {
				t.Fatalf("Decode(%q) = %q, which is written %q", s, text, slowEncode(text))
			}
		case api.ErrForm:
			if text != "" {
				t.Fatalf("Decode(%q) = %q beside an error", s, text)
			}
		default:
			t.Fatalf("Decode(%q): %v", s, e)
		}
		if more == 0 {
			return
		}
		for _, sign := range signs {
			try(s+sign, more-1)
		}
	}
	try("", 6)
	if taken < 1000 {
		t.Fatalf("just %d were taken", taken)
	}
}

// letterOf is one of those at which the writings differ, or any.
func letterOf(r *rand.Rand) rune {
	edges := []rune{0, 0x1F, 0x20, '&', '-', '+', ',', '/', 'A', 'z', 0x7E, 0x7F, 0x80, 0xE9, 0x7FF, 0x800, 0xD7FF, 0xE000, 0xFFFD, 0xFFFF, 0x10000, 0x1F600, 0x10FFFF}
	if r.Intn(4) > 0 {
		return edges[r.Intn(len(edges))]
	}
	for {
		if l := rune(r.Intn(utf8.MaxRune + 1)); utf8.ValidRune(l) {
			return l
		}
	}
}

func textOf(r *rand.Rand, most int) string {
	var b strings.Builder
	for range r.Intn(most + 1) {
		b.WriteRune(letterOf(r))
	}
	return b.String()
}

// P7.4

func TestBack(t *testing.T) {
	r := rand.New(rand.NewSource(4))
	texts := map[string]string{}
	for range 40000 {
		text := textOf(r, 12)
		seven, e := names.Encode(text)
		if e != api.OK || seven != slowEncode(text) {
			t.Fatalf("Encode(%q) = %q, %v; want %q", text, seven, e, slowEncode(text))
		}
		for i := range len(seven) {
			if seven[i] < 32 || seven[i] > 126 {
				t.Fatalf("Encode(%q) = %q has the byte %d", text, seven, seven[i])
			}
		}
		if other, is := texts[seven]; is && other != text {
			t.Fatalf("%q and %q are both written %q", text, other, seven)
		}
		texts[seven] = text
		wantDecode(t, seven, text)
	}
}

// A change of one byte makes it the writing of another text, or of none.
func TestChangedWritings(t *testing.T) {
	r := rand.New(rand.NewSource(5))
	for range 40000 {
		seven := slowEncode(textOf(r, 6))
		at := r.Intn(len(seven) + 1)
		other := seven[:at] + string(byte(r.Intn(128))) + seven[min(len(seven), at+r.Intn(2)):]
		text, e := names.Decode(other)
		if e == api.OK && slowEncode(text) != other || e != api.OK && (e != api.ErrForm || text != "") {
			t.Fatalf("Decode(%q) = %q, %v", other, text, e)
		}
	}
}

func TestLongTexts(t *testing.T) {
	for _, n := range []int{1000, 1001, 1002, 100000} {
		for _, s := range []string{"é", "&", "a", "\U0001F600"} {
			text := strings.Repeat(s, n)
			wantEncode(t, text, slowEncode(text))
			wantDecode(t, slowEncode(text), text)
		}
	}
	refusedDecode(t, strings.Repeat("&", 100000))
	refusedDecode(t, strings.Repeat("&AOk-", 100000))
	refusedDecode(t, "&"+strings.Repeat("A", 100000))
}
