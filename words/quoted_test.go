package words_test

import (
	"math/rand"
	"regexp"
	"strconv"
	"strings"
	"testing"

	"haversack/words"
)

func wantUnquote(t *testing.T, s, wanted string) {
	t.Helper()
	if got := words.Unquote(s); got != wanted {
		t.Fatalf("Unquote(%q) = %q; want %q", s, got, wanted)
	}
}

var signs = regexp.MustCompile(`=[0-9A-Fa-f][0-9A-Fa-f]|=\r?\n`)

// slowUnquote is another way to the same.
func slowUnquote(s string) string {
	return string(signs.ReplaceAllFunc([]byte(s), func(sign []byte) []byte {
		n, err := strconv.ParseUint(string(sign[1:]), 16, 8)
		if err != nil {
			return nil
		}
		return []byte{byte(n)}
	}))
}

// P8.2

func TestUnquote(t *testing.T) {
	for _, c := range []struct{ why, s, wanted string }{
		{"nothing", "", ""},
		{"one letter", "a", "a"},
		{"the chapter's example", "a=3Db=0A", "a=b\n"},
		{"great letters", "=C3=A9", "é"},
		{"small letters", "=c3=a9", "é"},
		{"letters of both kinds", "=aF=Fa", "\xaf\xfa"},
		{"digits alone", "=00=41=99", "\x00A\x99"},
		{"a digit and a letter", "=4f=F0=0d", "O\xf0\r"},
		{"the greatest byte", "=FF", "\xff"},
		{"one digit", "=4", "=4"},
		{"one digit, and another letter", "=4g", "=4g"},
		{"another letter, and one digit", "=g4", "=g4"},
		{"one digit, and the line's end", "=4\r\n", "=4\r\n"},
		{"one digit, and =", "=4=41", "=4A"},
		{"a blank, and digits", "= 41", "= 41"},
		{"letters behind F", "=GG=gg=4G=4g", "=GG=gg=4G=4g"},
		{"signs beside the digits", "=/0=:0=@0=G0=`0=g0=0/=0:=0@=0G=0`=0g", "=/0=:0=@0=G0=`0=g0=0/=0:=0@=0G=0`=0g"},
		{"signs that a number may have", "=+4=-4=0x=_4", "=+4=-4=0x=_4"},
		{"no digit", "=", "="},
		{"no digit, ahead of others", "=xyz", "=xyz"},
		{"at the end", "a=", "a="},
		{"at the end, twice", "==", "=="},
		{"at the end, with one digit", "a=4", "a=4"},
		{"twice, and digits", "==41", "=A"},
		{"three of them, and digits", "===41", "==A"},
		{"a byte that is = itself", "=3D41", "=41"},
		{"bytes that are = themselves", "=3D=3D41", "==41"},
		{"digits that are so told", "==34=31", "=41"},
		{"digits behind a byte", "=414", "A4"},
		{"ahead of 13 10", "a=\r\nb", "ab"},
		{"ahead of 10", "a=\nb", "ab"},
		{"ahead of 13 alone", "a=\rb", "a=\rb"},
		{"ahead of 13 at the end", "a=\r", "a=\r"},
		{"ahead of 13 13 10", "a=\r\r\nb", "a=\r\r\nb"},
		{"ahead of 10 13", "a=\n\rb", "a\rb"},
		{"ahead of 13 10 at the end", "a=\r\n", "a"},
		{"ahead of 10 at the end", "a=\n", "a"},
		{"ahead of a blank and 13 10", "a= \r\nb", "a= \r\nb"},
		{"twice, ahead of 13 10", "a==\r\nb", "a=b"},
		{"two line ends", "=\r\n=\n", ""},
		{"one line end, and one that stays", "=\r\n\r\n", "\r\n"},
		{"one line end, and one that stays", "=\n\n", "\n"},
		{"digits of two lines", "=4=\r\n1", "=41"},
		{"digits behind a line end", "=\r\n41", "41"},
		{"a line end that is so told", "==0A", "=\n"},
		{"a line end that is so told, by halves", "=\r=0A", "=\r\n"},
		{"lines that end", "a\r\nb\n", "a\r\nb\n"},
		{"_", "a_b", "a_b"},
		{"bytes beyond 127", "\xc3\xa9\xff=\xff41", "\xc3\xa9\xff=\xff41"},
		{"an encoded word", "=?utf-8?q?a?=", "=?utf-8?q?a?="},
	} {
		if got := words.Unquote(c.s); got != c.wanted {
			t.Fatalf("%s: Unquote(%q) = %q; want %q", c.why, c.s, got, c.wanted)
		}
	}
}

// Each two bytes behind a =, and each byte that is so written.
func TestEachTwoBytesBehindEquals(t *testing.T) {
	for a := range 256 {
		for b := range 256 {
			s := "x=" + string([]byte{byte(a), byte(b)}) + "1"
			wantUnquote(t, s, slowUnquote(s))
		}
		small := strconv.FormatUint(uint64(a)|256, 16)[1:]
		wantUnquote(t, "="+small, string([]byte{byte(a)}))
		wantUnquote(t, "="+strings.ToUpper(small), string([]byte{byte(a)}))
	}
}

func TestEachShortQuoted(t *testing.T) {
	var try func(s string, more int)
	try = func(s string, more int) {
		wantUnquote(t, s, slowUnquote(s))
		if more > 0 {
			for _, sign := range []string{"=", "4", "d", "D", "g", "\r", "\n", "\xff"} {
				try(s+sign, more-1)
			}
		}
	}
	try("", 6)
}

// What is quoted, whatever it is, is told again, however its lines are cut.
func TestQuotedBack(t *testing.T) {
	r := rand.New(rand.NewSource(2))
	for range 20000 {
		b := bytesOf(r, 20)
		var quoted strings.Builder
		for i := range len(b) {
			if r.Intn(5) == 0 {
				quoted.WriteString([]string{"=\r\n", "=\n"}[r.Intn(2)])
			}
			if b[i] == '=' || r.Intn(2) == 0 {
				code := "=" + strconv.FormatUint(uint64(b[i])|256, 16)[1:]
				quoted.WriteString([]string{code, strings.ToUpper(code)}[r.Intn(2)])
			} else {
				quoted.WriteByte(b[i])
			}
		}
		wantUnquote(t, quoted.String(), b)
	}
}

func TestLongQuoted(t *testing.T) {
	const many = 1000000
	wantUnquote(t, strings.Repeat("=", many), strings.Repeat("=", many))
	wantUnquote(t, strings.Repeat("=41", many), strings.Repeat("A", many))
	wantUnquote(t, strings.Repeat("=\r\n", many), "")
	wantUnquote(t, strings.Repeat("a", many), strings.Repeat("a", many))
}
