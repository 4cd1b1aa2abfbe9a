package words_test

import (
	"encoding/base64"
	"math/rand"
	"strings"
	"testing"

	"haversack/api"
	"haversack/words"
)

const sixBits = "ABCDEFGHIJKLMNOPQRSTUVWXYZabcdefghijklmnopqrstuvwxyz0123456789+/"

func wantBase64(t *testing.T, b, wanted string) {
	t.Helper()
	if got := words.Base64(b); got != wanted {
		t.Fatalf("Base64(%q) = %q; want %q", b, got, wanted)
	}
}

func wantUnbase64(t *testing.T, s, wanted string) {
	t.Helper()
	if got, e := words.Unbase64(s); got != wanted || e != api.OK {
		t.Fatalf("Unbase64(%q) = %q, %v; want %q", s, got, e, wanted)
	}
}

func refusedUnbase64(t *testing.T, s, why string) {
	t.Helper()
	if got, e := words.Unbase64(s); got != "" || e != api.ErrForm {
		t.Fatalf("%s: Unbase64(%q) = %q, %v; want none, and ErrForm", why, s, got, e)
	}
}

// slowBase64 is the library's.
func slowBase64(b string) string { return base64.StdEncoding.EncodeToString([]byte(b)) }

// slowUnbase64 is the library's, which passes over line ends that no Base64 tells.
func slowUnbase64(s string) (string, bool) {
	b, err := base64.StdEncoding.Strict().DecodeString(s)
	if err != nil || strings.ContainsAny(s, "\r\n") {
		return "", false
	}
	return string(b), true
}

// P8.1

func TestBase64(t *testing.T) {
	for _, w := range []struct{ b, letters string }{
		{"", ""},
		{"a", "YQ=="},
		{"ab", "YWI="},
		{"abc", "YWJj"},
		{"abcd", "YWJjZA=="},
		{"abcde", "YWJjZGU="},
		{"abcdef", "YWJjZGVm"},
		{"\x00", "AA=="},
		{"\x00\x00", "AAA="},
		{"\x00\x00\x00", "AAAA"},
		{"\x00\x00\x00\x00", "AAAAAA=="},
		{"\xff", "/w=="},
		{"\xff\xff", "//8="},
		{"\xff\xff\xff", "////"},
		{"\xff\xff\xff\xff", "/////w=="},
		{"\xfb", "+w=="},
		{"\xfb\xef\xbe", "++++"},
		{"\x80\x01", "gAE="},
		{"é", "w6k="},
		{"=", "PQ=="},
		{"\r\n", "DQo="},
		{"\x00\x10\x83\x10\x51\x87\x20\x92\x8b\x30\xd3\x8f\x41\x14\x93\x51\x55\x97\x61\x96\x9b\x71\xd7\x9f\x82\x18\xa3\x92\x59\xa7\xa2\x9a\xab\xb2\xdb\xaf\xc3\x1c\xb3\xd3\x5d\xb7\xe3\x9e\xbb\xf3\xdf\xbf", sixBits},
	} {
		wantBase64(t, w.b, w.letters)
		wantUnbase64(t, w.letters, w.b)
	}
}

func TestUnbase64OfWhatNoBase64Tells(t *testing.T) {
	for _, c := range []struct{ why, s string }{
		{"one letter", "Y"},
		{"two letters", "YQ"},
		{"three letters", "YWI"},
		{"five letters", "YWJjZ"},
		{"six letters", "YWJjZA"},
		{"seven letters", "YWJjZGU"},
		{"one = too few", "YQ="},
		{"one = too few, behind four letters", "YWJjZA="},
		{"one = too many", "YWI=="},
		{"one = too many", "YQ==="},
		{"one = too many, behind four letters", "YWJj="},
		{"two = too many", "YWJj=="},
		{"three = too many", "YWJj==="},
		{"four = too many", "YWJj===="},
		{"four = too many", "YQ======"},
		{"one letter, and three =", "Y==="},
		{"one nought, and three =", "A==="},
		{"one nought, and three =, behind four letters", "YWJjA==="},
		{"= alone", "="},
		{"= alone, twice", "=="},
		{"= alone, three of them", "==="},
		{"= alone, four of them", "===="},
		{"= at the beginning", "=YQ="},
		{"= at the beginning", "=AAA"},
		{"= in the middle", "Y=Q="},
		{"= in the middle", "YQ=A"},
		{"= in the middle", "YW=I"},
		{"= in the middle", "A==A"},
		{"a group with = ahead of another one", "YQ==YQ=="},
		{"a group with = ahead of another one", "YWI=YWJj"},
		{"a group with = ahead of noughts", "YWI=AAAA"},
		{"four bits behind the last byte", "YR=="},
		{"four bits behind the last byte", "YX=="},
		{"four bits behind the last byte", "Yf=="},
		{"four bits behind the last byte, all of them", "//=="},
		{"four bits behind the last byte, of the second group", "YWJjZB=="},
		{"two bits behind the last byte", "YWJ="},
		{"two bits behind the last byte", "YWK="},
		{"two bits behind the last byte", "YWL="},
		{"two bits behind the last byte, all of them", "///="},
		{"a letter that is none of base 64", "YW-j"},
		{"a letter that is none of base 64", "YW_j"},
		{"a letter that is none of base 64", "YW,j"},
		{"a letter that is none of base 64", "YWJ."},
		{"a letter that is none of base 64", "?WJj"},
		{"a letter that is none of base 64", "Y\x00Jj"},
		{"a letter that is none of base 64", "YWJ\xff"},
		{"a letter beyond seven bits", "YWé"},
		{"a letter that is none, ahead of =", "Y!=="},
		{"a blank", " YWJj"},
		{"a blank", "YWJj "},
		{"a blank for a letter", "YWJ "},
		{"a blank between", "YWJj YWJj"},
		{"a blank behind =", "YQ== "},
		{"a line end", "YWJj\r\n"},
		{"a line end", "YWJj\n"},
		{"a line end between", "YWJj\r\nYWJj"},
		{"a line end between", "YW\nJj"},
		{"a line end between = and =", "YQ=\n="},
		{"four line ends", "\n\n\n\n"},
		{"a letter behind =", "YQ==Y"},
	} {
		refusedUnbase64(t, c.s, c.why)
	}
}

// Each group of three bytes that ends, and each of a last one, whatever the letters are.
func TestEachLastGroup(t *testing.T) {
	taken := 0
	try := func(s string) {
		if b, is := slowUnbase64(s); is {
			taken++
			wantUnbase64(t, s, b)
			wantBase64(t, b, s)
		} else {
			refusedUnbase64(t, s, "a last group")
		}
	}
	for _, a := range sixBits {
		for _, b := range sixBits {
			two := string(a) + string(b)
			try(two + "==")
			for _, c := range sixBits {
				try(two + string(c) + "=")
			}
		}
	}
	if taken != 256+65536 {
		t.Fatalf("%d were taken", taken)
	}
}

// Each byte at each place of a group that is whole, of its ends, and of one behind it.
func TestEachByteInBase64(t *testing.T) {
	for _, s := range []string{"YWJj", "YWI=", "YQ==", "AAAA", "AAA=", "AA==", "YWJjZGVm", "YWJjZA=="} {
		for at := range len(s) {
			for b := range 256 {
				other := s[:at] + string([]byte{byte(b)}) + s[at+1:]
				if wanted, is := slowUnbase64(other); is {
					wantUnbase64(t, other, wanted)
				} else {
					refusedUnbase64(t, other, "a byte is another one")
				}
			}
		}
	}
}

// Each short text of letters and signs that count: it is what one Base64 tells, or refused.
func TestEachShortBase64(t *testing.T) {
	taken := 0
	var try func(s string, more int)
	try = func(s string, more int) {
		if wanted, is := slowUnbase64(s); is {
			taken++
			wantUnbase64(t, s, wanted)
			wantBase64(t, wanted, s)
		} else {
			refusedUnbase64(t, s, "a short text")
		}
		if more > 0 {
			for _, sign := range []string{"A", "Q", "R", "/", "=", "\n"} {
				try(s+sign, more-1)
			}
		}
	}
	try("", 8)
	if taken < 10000 {
		t.Fatalf("just %d were taken", taken)
	}
}

// bytesOf is any bytes, up to so many.
func bytesOf(r *rand.Rand, most int) string {
	b := make([]byte, r.Intn(most+1))
	for i := range b {
		b[i] = byte(r.Intn(256))
	}
	return string(b)
}

// P8.5

func TestBack(t *testing.T) {
	r := rand.New(rand.NewSource(5))
	back := func(b string) {
		letters := words.Base64(b)
		if letters != slowBase64(b) {
			t.Fatalf("Base64(%q) = %q; want %q", b, letters, slowBase64(b))
		}
		if len(letters) != (len(b)+2)/3*4 {
			t.Fatalf("Base64 of %d bytes has %d letters", len(b), len(letters))
		}
		wantUnbase64(t, letters, b)
	}
	for a := range 256 {
		back(string([]byte{byte(a)}))
		for b := range 256 {
			back(string([]byte{byte(a), byte(b)}))
			back(string([]byte{byte(a), byte(b), byte(a ^ b), byte(b)}))
		}
	}
	for n := range 300 {
		back(strings.Repeat("\x00", n))
		back(strings.Repeat("\xff", n))
		back(strings.Repeat("=", n))
	}
	for range 20000 {
		back(bytesOf(r, 40))
	}
	for _, n := range []int{1000000, 1000001, 1000002} {
		back(strings.Repeat("\xa5", n))
	}
}

func TestLongUnbase64(t *testing.T) {
	const many = 1000000
	refusedUnbase64(t, strings.Repeat("=", many), "= alone")
	refusedUnbase64(t, strings.Repeat("YQ==", many), "groups with =")
	refusedUnbase64(t, strings.Repeat("A", many+1), "one letter too many")
	refusedUnbase64(t, strings.Repeat("A", many)+"====", "a group of =")
}
