package mime_test

import (
	"math"
	"math/rand"
	"slices"
	"strings"
	"testing"

	"haversack/api"
	"haversack/header"
	"haversack/mime"
)

// P11.2: Section

// otherWords are none that Section knows.
var otherWords = []string{"text", "Text", "header", "Header", "mime", "Mime", "HEADER.FIELDS", "HEADER.FIELDS.NOT", "FIELDS", "BODY", " ", "TEXT ", " TEXT", "TEXTS", "HEADERS", "MIMES", "TEX", "1", "\x00", "é"}

const none = "(none)"

// A section's words, in the order of wantWords.
var knownWords = []string{"", "TEXT", "HEADER", "MIME"}

// wantWords asks each word at a path.
func wantWords(t *testing.T, s string, path []int, wanted ...string) {
	t.Helper()
	for i, what := range knownWords {
		if wanted[i] == none {
			wantNoSection(t, s, path, what)
		} else {
			wantSection(t, s, path, what, wanted[i])
		}
	}
	for _, what := range otherWords {
		wantNoSection(t, s, path, what)
	}
}

func wantNothingAt(t *testing.T, s string, paths ...[]int) {
	t.Helper()
	for _, path := range paths {
		wantWords(t, s, path, none, none, none, none)
		wantNoFields(t, s, path, false, "a")
		wantNoFields(t, s, path, true)
	}
}

func TestSectionOfAPlainMessage(t *testing.T) {
	for _, c := range []struct{ head, content string }{
		{"A: b\r\n\r\n", "c"},
		{"A: b\r\n\r\n", "c\r\n\r\nd"},
		{"A: b", ""},
		{"\n", "c"},
		{"", ""},
		{"Content-Type: text/x\n\n", "--b\n"},
		{"Content-Type: multipart/x; boundary=b\n\n", "c"},
		{"Content-Type: multipart/x\n\n", "--\n\nc\n"},
		{"Content-Type: multipart/x; boundary=b\n\n", "--b--\n--b\n\nc\n"},
		{"Content-Type: message/partial\n\n", "A: b\n\nc\n"},
	} {
		s := c.head + c.content
		wantWords(t, s, nil, s, c.content, c.head, none)
		wantWords(t, s, []int{}, s, c.content, c.head, none)
		wantWords(t, s, []int{1}, c.content, none, none, c.head)
		wantNothingAt(t, s, []int{0}, []int{-1}, []int{2}, []int{3}, []int{math.MaxInt}, []int{math.MinInt})
		wantNothingAt(t, s, []int{1, 1}, []int{1, 0}, []int{1, 2}, []int{1, -1}, []int{0, 1}, []int{2, 1}, []int{1, 1, 1})
	}
}

func TestSectionOfAMultipart(t *testing.T) {
	const head = "Content-Type: multipart/x; boundary=b\n\n"
	const head1, content1 = "A: b\n\n", "1"
	const head2 = "Content-Type: multipart/y; boundary=c\n\n"
	const head21, content21 = "C: d\n\n", "21"
	const head22, content22 = "\n", "22\n"
	const content2 = "ahead\n--c\n" + head21 + content21 + "\n--c\n" + head22 + content22 + "\n--c--"
	const head3, content3 = "E: f", ""
	const content = "--b\n" + head1 + content1 + "\n--b\n" + head2 + content2 + "\n--b\n" + head3 + content3 + "\n--b--\nbehind"
	const s = head + content
	wantWords(t, s, nil, s, content, head, none)
	wantWords(t, s, []int{1}, content1, none, none, head1)
	wantWords(t, s, []int{2}, content2, none, none, head2)
	wantWords(t, s, []int{2, 1}, content21, none, none, head21)
	wantWords(t, s, []int{2, 2}, content22, none, none, head22)
	wantWords(t, s, []int{3}, content3, none, none, head3)
	wantNothingAt(t, s, []int{0}, []int{4}, []int{-1}, []int{math.MaxInt}, []int{math.MinInt})
	wantNothingAt(t, s, []int{2, 0}, []int{2, 3}, []int{2, -1}, []int{2, -2}, []int{0, 1}, []int{4, 1})
	wantNothingAt(t, s, []int{1, 1}, []int{3, 1}, []int{2, 1, 1}, []int{2, 2, 1}, []int{1, 1, 1}, []int{2, 3, 1})
	allAsSlow(t, s)
}

func TestSectionOfAMessage(t *testing.T) {
	const head, head1, content1 = "Content-Type: message/rfc822\n\n", "A: b\n\n", "c\n"
	const s = head + head1 + content1
	wantWords(t, s, nil, s, head1+content1, head, none)
	wantWords(t, s, []int{1}, head1+content1, content1, head1, head)
	wantWords(t, s, []int{1, 1}, content1, none, none, head1)
	wantNothingAt(t, s, []int{2}, []int{0}, []int{-1}, []int{1, 2}, []int{1, 0}, []int{1, -1}, []int{2, 1}, []int{1, 1, 1}, []int{1, 1, 0})
	allAsSlow(t, s)
	wantWords(t, head, []int{1}, "", "", "", head)
	wantWords(t, head, []int{1, 1}, "", none, none, "")
	wantNothingAt(t, head, []int{1, 1, 1})
}

func TestSectionThroughBoth(t *testing.T) {
	const multi = "Content-Type: multipart/x; boundary="
	const letter = "X: y\nContent-Type: message/rfc822\n\n"
	const head211, content211 = "C: d\n\n", "211"
	const head212 = letter
	const inner212 = "E: f\n\n" + "212"
	const head21 = "Subject: z\n" + multi + "c\n\n"
	const content21 = "--c\n" + head211 + content211 + "\n--c\n" + head212 + inner212 + "\n--c--"
	const s = multi + "b\n\n--b\n\n1\n--b\n" + letter + head21 + content21 + "\n--b--"
	wantWords(t, s, []int{1}, "1", none, none, "\n")
	wantWords(t, s, []int{2}, head21+content21, content21, head21, letter)
	wantWords(t, s, []int{2, 1}, content211, none, none, head211)
	wantWords(t, s, []int{2, 2}, inner212, "212", "E: f\n\n", letter)
	wantWords(t, s, []int{2, 2, 1}, "212", none, none, "E: f\n\n")
	wantNothingAt(t, s, []int{2, 3}, []int{2, 0}, []int{2, 1, 1}, []int{2, 2, 2}, []int{2, 2, 1, 1}, []int{3})
	wantFields(t, s, []int{2}, false, []string{"SUBJECT"}, "Subject: z\n\r\n")
	wantFields(t, s, []int{2, 2}, true, []string{"x"}, "E: f\n\r\n")
	allAsSlow(t, s)
	around := letter + s
	wantWords(t, around, nil, around, s, letter, none)
	wantWords(t, around, []int{1}, s, s[len(multi)+3:], multi+"b\n\n", letter)
	wantWords(t, around, []int{1, 1}, "1", none, none, "\n")
	wantWords(t, around, []int{1, 2, 2, 1}, "212", none, none, "E: f\n\n")
	wantNothingAt(t, around, []int{2}, []int{1, 3}, []int{1, 0}, []int{1, 1, 1})
	allAsSlow(t, around)
}

// Of messages within one another a path of ones goes one deeper each, as far as they have kids.
func TestSectionOfNestedMessages(t *testing.T) {
	const head = "Content-Type: message/rfc822\n\n"
	for deep := range 12 {
		s := strings.Repeat(head, deep) + "A: b\n\nc"
		for n := range 13 {
			path := slices.Repeat([]int{1}, n)
			if n == 0 || n > min(deep+1, api.MaxNest) {
				if n > 0 {
					wantNothingAt(t, s, path)
				}
				continue
			}
			switch part := s[len(head)*(n-1):]; {
			case n == deep+1:
				wantWords(t, s, path, "c", none, none, "A: b\n\n")
			case n == api.MaxNest:
				wantWords(t, s, path, part[len(head):], none, none, head)
			case n == deep:
				wantWords(t, s, path, "A: b\n\nc", "c", "A: b\n\n", head)
			default:
				wantWords(t, s, path, part[len(head):], part[2*len(head):], head, head)
			}
		}
	}
}

// Parts that are not told any more are at no path.
func TestSectionOfManyParts(t *testing.T) {
	s := "Content-Type: multipart/x; boundary=b\n\n" + strings.Repeat("--b\nA: b\n\nc\n", 58) + "--b\nContent-Type: message/rfc822\n\nD: e\n\nf\n--b\n\ng\n--b--"
	wantWords(t, s, []int{58}, "c", none, none, "A: b\n\n")
	wantWords(t, s, []int{59}, "D: e\n\nf", none, none, "Content-Type: message/rfc822\n\n")
	wantNothingAt(t, s, []int{60}, []int{59, 1}, []int{61})
}

// P11.2: Fields

func TestFields(t *testing.T) {
	const head = "To: a\r\nContent-Type: message/rfc822\r\nno field\r\nCC: b\r\n c\r\nto: d\r\n\r\n"
	const inner = "To: e\nX: f\n\n"
	const s = head + inner + "To: g\n"
	for _, c := range []struct {
		path   []int
		not    bool
		names  []string
		wanted string
	}{
		{nil, false, nil, ""},
		{nil, true, nil, "To: a\r\nContent-Type: message/rfc822\r\nCC: b\r\n c\r\nto: d\r\n"},
		{nil, false, []string{"to"}, "To: a\r\nto: d\r\n"},
		{nil, true, []string{"to"}, "Content-Type: message/rfc822\r\nCC: b\r\n c\r\n"},
		{[]int{}, false, []string{"cc", "TO"}, "To: a\r\nCC: b\r\n c\r\nto: d\r\n"},
		{nil, true, []string{"cc", "TO"}, "Content-Type: message/rfc822\r\n"},
		{nil, false, []string{"x", ""}, ""},
		{nil, true, []string{"x", "no field"}, "To: a\r\nContent-Type: message/rfc822\r\nCC: b\r\n c\r\nto: d\r\n"},
		{[]int{1}, false, nil, ""},
		{[]int{1}, true, nil, "To: e\nX: f\n"},
		{[]int{1}, false, []string{"To"}, "To: e\n"},
		{[]int{1}, true, []string{"To"}, "X: f\n"},
		{[]int{1}, false, []string{"content-type", "cc"}, ""},
	} {
		wantFields(t, s, c.path, c.not, c.names, c.wanted+"\r\n")
	}
	wantNothing := [][]int{{1, 1}, {2}, {0}, {-1}, {1, 2}, {1, 1, 1}}
	for _, path := range wantNothing {
		wantNoFields(t, s, path, false)
		wantNoFields(t, s, path, false, "to", "x")
		wantNoFields(t, s, path, true)
		wantNoFields(t, s, path, true, "to")
	}
	wantFields(t, "", nil, false, nil, "\r\n")
	wantFields(t, "", nil, true, []string{"a"}, "\r\n")
	wantFields(t, "A: b", nil, false, []string{"a"}, "A: b\r\n")
	wantFields(t, "B: c\n\nA: b\n", nil, false, []string{"a"}, "\r\n")
	wantNoFields(t, "", []int{1}, true)
	wantNoFields(t, "Content-Type: multipart/x; boundary=b\n\n--b\nA: b\n\n--b--", []int{1}, true)
}

// Fields is Only of what HEADER tells, whatever the message.
func TestFieldsByChance(t *testing.T) {
	r := rand.New(rand.NewSource(2))
	with := 0
	for range 3000 {
		s := partByChance(r, 4)
		for range 10 {
			path := slices.Repeat([]int{1}, r.Intn(5))
			for i := range path {
				path[i] += r.Intn(3)
			}
			names := strings.Split(one(r, "", "a", "CONTENT-TYPE", "a,content-id", "x"), ",")
			not := r.Intn(2) == 0
			head, is := mime.Section(s, path, "HEADER")
			if !is {
				wantNoFields(t, s, path, not, names...)
				continue
			}
			if len(path) > 0 {
				with++
			}
			wantFields(t, s, path, not, names, header.Only(head, not, names...))
		}
	}
	if with < 1000 {
		t.Fatalf("just %d were at a path", with)
	}
}

// P11.3

func TestPartial(t *testing.T) {
	const most, least = math.MaxInt, math.MinInt
	for _, c := range []struct {
		s       string
		from, n int
		wanted  string
	}{
		{"abc", 0, 0, ""},
		{"abc", 0, 1, "a"},
		{"abc", 0, 2, "ab"},
		{"abc", 0, 3, "abc"},
		{"abc", 0, 4, "abc"},
		{"abc", 0, most, "abc"},
		{"abc", 0, -1, ""},
		{"abc", 0, least, ""},
		{"abc", 1, 0, ""},
		{"abc", 1, 1, "b"},
		{"abc", 1, 2, "bc"},
		{"abc", 1, 3, "bc"},
		{"abc", 1, most, "bc"},
		{"abc", 1, most - 1, "bc"},
		{"abc", 1, -1, ""},
		{"abc", 2, 1, "c"},
		{"abc", 2, 9, "c"},
		{"abc", 3, 0, ""},
		{"abc", 3, 1, ""},
		{"abc", 3, most, ""},
		{"abc", 3, -1, ""},
		{"abc", 4, 0, ""},
		{"abc", 4, 1, ""},
		{"abc", 4, -1, ""},
		{"abc", most, 1, ""},
		{"abc", most, most, ""},
		{"abc", most, least, ""},
		{"abc", -1, 0, ""},
		{"abc", -1, 1, ""},
		{"abc", -1, 2, ""},
		{"abc", -1, most, ""},
		{"abc", -3, 3, ""},
		{"abc", least, 1, ""},
		{"abc", least, most, ""},
		{"abc", least, least, ""},
		{"", 0, 0, ""},
		{"", 0, 1, ""},
		{"", 1, 1, ""},
		{"", -1, 1, ""},
		{"é\x00\xff\r\n", 1, 3, "\xa9\x00\xff"},
	} {
		if got := mime.Partial(c.s, c.from, c.n); got != c.wanted {
			t.Fatalf("Partial(%q, %d, %d) = %q; want %q", c.s, c.from, c.n, got, c.wanted)
		}
	}
	const s = "0123456789"
	for from := -3; from < 14; from++ {
		for n := -3; n < 14; n++ {
			wanted := ""
			for i := range len(s) {
				if from >= 0 && i >= from && i < from+n {
					wanted += s[i : i+1]
				}
			}
			if got := mime.Partial(s, from, n); got != wanted {
				t.Fatalf("Partial(%q, %d, %d) = %q; want %q", s, from, n, got, wanted)
			}
		}
	}
}
