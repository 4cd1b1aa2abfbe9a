package header_test

import (
	"math/rand"
	"regexp"
	"slices"
	"strings"
	"testing"

	"haversack/api"
	"haversack/header"
)

// eachText goes through all texts of some signs, up to so many of them.
func eachText(signs []string, most int, do func(s string)) {
	var longer func(s string, more int)
	longer = func(s string, more int) {
		do(s)
		if more > 0 {
			for _, sign := range signs {
				longer(s+sign, more-1)
			}
		}
	}
	longer("", most)
}

// eachNear goes through a text with each byte at each place as another one, as one more, or left out.
func eachNear(s string, do func(near string)) {
	for at := range len(s) {
		do(s[:at] + s[at+1:])
		for b := range 256 {
			do(s[:at] + string([]byte{byte(b)}) + s[at+1:])
			do(s[:at] + string([]byte{byte(b)}) + s[at:])
		}
	}
	for b := range 256 {
		do(s + string([]byte{byte(b)}))
	}
}

// chance is a text of some pieces, up to so many.
func chance(r *rand.Rand, most int, pieces ...string) string {
	var s strings.Builder
	for range r.Intn(most + 1) {
		s.WriteString(pieces[r.Intn(len(pieces))])
	}
	return s.String()
}

var (
	emptyLine = regexp.MustCompile(`(?:\A|\n)\r?\n`)
	fieldLine = regexp.MustCompile(`\A([!-9;-~]+):`)
	foldLine  = regexp.MustCompile(`\A[ \t]`)
	lineEnd   = regexp.MustCompile(`\r?\n\z`)
	lineEnds  = regexp.MustCompile(`[\r\n]`)
	bothEnds  = regexp.MustCompile(`\A[ \t]+|[ \t]+\z`)
)

// slowCut looks for the first empty line in the text as a whole.
func slowCut(s string) (string, string) {
	at := emptyLine.FindStringIndex(s)
	if at == nil {
		return s, ""
	}
	return s[:at[1]], s[at[1]:]
}

// slowLine is a line, and the number and the name of the field that it belongs to; the number is 0, if there is none.
type slowLine struct {
	text  string
	field int
	name  string
}

func slowLines(s string) []slowLine {
	var l []slowLine
	ahead, fields := slowLine{}, 0
	for _, text := range strings.SplitAfter(s, "\n") {
		line := slowLine{text: text}
		if name := fieldLine.FindStringSubmatch(text); name != nil {
			fields++
			line.field, line.name = fields, name[1]
		} else if foldLine.MatchString(text) {
			line.field, line.name = ahead.field, ahead.name
		}
		l = append(l, line)
		ahead = line
	}
	return l
}

func slowFields(s string) []api.Field {
	var l []api.Field
	for _, line := range slowLines(s) {
		if line.field > len(l) {
			l = append(l, api.Field{Name: line.name})
			line.text = line.text[len(line.name)+1:]
		}
		if line.field > 0 {
			l[line.field-1].Value += line.text
		}
	}
	for i := range l {
		l[i].Value = lineEnd.ReplaceAllString(l[i].Value, "")
	}
	return l
}

func slowUnfold(s string) string {
	return bothEnds.ReplaceAllString(lineEnds.ReplaceAllString(s, ""), "")
}

// slowAmong holds names against each other by the library, so it knows ASCII's letters alone if the names are ASCII.
func slowAmong(name string, names []string) bool {
	for _, other := range names {
		if strings.EqualFold(name, other) {
			return true
		}
	}
	return false
}

func slowOnly(s string, not bool, names []string) string {
	only := ""
	for _, line := range slowLines(s) {
		if line.field > 0 && slowAmong(line.name, names) != not {
			only += line.text
		}
	}
	return only + "\r\n"
}

// slowPiece is a piece of addresses as far as it has been gone through.
type slowPiece struct {
	ahead, inside []byte
	angles        int
}

func (p *slowPiece) say(b byte, angle bool) {
	switch {
	case angle && p.angles == 1:
		p.inside = append(p.inside, b)
	case p.angles == 0:
		p.ahead = append(p.ahead, b)
	}
}

func (p *slowPiece) address() api.Address {
	trim := func(b []byte) string {
		for len(b) > 0 && strings.IndexByte("\t\n\r ", b[0]) >= 0 {
			b = b[1:]
		}
		for len(b) > 0 && strings.IndexByte("\t\n\r ", b[len(b)-1]) >= 0 {
			b = b[:len(b)-1]
		}
		return string(b)
	}
	name, address := "", trim(p.ahead)
	if p.angles > 0 {
		name, address = address, trim(p.inside)
	}
	pieces := strings.Split(address, "@")
	if len(pieces) == 1 {
		return api.Address{Name: name, Box: address}
	}
	last := len(pieces) - 1
	return api.Address{Name: name, Box: strings.Join(pieces[:last], "@"), Host: pieces[last]}
}

// slowAddresses goes byte by byte, and knows of each in what it stands.
func slowAddresses(s string) []api.Address {
	var l []api.Address
	p := &slowPiece{}
	quoted, angle, escaped, deep := false, false, false, 0
	for i := range len(s) {
		b := s[i]
		switch {
		case escaped:
			escaped = false
			if quoted {
				p.say(b, angle)
			}
		case (quoted || deep > 0) && b == '\\' && i < len(s)-1:
			escaped = true
		case quoted && b == '"':
			quoted = false
		case quoted:
			p.say(b, angle)
		case b == '(':
			deep++
		case deep > 0 && b == ')':
			deep--
		case deep > 0:
		case b == '"':
			quoted = true
		case angle && b == '>':
			angle = false
		case !angle && b == '<':
			angle = true
			p.angles++
		case !angle && b == ',':
			l = append(l, p.address())
			p = &slowPiece{}
		default:
			p.say(b, angle)
		}
	}
	l = append(l, p.address())
	return slices.DeleteFunc(l, func(a api.Address) bool { return a.Name == "" && a.Box == "" && a.Host == "" })
}

func wantCut(t *testing.T, s, head, content string) {
	t.Helper()
	if h, c := header.Cut(s); h != head || c != content {
		t.Fatalf("Cut(%q) = %q, %q; want %q, %q", s, h, c, head, content)
	}
}

func wantFields(t *testing.T, s string, wanted ...api.Field) {
	t.Helper()
	if got := header.Fields(s); !slices.Equal(got, wanted) {
		t.Fatalf("Fields(%q) = %q; want %q", s, got, wanted)
	}
}

func wantUnfold(t *testing.T, s, wanted string) {
	t.Helper()
	if got := header.Unfold(s); got != wanted {
		t.Fatalf("Unfold(%q) = %q; want %q", s, got, wanted)
	}
}

func wantGet(t *testing.T, l []api.Field, names []string, wanted ...string) {
	t.Helper()
	if got := header.Get(l, names...); !slices.Equal(got, wanted) {
		t.Fatalf("Get(%q, %q) = %q; want %q", l, names, got, wanted)
	}
}

func wantOnly(t *testing.T, s string, not bool, names []string, wanted string) {
	t.Helper()
	if got := header.Only(s, not, names...); got != wanted {
		t.Fatalf("Only(%q, %v, %q) = %q; want %q", s, not, names, got, wanted)
	}
}

func wantAddresses(t *testing.T, s string, wanted ...api.Address) {
	t.Helper()
	if got := header.Addresses(s); !slices.Equal(got, wanted) {
		t.Fatalf("Addresses(%q) = %q; want %q", s, got, wanted)
	}
}
