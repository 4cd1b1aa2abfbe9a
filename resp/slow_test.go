package resp_test

import (
	"math/big"
	"regexp"
	"slices"
	"strconv"
	"strings"

	"haversack/api"
)

// The slow ones go by the chapter's words: Right by texts that are held against forms, Print by texts put together, and Parse by going all ways at one time; what ends at the text's end is the lines, and there must be just one way.

var (
	formLetters = regexp.MustCompile(`\A[!#-'*-;=?-Z\\^-z|~]+\z`)
	formTag     = regexp.MustCompile(`\A([!#-',-;=?-Z\\^-z|~]+|\*|\+)\z`)
	formDigits  = regexp.MustCompile(`\A[0-9]+\z`)
	formNumber  = regexp.MustCompile(`\A(0|[1-9][0-9]*)\z`)
	formNil     = regexp.MustCompile(`\A[Nn][Ii][Ll]\z`)
	formPlain   = regexp.MustCompile(`\A[ -~]*\z`)
	formQuoted  = regexp.MustCompile(`\A"((?:[ !#-\[\]-~]|\\["\\])*)"`)
	formCounted = regexp.MustCompile(`\A\{(0|[1-9][0-9]*)\}\r\n`)
	formFrom    = regexp.MustCompile(`\A<(0|[1-9][0-9]*)>`)
	formText    = regexp.MustCompile(`\A[ -~]*`)
)

func slowAtom(s string) bool {
	return formLetters.MatchString(s) && !formDigits.MatchString(s) && !formNil.MatchString(s)
}

// slowNumber is a number that can be told.
func slowNumber(s string) (int, bool) {
	n, is := new(big.Int).SetString(s, 10)
	if !formNumber.MatchString(s) || !is || !n.IsInt64() {
		return 0, false
	}
	return int(n.Int64()), true
}

func slowQuotable(s string) bool { return len(s) <= api.MaxQuoted && formPlain.MatchString(s) }

// deepOf is how many lists and sections of a value stand within one another; there is no need to tell more than these.
func deepOf(v api.Val, most int) int {
	if v.Kind != api.ValList && v.Kind != api.ValSection || most == 0 {
		return 0
	}
	deep := 0
	for _, kid := range v.Kids {
		deep = max(deep, deepOf(kid, most-1))
	}
	return deep + 1
}

func slowRightValues(l []api.Val) bool {
	for _, v := range l {
		if deepOf(v, api.MaxVals+1) > api.MaxVals || !slowRightValue(v) {
			return false
		}
	}
	return true
}

// slowRightValue looks at all but how deep it is.
func slowRightValue(v api.Val) bool {
	has := map[int]string{api.ValNil: "", api.ValNumber: "N", api.ValAtom: "Text", api.ValString: "Text", api.ValList: "Kids", api.ValSection: "Text Kids From"}
	kind, is := has[v.Kind]
	for field, there := range map[string]bool{"N": v.N != 0, "Text": v.Text != "", "Kids": len(v.Kids) > 0, "From": len(v.From) > 0} {
		is = is && (!there || strings.Contains(kind, field))
	}
	if !is {
		return false
	}
	if v.Kind == api.ValAtom || v.Kind == api.ValSection {
		is = slowAtom(v.Text)
	}
	is = is && v.N >= 0 && len(v.From) <= 1
	for _, n := range v.From {
		is = is && n >= 0
	}
	for _, kid := range v.Kids {
		is = is && slowRightValue(kid)
	}
	return is
}

func slowRight(l api.Line) bool {
	if !formTag.MatchString(l.Tag) || !formPlain.MatchString(l.Text) || len(l.Code) == 0 && l.Text != "" && l.Text[0] == '[' {
		return false
	}
	if l.Tag == "+" {
		return same(l, api.Line{Tag: "+", Text: l.Text})
	}
	if slices.Contains(slowStatuses, l.Status) {
		return len(l.Vals) == 0 && slowRightValues(l.Code)
	}
	return same(l, api.Line{Tag: l.Tag, Vals: l.Vals}) && len(l.Vals) > 0 && slowRightValues(l.Vals) && !slices.Contains(slowStatuses, slowValue(l.Vals[0]))
}

var slowStatuses = []string{"OK", "NO", "BAD", "BYE", "PREAUTH"}

func slowValues(l []api.Val) string {
	var told []string
	for _, v := range l {
		told = append(told, slowValue(v))
	}
	return strings.Join(told, " ")
}

func slowValue(v api.Val) string {
	switch v.Kind {
	case api.ValNil:
		return "NIL"
	case api.ValNumber:
		return strconv.Itoa(v.N)
	case api.ValAtom:
		return v.Text
	case api.ValString:
		if slowQuotable(v.Text) {
			return `"` + strings.NewReplacer(`"`, `\"`, `\`, `\\`).Replace(v.Text) + `"`
		}
		return "{" + strconv.Itoa(len(v.Text)) + "}" + end + v.Text
	case api.ValList:
		return "(" + slowValues(v.Kids) + ")"
	}
	from := ""
	for _, n := range v.From {
		from = "<" + strconv.Itoa(n) + ">"
	}
	return v.Text + "[" + slowValues(v.Kids) + "]" + from
}

func slowPrint(l ...api.Line) string {
	told := ""
	for _, line := range l {
		switch {
		case !slowRight(line):
			return ""
		case line.Tag == "+":
			told += "+ " + line.Text
		case len(line.Vals) > 0:
			told += line.Tag + " " + slowValues(line.Vals)
		case len(line.Code) > 0:
			told += line.Tag + " " + line.Status + " [" + slowValues(line.Code) + "] " + line.Text
		default:
			told += line.Tag + " " + line.Status + " " + line.Text
		}
		told += end
	}
	return told
}

// got is what can be read at a place, and where that ends.
type got[T any] struct {
	v  T
	at int
}

// slowLetters is each beginning of the letters of atoms at a place.
func slowLetters(s string, at int) []got[string] {
	var all []got[string]
	for to := at + 1; to <= len(s) && formLetters.MatchString(s[to-1:to]); to++ {
		all = append(all, got[string]{s[at:to], to})
	}
	return all
}

func slowStarts(s string, at int, sign string) bool { return strings.HasPrefix(s[at:], sign) }

func slowReadValue(s string, at, open int) []got[api.Val] {
	all := slowReadString(s, at)
	if slowStarts(s, at, "NIL") {
		all = append(all, got[api.Val]{nothing, at + 3})
	}
	for _, word := range slowLetters(s, at) {
		if n, is := slowNumber(word.v); is {
			all = append(all, got[api.Val]{number(n), word.at})
		}
		if slowAtom(word.v) {
			all = append(all, got[api.Val]{atom(word.v), word.at})
			for _, kids := range slowReadKids(s, word.at, open, "[", "]") {
				all = append(all, slowReadFrom(s, kids.at, section(word.v, nil, kids.v...))...)
			}
		}
	}
	for _, kids := range slowReadKids(s, at, open, "(", ")") {
		all = append(all, got[api.Val]{list(kids.v...), kids.at})
	}
	return all
}

func slowReadFrom(s string, at int, v api.Val) []got[api.Val] {
	all := []got[api.Val]{{v, at}}
	if m := formFrom.FindStringSubmatch(s[at:]); m != nil {
		if n, is := slowNumber(m[1]); is {
			v.From = []int{n}
			all = append(all, got[api.Val]{v, at + len(m[0])})
		}
	}
	return all
}

func slowReadString(s string, at int) []got[api.Val] {
	if m := formQuoted.FindStringSubmatch(s[at:]); m != nil {
		said := strings.NewReplacer(`\"`, `"`, `\\`, `\`).Replace(m[1])
		if slowQuotable(said) {
			return []got[api.Val]{{text(said), at + len(m[0])}}
		}
	}
	if m := formCounted.FindStringSubmatch(s[at:]); m != nil {
		from := at + len(m[0])
		if n, is := slowNumber(m[1]); is && n <= len(s)-from && !slowQuotable(s[from:from+n]) {
			return []got[api.Val]{{text(s[from : from+n]), from + n}}
		}
	}
	return nil
}

// slowReadKids reads values between two signs, or none.
func slowReadKids(s string, at, open int, from, to string) []got[[]api.Val] {
	if !slowStarts(s, at, from) || open == api.MaxVals {
		return nil
	}
	var all []got[[]api.Val]
	for _, l := range append(slowReadValues(s, at+1, open+1), got[[]api.Val]{nil, at + 1}) {
		if slowStarts(s, l.at, to) {
			all = append(all, got[[]api.Val]{l.v, l.at + 1})
		}
	}
	return all
}

// slowReadValues reads one or more.
func slowReadValues(s string, at, open int) []got[[]api.Val] {
	var all []got[[]api.Val]
	for _, first := range slowReadValue(s, at, open) {
		all = append(all, got[[]api.Val]{vals(first.v), first.at})
	}
	for i := 0; i < len(all); i++ {
		if !slowStarts(s, all[i].at, " ") {
			continue
		}
		for _, next := range slowReadValue(s, all[i].at+1, open) {
			all = append(all, got[[]api.Val]{append(slices.Clip(all[i].v), next.v), next.at})
		}
	}
	return all
}

func slowReadText(s string, at int, l api.Line) []got[api.Line] {
	l.Text = formText.FindString(s[at:])
	if len(l.Code) == 0 && strings.HasPrefix(l.Text, "[") {
		return nil
	}
	return []got[api.Line]{{l, at + len(l.Text)}}
}

// slowReadLine reads one without its end.
func slowReadLine(s string, at int) []got[api.Line] {
	var all []got[api.Line]
	for _, tag := range slowLetters(s, at) {
		if !formTag.MatchString(tag.v) || !slowStarts(s, tag.at, " ") {
			continue
		}
		behind := tag.at + 1
		if tag.v == "+" {
			all = append(all, slowReadText(s, behind, goOn(""))...)
			continue
		}
		for _, word := range slowStatuses {
			if slowStarts(s, behind, word+" ") {
				all = append(all, slowReadStatus(s, behind+len(word)+1, status(tag.v, word, ""))...)
			}
		}
		for _, l := range slowReadValues(s, behind, 0) {
			if !slices.Contains(slowStatuses, slowValue(l.v[0])) {
				all = append(all, got[api.Line]{api.Line{Tag: tag.v, Vals: l.v}, l.at})
			}
		}
	}
	return all
}

func slowReadStatus(s string, at int, l api.Line) []got[api.Line] {
	all := slowReadText(s, at, l)
	if !slowStarts(s, at, "[") {
		return all
	}
	for _, code := range slowReadValues(s, at+1, 0) {
		if slowStarts(s, code.at, "] ") {
			l.Code = code.v
			all = append(all, slowReadText(s, code.at+2, l)...)
		}
	}
	return all
}

// slowParse reads lines, and tells whether the text is some.
func slowParse(s string) ([]api.Line, bool) {
	ways := []got[[]api.Line]{{nil, 0}}
	var whole [][]api.Line
	for i := 0; i < len(ways); i++ {
		if ways[i].at == len(s) {
			whole = append(whole, ways[i].v)
			continue
		}
		for _, line := range slowReadLine(s, ways[i].at) {
			if slowStarts(s, line.at, end) {
				ways = append(ways, got[[]api.Line]{append(slices.Clip(ways[i].v), line.v), line.at + len(end)})
			}
		}
	}
	if len(whole) > 1 {
		panic("lines can be read in several ways: " + s)
	}
	if len(whole) == 0 {
		return nil, false
	}
	return whole[0], true
}
