package search_test

import (
	"regexp"
	"sort"
	"strings"
	"time"

	"haversack/api"
	"haversack/date"
	"haversack/seqset"
	"haversack/words"
)

// What the calls are held against goes another way: flags by regular expressions, texts byte by byte, days by the library's time, and keys with all of their kids, whatever the first ones tell.

var (
	slowSystem = map[string]*regexp.Regexp{
		`\Answered`: regexp.MustCompile(`\A\\[Aa][Nn][Ss][Ww][Ee][Rr][Ee][Dd]\z`),
		`\Deleted`:  regexp.MustCompile(`\A\\[Dd][Ee][Ll][Ee][Tt][Ee][Dd]\z`),
		`\Draft`:    regexp.MustCompile(`\A\\[Dd][Rr][Aa][Ff][Tt]\z`),
		`\Flagged`:  regexp.MustCompile(`\A\\[Ff][Ll][Aa][Gg][Gg][Ee][Dd]\z`),
		`\Seen`:     regexp.MustCompile(`\A\\[Ss][Ee][Ee][Nn]\z`),
	}
	slowOther = regexp.MustCompile("\\A[!#$&'+,\\-./0-9:;=?@A-Z^_`a-z|~]{1,30}\\z")
	slowNone  = regexp.MustCompile(`\A([0-9]+|[Nn][Ii][Ll])\z`)
)

// slowAll is flags as they are kept, each with a 1, but for how many they may be.
func slowAll(l []string) map[string]int {
	all := map[string]int{}
	for _, flag := range l {
		if slowOther.MatchString(flag) && !slowNone.MatchString(flag) {
			all[flag] = 1
		}
		for name, letters := range slowSystem {
			if letters.MatchString(flag) {
				all[name] = 1
			}
		}
	}
	return all
}

// slowFirst is the first ones of such flags.
func slowFirst(all map[string]int) []string {
	var l []string
	for flag := range all {
		l = append(l, flag)
	}
	sort.Strings(l)
	if len(l) > 20 {
		return l[:20]
	}
	return l
}

func slowFlags(l []string) []string { return slowFirst(slowAll(l)) }

func slowHas(l []string, flag string) bool {
	for _, is := range slowFlags(l) {
		if slowAll([]string{flag})[is] == 1 {
			return true
		}
	}
	return false
}

func slowChange(l []string, mode int, more []string) []string {
	all := map[string]int{}
	if mode == 0 || mode == 1 {
		all = slowAll(more)
	}
	if mode != 0 {
		for _, flag := range slowFlags(l) {
			all[flag] = 1
		}
	}
	if mode == 2 {
		for flag := range slowAll(more) {
			delete(all, flag)
		}
	}
	return slowFirst(all)
}

func slowSmall(b byte) byte {
	if at := strings.IndexByte("ABCDEFGHIJKLMNOPQRSTUVWXYZ", b); at >= 0 {
		return "abcdefghijklmnopqrstuvwxyz"[at]
	}
	return b
}

func slowContains(s, part string) bool {
	for at := 0; at+len(part) <= len(s); at++ {
		alike := 0
		for alike < len(part) && slowSmall(s[at+alike]) == slowSmall(part[alike]) {
			alike++
		}
		if alike == len(part) {
			return true
		}
	}
	return false
}

// slowCut cuts a message in lines: those of its header, and the rest.
func slowCut(text string) ([]string, string) {
	lines := strings.SplitAfter(text, "\n")
	for i, line := range lines {
		if line == "\n" || line == "\r\n" {
			return lines[:i], strings.Join(lines[i+1:], "")
		}
	}
	return lines, ""
}

var slowField = regexp.MustCompile(`\A([!-9;-~]+):`)

// slowValues are those of a message's fields with a name.
func slowValues(text, name string) []string {
	var values []string
	lines, _ := slowCut(text)
	goesOn, is := false, false // does a field go on the next line, is it one with that name?
	for _, line := range lines {
		if strings.HasPrefix(line, " ") || strings.HasPrefix(line, "\t") {
			if goesOn && is {
				values[len(values)-1] += line
			}
			continue
		}
		parts := slowField.FindStringSubmatch(line)
		goesOn = parts != nil
		is = goesOn && len(parts[1]) == len(name) && slowContains(parts[1], name)
		if is {
			values = append(values, line[len(parts[0]):])
		}
	}
	for i, value := range values {
		values[i] = strings.Trim(strings.NewReplacer("\r", "", "\n", "").Replace(value), " \t")
	}
	return values
}

// slowDay is the number of a date's day, 0 of one that there is not.
func slowDay(d api.Date) int {
	at := time.Date(d.Year, time.Month(d.Month), d.Day, 12, 0, 0, 0, time.UTC)
	if d.Year < 1 || d.Year > 9999 || at.Year() != d.Year || int(at.Month()) != d.Month || at.Day() != d.Day {
		return 0
	}
	return int((at.Unix() - 12*60*60) / (24 * 60 * 60))
}

// slowPlaced tells whether a day is before, on, or behind another one.
func slowPlaced(word string, day, n int) bool {
	return word == "BEFORE" && day < n || word == "ON" && day == n || word == "SINCE" && day >= n
}

// slowAny tells whether a value contains a text.
func slowAny(values []string, part string) bool {
	for _, value := range values {
		if slowContains(value, part) {
			return true
		}
	}
	return false
}

// slowTexts tells of the keys that are about texts.
func slowTexts(k api.Key, p place) bool {
	_, body := slowCut(p.Text)
	switch k.Op {
	case "BODY":
		return slowContains(body, k.Text)
	case "TEXT":
		return slowContains(p.Text, k.Text)
	case "HEADER":
		return slowAny(slowValues(p.Text, k.Field), k.Text)
	}
	values := slowValues(p.Text, k.Op)
	for i, value := range values {
		values[i] = words.Words(value)
	}
	return slowAny(values, k.Text)
}

// slowSent tells of the keys that are about the first field date.
func slowSent(k api.Key, p place) bool {
	for _, value := range slowValues(p.Text, "date") {
		d, e := date.Mail(value)
		return e == api.OK && slowPlaced(k.Op[4:], slowDay(d), k.N)
	}
	return false
}

// slowKids tells of the keys that are about others.
func slowKids(k api.Key, p place) bool {
	matching, first := 0, false
	for i, kid := range k.Kids {
		is := slowMatch(kid, p)
		if is {
			matching++
		}
		first = first || i == 0 && is
	}
	return k.Op == "NOT" && len(k.Kids) > 0 && !first || k.Op == "OR" && matching > 0 || k.Op == "AND" && matching == len(k.Kids)
}

// slowWords are those that each key has, but for those about flags.
const (
	slowTextWords = " BCC BODY CC FROM HEADER SUBJECT TEXT TO "
	slowDayWords  = " BEFORE ON SINCE "
	slowSentWords = " SENTBEFORE SENTON SENTSINCE "
	slowKidsWords = " AND NOT OR "
)

func slowMatch(k api.Key, p place) bool {
	word := " " + k.Op + " "
	switch {
	case strings.Contains(k.Op, " ") || k.Op == "":
		return false
	case strings.Contains(slowTextWords, word):
		return slowTexts(k, p)
	case strings.Contains(slowDayWords, word):
		return slowPlaced(k.Op, slowDay(p.Date), k.N)
	case strings.Contains(slowSentWords, word):
		return slowSent(k, p)
	case strings.Contains(slowKidsWords, word):
		return slowKids(k, p)
	case k.Op == "SEQ":
		return len(seqset.Members(k.Set, p.most, p.seq)) > 0
	case k.Op == "UID":
		return len(seqset.Members(k.Set, p.mostUID, p.UID)) > 0
	}
	return k.Op == "ALL" || k.Op == "LARGER" && len(p.Text) > k.N || k.Op == "SMALLER" && len(p.Text) < k.N || slowFlag(k, p)
}

// slowFlag tells of the keys that are about flags.
func slowFlag(k api.Key, p place) bool {
	for name := range slowSystem {
		great := strings.ToUpper(name[1:])
		if k.Op == great {
			return slowHas(p.Flags, name)
		}
		if k.Op == "UN"+great {
			return !slowHas(p.Flags, name)
		}
	}
	return k.Op == "KEYWORD" && slowHas(p.Flags, k.Text) || k.Op == "UNKEYWORD" && !slowHas(p.Flags, k.Text)
}
