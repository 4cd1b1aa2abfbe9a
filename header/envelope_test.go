package header_test

import (
	"math/rand"
	"reflect"
	"slices"
	"strings"
	"testing"

	"haversack/api"
	"haversack/header"
)

func sameEnvelope(a, b api.Envelope) bool {
	return slices.Equal(a.Date, b.Date) && slices.Equal(a.Subject, b.Subject) &&
		slices.Equal(a.From, b.From) && slices.Equal(a.Sender, b.Sender) && slices.Equal(a.ReplyTo, b.ReplyTo) &&
		slices.Equal(a.To, b.To) && slices.Equal(a.Cc, b.Cc) && slices.Equal(a.Bcc, b.Bcc) &&
		slices.Equal(a.InReplyTo, b.InReplyTo) && slices.Equal(a.ID, b.ID)
}

func wantEnvelope(t *testing.T, l []api.Field, wanted api.Envelope) {
	t.Helper()
	if got := header.Envelope(l); !sameEnvelope(got, wanted) {
		t.Fatalf("Envelope(%q) = %q; want %q", l, got, wanted)
	}
}

// whole is a header with all fields that an envelope tells of, and some others.
const whole = "Received: x\r\n" +
	"Date: Wed, 17 Jul 1996 02:44:25 -0700\r\n" +
	"Subject: a\r\n b\r\n" +
	"From: F <f@x>\r\n" +
	"Sender: S <s@x>\r\n" +
	"Reply-To: R <r@x>,\r\n r2@x\r\n" +
	"To: t@x\r\n" +
	"Cc: c@x, \"C, D\" <d@x>\r\n" +
	"Bcc: b@x (remark)\r\n" +
	"In-Reply-To: <1@x>\r\n" +
	"Message-ID: <2@x>\r\n" +
	"Comments: y\r\n"

func wholeEnvelope() api.Envelope {
	return api.Envelope{
		Date:      []string{"Wed, 17 Jul 1996 02:44:25 -0700"},
		Subject:   []string{"a b"},
		From:      []api.Address{at("F", "f", "x")},
		Sender:    []api.Address{at("S", "s", "x")},
		ReplyTo:   []api.Address{at("R", "r", "x"), at("", "r2", "x")},
		To:        []api.Address{at("", "t", "x")},
		Cc:        []api.Address{at("", "c", "x"), at("C, D", "d", "x")},
		Bcc:       []api.Address{at("", "b", "x")},
		InReplyTo: []string{"<1@x>"},
		ID:        []string{"<2@x>"},
	}
}

// P10.4

func TestEnvelope(t *testing.T) {
	wantEnvelope(t, nil, api.Envelope{})
	wantEnvelope(t, []api.Field{}, api.Envelope{})
	wantEnvelope(t, []api.Field{{Name: "", Value: "x"}, {Name: "Other", Value: "x"}}, api.Envelope{})
	wantEnvelope(t, header.Fields(whole), wholeEnvelope())
	backwards := header.Fields(whole)
	slices.Reverse(backwards)
	wantEnvelope(t, backwards, wholeEnvelope())
	for _, letters := range []func(string) string{strings.ToLower, strings.ToUpper} {
		l := header.Fields(whole)
		for i := range l {
			l[i].Name = letters(l[i].Name)
		}
		wantEnvelope(t, l, wholeEnvelope())
	}
}

// Without each of the fields, in turn: just what it tells is gone.
func TestEnvelopeWithoutAField(t *testing.T) {
	from := []api.Address{at("F", "f", "x")}
	for name, without := range map[string]func(*api.Envelope){
		"Received":    func(*api.Envelope) {},
		"Date":        func(e *api.Envelope) { e.Date = nil },
		"Subject":     func(e *api.Envelope) { e.Subject = nil },
		"From":        func(e *api.Envelope) { e.From = nil },
		"Sender":      func(e *api.Envelope) { e.Sender = from },
		"Reply-To":    func(e *api.Envelope) { e.ReplyTo = from },
		"To":          func(e *api.Envelope) { e.To = nil },
		"Cc":          func(e *api.Envelope) { e.Cc = nil },
		"Bcc":         func(e *api.Envelope) { e.Bcc = nil },
		"In-Reply-To": func(e *api.Envelope) { e.InReplyTo = nil },
		"Message-ID":  func(e *api.Envelope) { e.ID = nil },
	} {
		l := slices.DeleteFunc(header.Fields(whole), func(f api.Field) bool { return f.Name == name })
		wanted := wholeEnvelope()
		without(&wanted)
		wantEnvelope(t, l, wanted)
		l = append(l, api.Field{Name: name + " ", Value: "y"}, api.Field{Name: "X" + name, Value: "y"}, api.Field{Name: strings.ReplaceAll(name, "-", "") + "s", Value: "y"})
		wantEnvelope(t, l, wanted)
	}
}

// The first field of a name counts, whatever it has.
func TestEnvelopeWithAFieldTwice(t *testing.T) {
	for _, name := range []string{"Date", "Subject", "From", "Sender", "Reply-To", "To", "Cc", "Bcc", "In-Reply-To", "Message-ID"} {
		l := append(header.Fields(whole), api.Field{Name: strings.ToLower(name), Value: "other@y"})
		wantEnvelope(t, l, wholeEnvelope())
	}
	l := []api.Field{
		{Name: "subject", Value: " \r\n"}, {Name: "Subject", Value: "x"},
		{Name: "date", Value: ""}, {Name: "DATE", Value: "x"},
		{Name: "to", Value: " (x), "}, {Name: "To", Value: "x@y"},
		{Name: "from", Value: ""}, {Name: "From", Value: "x@y"},
		{Name: "sender", Value: "<>"}, {Name: "Sender", Value: "x@y"},
		{Name: "reply-to", Value: ""}, {Name: "Reply-To", Value: "x@y"},
	}
	wantEnvelope(t, l, api.Envelope{Subject: []string{""}, Date: []string{""}})
}

func TestSenderAndReplyToOfFrom(t *testing.T) {
	from := []api.Address{at("A", "a", "b"), at("", "c", "d")}
	sender := []api.Address{at("", "s", "")}
	f := func(name, value string) api.Field { return api.Field{Name: name, Value: value} }
	for _, c := range []struct {
		why    string
		l      []api.Field
		wanted api.Envelope
	}{
		{"From alone", []api.Field{f("From", "A <a@b>, c@d")}, api.Envelope{From: from, Sender: from, ReplyTo: from}},
		{"a Sender without addresses", []api.Field{f("From", "A <a@b>, c@d"), f("Sender", " (x),")}, api.Envelope{From: from, Sender: from, ReplyTo: from}},
		{"a Sender without addresses, ahead of From", []api.Field{f("Sender", ""), f("From", "A <a@b>, c@d")}, api.Envelope{From: from, Sender: from, ReplyTo: from}},
		{"a Reply-To without addresses", []api.Field{f("Reply-To", "<@>"), f("From", "A <a@b>, c@d"), f("Sender", "s")}, api.Envelope{From: from, Sender: sender, ReplyTo: from}},
		{"two Senders, the first without addresses", []api.Field{f("From", "A <a@b>, c@d"), f("Sender", ""), f("Sender", "s")}, api.Envelope{From: from, Sender: from, ReplyTo: from}},
		{"Sender alone", []api.Field{f("Sender", "s")}, api.Envelope{Sender: sender}},
		{"Reply-To alone", []api.Field{f("Reply-To", "s")}, api.Envelope{ReplyTo: sender}},
		{"From without addresses", []api.Field{f("From", ","), f("Sender", "s")}, api.Envelope{Sender: sender}},
		{"From without addresses, alone", []api.Field{f("From", "()")}, api.Envelope{}},
		{"two Froms", []api.Field{f("FROM", "s"), f("From", "A <a@b>")}, api.Envelope{From: sender, Sender: sender, ReplyTo: sender}},
		{"two Froms, the first without addresses", []api.Field{f("From", ""), f("From", "A <a@b>")}, api.Envelope{}},
	} {
		t.Log(c.why)
		wantEnvelope(t, c.l, c.wanted)
	}
}

// A text is told unfolded; addresses are those of the value as it stands in the field.
func TestEnvelopeOfFoldedValues(t *testing.T) {
	l := header.Fields("Subject:\r\n a\r\n\tb \r\nTo: Ann\r\n Bee <a@b>,\r\n\tc@d\r\n")
	wantEnvelope(t, l, api.Envelope{
		Subject: []string{"a\tb"},
		To:      []api.Address{at("Ann\r\n Bee", "a", "b"), at("", "c", "d")},
	})
	wantEnvelope(t, l, api.Envelope{Subject: header.Get(l, "subject"), To: header.Addresses(l[1].Value)})
}

func slowEnvelope(l []api.Field) api.Envelope {
	texts := map[string][]string{}
	lists := map[string][]api.Address{}
	for i := len(l) - 1; i >= 0; i-- {
		name := strings.ToLower(l[i].Name)
		texts[name] = []string{slowUnfold(l[i].Value)}
		lists[name] = slowAddresses(l[i].Value)
	}
	for _, name := range []string{"sender", "reply-to"} {
		if len(lists[name]) == 0 {
			lists[name] = lists["from"]
		}
	}
	return api.Envelope{
		Date: texts["date"], Subject: texts["subject"],
		From: lists["from"], Sender: lists["sender"], ReplyTo: lists["reply-to"],
		To: lists["to"], Cc: lists["cc"], Bcc: lists["bcc"],
		InReplyTo: texts["in-reply-to"], ID: texts["message-id"],
	}
}

// Lists by chance; what is handed in stays as it was.
func TestEnvelopesByChance(t *testing.T) {
	r := rand.New(rand.NewSource(4))
	names := []string{"Date", "SUBJECT", "From", "from", "Sender", "sendeR", "Reply-To", "reply-to", "to", "CC", "bcc", "In-Reply-To", "message-id", "Message-Id", "Other", ""}
	for range 50000 {
		var l []api.Field
		for range r.Intn(12) {
			l = append(l, api.Field{Name: names[r.Intn(len(names))], Value: chance(r, 6, "a", " ", "@", ",", "<b>", "(c)", "\"", "\r\n ", "d@e")})
		}
		was := slices.Clone(l)
		wantEnvelope(t, l, slowEnvelope(l))
		wantEnvelope(t, l, slowEnvelope(l))
		if !slices.Equal(l, was) {
			t.Fatalf("the list is %q; it was %q", l, was)
		}
	}
}

// No two lists of an envelope share memory, though three of them tell the same.
func TestListsOfAnEnvelope(t *testing.T) {
	l := []api.Field{{Name: "From", Value: "a@b, c@d"}}
	e := header.Envelope(l)
	lists := []*[]api.Address{&e.From, &e.Sender, &e.ReplyTo}
	for i, list := range lists {
		(*list)[0].Box = string(rune('0' + i))
		*list = append((*list)[:1], at("", string(rune('5'+i)), ""))
	}
	for i, list := range lists {
		wanted := []api.Address{at("", string(rune('0'+i)), "b"), at("", string(rune('5'+i)), "")}
		if !slices.Equal(*list, wanted) {
			t.Fatalf("list %d is %q; want %q", i, *list, wanted)
		}
	}
	from := []api.Address{at("", "a", "b"), at("", "c", "d")}
	wantEnvelope(t, l, api.Envelope{From: from, Sender: from, ReplyTo: from})
}

// An envelope of no fields is its zero value but for lists, which may be empty.
func TestEmptyEnvelope(t *testing.T) {
	v := reflect.ValueOf(header.Envelope(nil))
	for i := range v.NumField() {
		if v.Field(i).Len() != 0 {
			t.Fatalf("%s is %v", v.Type().Field(i).Name, v.Field(i))
		}
	}
}

// P1

func TestLongEnvelope(t *testing.T) {
	const many = 300000
	l := make([]api.Field, many)
	for i := range l {
		l[i] = api.Field{Name: "Received", Value: " x"}
	}
	l = append(l, api.Field{Name: "From", Value: strings.Repeat("a@b,", many)}, api.Field{Name: "Subject", Value: strings.Repeat(" \r\n", many)})
	e := header.Envelope(l)
	if len(e.From) != many || len(e.Sender) != many || len(e.ReplyTo) != many || !slices.Equal(e.Subject, []string{""}) {
		t.Fatalf("there are %d, %d and %d addresses, and %d texts", len(e.From), len(e.Sender), len(e.ReplyTo), len(e.Subject))
	}
}
