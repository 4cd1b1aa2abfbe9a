package mail

import "strconv"

// What is kept, by the first byte of its key. Behind that stands what it is of; numbers and records are as num and numbers tell them.
const (
	kindBox   = "b" // a user, / and a mailbox's number: its numbers
	kindCount = "c" // what is counted: how many of that were made
	kindHeld  = "h" // a text's number: how many messages hold it
	kindMail  = "m" // a mailbox's number and a UID: a message's numbers, and its flags
	kindName  = "n" // a user, / and a name: the number of the mailbox
	kindUse   = "q" // a user: how many bytes that one uses
	kindSub   = "s" // a user, / and a name that is subscribed to: nothing
	kindText  = "t" // a text's number: the text
	kindUser  = "u" // a user: the limit, and the password
)

// What is counted.
const (
	boxes      = "box"
	texts      = "text"
	validities = "validity"
)

// slash ends a user's name, in which it can't stand.
const slash = "/"

func userKey(user string) string { return kindUser + user }

func useKey(user string) string { return kindUse + user }

func nameKey(user, name string) string { return kindName + user + slash + name }

func subKey(user, name string) string { return kindSub + user + slash + name }

func boxKey(user string, id int) string { return kindBox + user + slash + num(id) }

// mailsKey is what the keys of all messages of a mailbox begin with.
func mailsKey(id int) string { return kindMail + num(id) }

func mailKey(id, uid int) string { return mailsKey(id) + num(uid) }

func textKey(text int) string { return kindText + num(text) }

func heldKey(text int) string { return kindHeld + num(text) }

// num is a number as a part of a key: a letter that tells how many digits there are, and these; so that keys stand in the order of their numbers, and one number ends ahead of the next.
func num(n int) string {
	digits := strconv.Itoa(n)
	return string(byte('a'+len(digits)-1)) + digits
}

// unnum is the number that num tells so; false, if it tells none so, or one below 1.
func unnum(s string) (int, bool) {
	if s == "" {
		return 0, false
	}
	n, ok := number(s[1:])
	return n, ok && n >= 1 && s == num(n)
}

// number is a number as it is told in decimal, in one way alone.
func number(s string) (int, bool) {
	n, err := strconv.Atoi(s)
	return n, err == nil && strconv.Itoa(n) == s
}
