package date

import "haversack/api"

// reader has a text to read, and the date as far as it has been read.
type reader struct {
	rest
	date api.Date
}

// read is the right date that a text tells, which is read as is told. A panic that is no reader's fault is not taken for one.
func read(s string, as func(*reader)) (d api.Date, e api.Errno) {
	defer func() {
		caught := recover()
		if caught == nil {
			return
		}
		f, is := caught.(fault)
		if !is {
			panic(caught)
		}
		d, e = api.Date{}, f.why
	}()
	r := &reader{rest: rest{s}}
	as(r)
	r.end()
	if !Right(r.date) {
		stop()
	}
	return r.date, api.OK
}

// internal reads a text of Print, and others like it.
func (r *reader) internal() {
	r.blanks()
	r.day()
	r.gap()
	r.clock()
	r.gap()
	r.zone()
}

func (r *reader) mail() {
	r.blanks()
	r.weekday()
	r.date.Day = r.number(1, 2)
	r.gap()
	r.date.Month = r.month()
	r.gap()
	r.date.Year = r.number(4, 4)
	r.gap()
	r.clock()
	r.gap()
	r.zone()
	r.blanks()
}

func (r *reader) day() {
	r.date.Day = r.number(1, 2)
	r.need("-")
	r.date.Month = r.month()
	r.need("-")
	r.date.Year = r.number(4, 4)
}

func (r *reader) clock() {
	r.date.Hour = r.number(2, 2)
	r.need(":")
	r.date.Min = r.number(2, 2)
	if r.takes(":") {
		r.date.Sec = r.number(2, 2)
	}
}

// zone reads one by its sign, or by a name of Greenwich's.
func (r *reader) zone() {
	switch {
	case r.takes("+"):
		r.date.Zone = r.minutes()
	case r.takes("-"):
		r.date.Zone = -r.minutes()
	case r.takes("GMT"), r.takes("UT"):
		r.date.Zone = 0
	default:
		stop()
	}
}
