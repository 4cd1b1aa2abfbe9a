package date

import (
	"testing"

	"haversack/api"
)

// A reader's own fault is told as an error, and the date as far as it was read is not; another panic goes on.
func TestFaults(t *testing.T) {
	d, e := read("17", func(r *reader) {
		r.date = api.Date{Year: 1996, Month: 7, Day: r.number(2, 2)}
		stop()
	})
	if d != (api.Date{}) || e != api.ErrForm {
		t.Fatalf("a fault: %v, %v", d, e)
	}
	for _, other := range []any{"another", 11, api.ErrForm} {
		if caught := panicOf(func() { read("", func(*reader) { panic(other) }) }); caught != other {
			t.Fatalf("the panic %v became %v", other, caught)
		}
	}
}

func panicOf(do func()) (caught any) {
	defer func() { caught = recover() }()
	do()
	return nil
}
