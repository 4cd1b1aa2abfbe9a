package txn

import (
	"haversack/api"
	"haversack/btree"
)

// Tx is a transaction: its snapshot, which is pinned while it is open, and what it has written and read. One that is open no more has no store.
type Tx struct {
	*btree.Tree
	store  *Store
	gen    int
	writes map[string]write
	reads  map[span]struct{} // a key that was read is a span of its own
	firm   bool
}

// Get is what it sees of a key.
func (t *Tx) Get(key string) (string, bool, api.Errno) {
	if e := t.ready(); e != api.OK {
		return "", false, e
	}
	if w, is := t.writes[key]; is {
		return w.value, w.there, api.OK
	}
	value, is, e := t.Tree.Get(key)
	if e != api.OK {
		return "", false, e
	}
	t.reads[only(key)] = struct{}{}
	return value, is, api.OK
}

// Range is what it sees from a key on, up to another one.
func (t *Tx) Range(from, to string, most int) ([]api.Pair, api.Errno) {
	if e := t.ready(); e != api.OK {
		return nil, e
	}
	most = min(most, api.MaxPairs)
	if most < 1 {
		return nil, api.OK
	}
	s := span{from, to}
	told, e := t.seen(s, most)
	if e != api.OK {
		return nil, e
	}
	if len(told) == most {
		s = s.upTo(told[most-1].Key)
	}
	t.reads[s] = struct{}{}
	return told, api.OK
}

// Put is that a key has a value.
func (t *Tx) Put(key, value string) api.Errno {
	if e := t.ready(); e != api.OK {
		return e
	}
	switch {
	case len(key) > api.MaxKey:
		return api.ErrArg
	case len(value) > api.MaxValue:
		return api.ErrLong
	}
	t.writes[key] = write{value, true}
	return api.OK
}

// Delete is that keys are not there.
func (t *Tx) Delete(keys ...string) api.Errno {
	if e := t.ready(); e != api.OK {
		return e
	}
	for _, key := range keys {
		if len(key) > api.MaxKey {
			return api.ErrArg
		}
	}
	for _, key := range keys {
		t.writes[key] = write{}
	}
	return api.OK
}

// Firm is that what it reads must hold when it is committed.
func (t *Tx) Firm() {
	if t.ready() == api.OK {
		t.firm = true
	}
}

// Commit makes it count. It ends ahead of laying its writes, so that pages that its snapshot alone still has are room for them.
func (t *Tx) Commit() api.Errno {
	if e := t.ready(); e != api.OK {
		return e
	}
	e := t.held()
	store, writes := t.store, t.writes
	t.end()
	if e != api.OK || len(writes) == 0 {
		return e
	}
	return store.commit(writes)
}

// Rollback ends it.
func (t *Tx) Rollback() {
	if t.ready() == api.OK {
		t.end()
	}
}

// ready tells why nothing can be done with it; one without a snapshot no call made.
func (t *Tx) ready() api.Errno {
	switch {
	case t == nil || t.Tree == nil:
		return api.ErrNil
	case t.store == nil:
		return api.ErrState
	}
	return api.OK
}

// end lets go of all but the snapshot, which tells an ended one from one that no call made.
func (t *Tx) end() {
	t.Unpin(t.gen)
	*t = Tx{Tree: t.Tree}
}

// held tells whether what was read still is so, where that matters. A conflict counts more than a page that can't be read, whichever is met first: so all is looked at. Power does not go meanwhile, since nothing is written: so what fails by it fails everywhere.
func (t *Tx) held() api.Errno {
	if len(t.writes) == 0 && !t.firm {
		return api.OK
	}
	worst := api.OK
	for s := range t.reads {
		same, e := s.alike(t.Tree, t.store.tree)
		switch {
		case e != api.OK:
			worst = blamed(e)
		case !same:
			return api.ErrConflict
		}
	}
	return worst
}
