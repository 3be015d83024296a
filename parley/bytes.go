package parley

import (
	"slices"

	"estuary/api"
	"estuary/bloom"
	"estuary/wire"
)

// mayBe tells whether a message is one that a peer could tell, whatever its updates say.
func mayBe(m api.Message) bool {
	long := func(b []byte) bool { return len(b) > api.MaxUpdate }
	return mayList(m.Heads) && mayList(m.Need) && mayList(m.Since) && mayFilter(m.Filter) &&
		len(m.Updates) <= api.MaxSend && !slices.ContainsFunc(m.Updates, long)
}

// mayList tells whether hashes rise, and are not too many.
func mayList(l []api.Hash) bool {
	if len(l) > api.MaxUpdates {
		return false
	}
	for i := range l {
		if i > 0 && compare(l[i-1], l[i]) >= 0 {
			return false
		}
	}
	return true
}

// mayFilter tells whether bytes are none, or a filter's.
func mayFilter(b []byte) bool {
	_, why, _ := bloom.Decode(b)
	return len(b) == 0 || why == api.OK
}

// Encode writes a message as bytes.
func Encode(m api.Message) ([]byte, api.Errno) {
	if !mayBe(m) {
		return nil, api.ErrTalk
	}
	var w wire.Writer
	w.Hashes(m.Heads)
	w.Hashes(m.Need)
	w.Hashes(m.Since)
	w.Raw(m.Filter)
	w.Uint(uint64(len(m.Updates)))
	for _, b := range m.Updates {
		w.Raw(b)
	}
	return w.Done()
}

// Decode reads a message; the place of the fault, where there is one.
func Decode(b []byte) (api.Message, api.Errno, int) {
	r := wire.NewReader(b)
	m := api.Message{
		Heads: r.Hashes(api.MaxUpdates),
		Need:  r.Hashes(api.MaxUpdates),
		Since: r.Hashes(api.MaxUpdates),
	}
	at := r.At()
	m.Filter = r.Raw(api.MaxFilter)
	if !mayFilter(m.Filter) {
		r.Fail(api.ErrTalk, at)
	}
	for range r.Uint(api.MaxSend) {
		m.Updates = append(m.Updates, r.Raw(api.MaxUpdate))
	}
	if why, at := r.Done(); why != api.OK {
		return api.Message{}, why, at
	}
	return m, api.OK, 0
}
