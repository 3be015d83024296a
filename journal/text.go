package journal

import (
	"bytes"

	"estuary/api"
	"estuary/replica"
	"estuary/wire"
)

const (
	headKind   = 1
	recordKind = 2
	magic      = "ESTJ" // the bytes of the head
)

// head is the frame with which a store's file begins.
func head() []byte {
	b, _ := wire.Seal(headKind, []byte(magic))
	return b
}

// recordsOf are the frames of updates' bytes, one behind the other.
func recordsOf(l [][]byte) []byte {
	var all []byte
	for _, row := range l {
		b, _ := wire.Seal(recordKind, row)
		all = append(all, b...)
	}
	return all
}

// text is what a store's file says.
type text struct {
	replica *replica.Replica // has received the records, and nothing else
	records [][]byte
	size    int // how many bytes of the file say that; those behind them are lost
}

// textOf reads a file for a replica with right options; false, if it is corrupt.
func textOf(b []byte, o api.Options) (text, bool) {
	x := text{replica: received(nil, o)}
	h := head()
	if !bytes.HasPrefix(b, h) {
		return x, len(b) <= len(h)
	}
	x.size = len(h)
	x.readOn(b)
	if len(x.replica.Waiting()) > 0 {
		// The last one that was received waits: it is lost, and must not be there.
		x.replica = received(x.records, o)
	}
	return x, true
}

// readOn reads records up to the first that is none, or is not accepted.
func (x *text) readOn(b []byte) {
	for {
		kind, row, size, why := wire.Open(b[x.size:])
		if why != api.OK || kind != recordKind || x.replica.Receive(row).Why != api.OK {
			return
		}
		x.records = append(x.records, row)
		x.size += size
	}
}

// received is a replica with right options that has received updates' bytes.
func received(l [][]byte, o api.Options) *replica.Replica {
	r, _ := replica.New(o)
	for _, b := range l {
		r.Receive(b)
	}
	return r
}
