package elfr

import (
	"quoin/api"
	"quoin/le"
	"quoin/sect"
	"quoin/shape"
	"quoin/strtab"
)

// Where the file's head tells the heads' place, and how many there are, and how many bytes each of these numbers has.
const (
	headsPlaceAt   = 40
	headsPlaceSize = 8
	headsManyAt    = 60
	headsManySize  = 2
)

// reader is one of a file. It keeps the first thing that goes wrong, and behind that its calls do nothing, so that who calls them need not ask each time.
type reader struct {
	file []byte
	e    api.Errno
}

// part is one of a file: its head, and its bytes, if it has some there.
type part struct {
	head  api.Head
	bytes []byte
}

// note keeps e, if nothing has gone wrong ahead of it.
func (r *reader) note(e api.Errno) {
	if r.e == api.OK {
		r.e = e
	}
}

// cut is the size bytes of b from at on, without room behind them, so that no part reaches into the next one.
func (r *reader) cut(b []byte, at, size int) []byte {
	if r.e != api.OK {
		return nil
	}
	// The size is held against what is behind at, since a sum of both might wrap round.
	if at < 0 || size < 0 || size > len(b)-at {
		r.note(api.ErrBad)
		return nil
	}
	return b[at : at+size : at+size]
}

// entries are the bytes of b, cut into size each. It goes wrong, if some are left.
func (r *reader) entries(b []byte, size int) [][]byte {
	var all [][]byte
	for at := 0; at < len(b); at += size {
		all = append(all, r.cut(b, at, size))
	}
	return all
}

// number is that of the size bytes of b from at on.
func (r *reader) number(b []byte, at, size int) int {
	if r.e != api.OK {
		return 0
	}
	n, e := le.Get(b, at, size)
	r.note(e)
	return n
}

// name is the one at a place of table.
func (r *reader) name(table []byte, at int) string {
	if r.e != api.OK {
		return ""
	}
	name, e := strtab.Get(table, at)
	r.note(e)
	return name
}

// head is the one whose bytes b are.
func (r *reader) head(b []byte) api.Head {
	if r.e != api.OK {
		return api.Head{}
	}
	h, e := sect.Read(b)
	r.note(e)
	return h
}

// parts are the file's, one of each head.
func (r *reader) parts() []part {
	at := r.number(r.file, headsPlaceAt, headsPlaceSize)
	many := r.number(r.file, headsManyAt, headsManySize)
	var all []part
	reached := 0
	for _, b := range r.entries(r.cut(r.file, at, many*shape.Head), shape.Head) {
		p := part{head: r.head(b)}
		// No byte is in two parts, so that however many there are, each is read once.
		if p.head.Offset < reached {
			r.note(api.ErrBad)
		}
		if p.head.Type != shape.TypeNone {
			p.bytes = r.cut(r.file, p.head.Offset, p.head.Size)
		}
		reached = p.head.Offset + len(p.bytes)
		all = append(all, p)
	}
	return all
}
