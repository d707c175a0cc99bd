package ar

import (
	"bytes"
	"strconv"
	"strings"

	"quoin/api"
)

// queue is what is left of a file's bytes: those that are taken are gone from it.
type queue []byte

// take is the next many bytes, if so many are left.
func (q *queue) take(many int) ([]byte, bool) {
	if many < 0 || many > len(*q) {
		return nil, false
	}
	b := (*q)[:many]
	*q = (*q)[many:]
	return b, true
}

// text is the next field of so many bytes, without the blanks behind it; it is empty, if so many are not left.
func (q *queue) text(size int) string {
	b, _ := q.take(size)
	return strings.TrimRight(string(b), " ")
}

// part is the next one: its head's name, and its bytes.
func (q *queue) part() (string, []byte, bool) {
	b, ok := q.take(headSize)
	if !ok {
		return "", nil, false
	}
	h := queue(b)
	name := h.text(nameSize)
	// What is between is not looked at, since it is alike in all heads.
	h.take(timeSize + 2*ownerSize + modeSize)
	many, err := strconv.Atoi(h.text(manySize))
	if err != nil {
		return "", nil, false
	}
	data, ok := q.take(many)
	if many%2 > 0 {
		q.take(1)
	}
	return name, data, ok
}

// membersOf are those whose file b may be.
func membersOf(b []byte) ([]api.Member, bool) {
	q := queue(b)
	if _, ok := q.take(len(sign)); !ok {
		return nil, false
	}
	var l []api.Member
	var longs []byte
	for len(q) > 0 {
		head, data, ok := q.part()
		if !ok {
			return nil, false
		}
		switch head {
		case indexHead:
			// What the index tells, the members do.
		case longsHead:
			longs = data
		default:
			name, ok := ownName(head, longs)
			if !ok {
				return nil, false
			}
			l = append(l, api.Member{Name: name, Data: bytes.Clone(data)})
		}
	}
	return l, true
}

// ownName is that of a member whose head has the name head.
func ownName(head string, longs []byte) (string, bool) {
	tens, long := strings.CutPrefix(head, ends)
	if !long {
		return strings.CutSuffix(head, ends)
	}
	at, err := strconv.Atoi(tens)
	if err != nil || at < 0 || at > len(longs) {
		return "", false
	}
	name, _, ok := bytes.Cut(longs[at:], []byte(longEnds))
	return string(name), ok
}
