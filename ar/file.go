package ar

import (
	"slices"
	"strconv"
	"strings"

	"quoin/api"
	"quoin/elfr"
	"quoin/le"
)

// The heads' names of the parts that are no members: the index, and the long names.
const (
	indexHead = "/"
	longsHead = "//"
)

// A member's head has no room for a longer name, which stands among the long ones, with this behind it.
const (
	mostShort = 15
	longEnds  = ends + "\n"
)

// How many bytes a head has, and each of its fields; headEnds is the last one.
const (
	headSize  = 60
	nameSize  = 16
	timeSize  = 12
	ownerSize = 6
	modeSize  = 8
	manySize  = 10
	headEnds  = "`\n"
)

// What stands in the heads' fields that are alike in all of them.
const (
	noTime  = "0"
	noOwner = "0"
	mode    = "644"
)

// filler is behind an odd number of bytes, so that each head is at an even place.
const filler = '\n'

// numberSize is how many bytes each number of the index has.
const numberSize = 4

// archive is one that has a file: its members, their heads' names, the names that they define, and the bytes of the long names.
type archive struct {
	members []api.Member
	heads   []string
	index   []api.Named
	longs   []byte
}

// archiveOf is that of the members l, if they may be, and their file, too.
func archiveOf(l []api.Member) (archive, api.Errno) {
	if e := check(l); e != api.OK {
		return archive{}, e
	}
	a := archive{members: l}
	for i, m := range l {
		a.heads = append(a.heads, a.headName(m.Name))
		a.index = append(a.index, namesOf(m.Data, i)...)
	}
	if _, size := a.places(); size > api.MaxFile {
		return archive{}, api.ErrFull
	}
	return a, api.OK
}

// headName is what a member's head has for its name. A long one is put behind the other long ones.
func (a *archive) headName(name string) string {
	if len(name) <= mostShort {
		return name + ends
	}
	at := len(a.longs)
	a.longs = append(a.longs, name+longEnds...)
	return ends + strconv.Itoa(at)
}

// namesOf are those that data defines for others, if it is an object's file, each with the number of its member.
func namesOf(data []byte, member int) []api.Named {
	o, e := elfr.Read(data)
	if e != api.OK {
		return nil
	}
	var all []api.Named
	for _, s := range o.Symbols {
		if s.Bind != api.BindLocal && s.Where != api.Undefined {
			all = append(all, api.Named{Name: s.Name, At: member})
		}
	}
	return all
}

// places are those of the members' heads in the file, and how many bytes that has.
func (a *archive) places() ([]int, int) {
	at := len(sign)
	if len(a.index) > 0 {
		at += partSize(a.indexSize())
	}
	if len(a.longs) > 0 {
		at += partSize(len(a.longs))
	}
	var all []int
	for _, m := range a.members {
		all = append(all, at)
		at += partSize(len(m.Data))
	}
	return all, at
}

// partSize is how many bytes a part has: its head, so many of its own, and what fills up.
func partSize(many int) int {
	return headSize + many + many%2
}

// indexSize is how many bytes the index has.
func (a *archive) indexSize() int {
	size := numberSize
	for _, n := range a.index {
		size += numberSize + len(n.Name) + 1
	}
	return size
}

// file is that of a.
func (a *archive) file() []byte {
	places, size := a.places()
	b := make([]byte, 0, size)
	b = append(b, sign...)
	if len(a.index) > 0 {
		b = appendPart(b, indexHead, a.indexBytes(places))
	}
	if len(a.longs) > 0 {
		b = appendPart(b, longsHead, a.longs)
	}
	for i, m := range a.members {
		b = appendPart(b, a.heads[i], m.Data)
	}
	return b
}

// indexBytes are those of the index, the members' heads being at places.
func (a *archive) indexBytes(places []int) []byte {
	b := appendNumber(nil, len(a.index))
	for _, n := range a.index {
		b = appendNumber(b, places[n.At])
	}
	for _, n := range a.index {
		b = append(b, n.Name...)
		b = append(b, 0)
	}
	return b
}

// appendNumber puts behind b one of the index, n being that of a file's byte, so that it has room.
func appendNumber(b []byte, n int) []byte {
	number, _ := le.Put(n, numberSize)
	// Here, unlike all else in this house, the highest byte stands first.
	slices.Reverse(number)
	return append(b, number...)
}

// appendPart puts behind b a part of that head's name and these bytes.
func appendPart(b []byte, name string, data []byte) []byte {
	b = append(b, head(name, len(data))...)
	b = append(b, data...)
	if len(data)%2 > 0 {
		b = append(b, filler)
	}
	return b
}

// head is that of a part of that head's name and so many bytes.
func head(name string, many int) string {
	return filled(name, nameSize) + filled(noTime, timeSize) + filled(noOwner, ownerSize) + filled(noOwner, ownerSize) +
		filled(mode, modeSize) + filled(strconv.Itoa(many), manySize) + headEnds
}

// filled is text with as many blanks behind it as it lacks of size bytes.
func filled(text string, size int) string {
	return text + strings.Repeat(" ", size-len(text))
}
