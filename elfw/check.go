package elfw

import (
	"bytes"
	"slices"

	"quoin/api"
	"quoin/names"
	"quoin/rela"
	"quoin/sect"
	"quoin/sym"
)

// How many bytes each of the instructions has by which bytes are filled up.
const (
	longFill  = 4
	shortFill = 2
)

// haveSections tells whether o may have its sections.
func haveSections(o api.Object) bool {
	if len(o.Sections) > api.MaxSections {
		return false
	}
	for _, s := range o.Sections {
		if sect.Check(s) != api.OK {
			return false
		}
	}
	return true
}

// haveSymbols tells whether o, of sections that may be, may have its symbols.
func haveSymbols(o api.Object) bool {
	if len(o.Symbols) > api.MaxSymbols {
		return false
	}
	var others []string
	for _, s := range o.Symbols {
		if sym.Check(s, len(o.Sections)) != api.OK || !isWithin(s, o.Sections) {
			return false
		}
		if s.Bind != api.BindLocal {
			others = append(others, s.Name)
		} else if len(others) > 0 {
			return false
		}
	}
	return areDifferent(others)
}

// isWithin tells whether s, that may be, does not go beyond its section, if it is in one.
func isWithin(s api.Symbol, sections []api.Section) bool {
	return s.Where < 1 || s.Value+s.Size <= sizeOf(sections[s.Where-1])
}

// sizeOf is how many bytes s has, which may be, so that either Data or Size counts none.
func sizeOf(s api.Section) int {
	return len(s.Data) + s.Size
}

// areDifferent tells whether no two of texts are alike. It puts them in another order.
func areDifferent(texts []string) bool {
	many := len(texts)
	slices.Sort(texts)
	return len(slices.Compact(texts)) == many
}

// haveRelas tells whether o, of sections and symbols that may be, may have its relocations.
func haveRelas(o api.Object) bool {
	if len(o.Relas) > api.MaxRelas {
		return false
	}
	for i, r := range o.Relas {
		if rela.Check(r, o.Sections, len(o.Symbols)) != api.OK || !isFilledUp(r, o.Sections) {
			return false
		}
		if i > 0 && isAhead(r, o.Relas[i-1]) {
			return false
		}
	}
	return areApart(o.Relas)
}

// isAhead tells whether a has to stand ahead of b.
func isAhead(a, b api.Rela) bool {
	return a.Section < b.Section || a.Section == b.Section && a.Offset < b.Offset
}

// isFilledUp tells whether the bytes of r, that may be, are filled up, if it is an RAlign.
func isFilledUp(r api.Rela, sections []api.Section) bool {
	if r.Type != api.RAlign {
		return true
	}
	there := sections[r.Section-1].Data[r.Offset:endOf(r)]
	return bytes.Equal(there, filling(r.Addend))
}

// filling is the instructions that do nothing that fill up size bytes, an even number.
func filling(size int) []byte {
	var b []byte
	if size%longFill == shortFill {
		b = append(b, 1, 0)
	}
	for len(b) < size {
		b = append(b, 19, 0, 0, 0)
	}
	return b
}

// areApart tells whether no two of relas, each of which may be, and which stand in order, have a byte in common that they may not.
func areApart(relas []api.Rela) bool {
	for i, r := range relas {
		end := endOf(r)
		for _, other := range relas[i+1:] {
			if other.Section != r.Section || other.Offset >= end {
				// Nor has any one behind it a byte of r.
				break
			}
			if hasBytes(other) && !arePair(r, other) && !arePair(other, r) {
				return false
			}
		}
	}
	return true
}

// hasBytes tells whether r, that may be, has some.
func hasBytes(r api.Rela) bool {
	return endOf(r) > r.Offset
}

// arePair tells whether a adds to what b takes from.
func arePair(a, b api.Rela) bool {
	return isAdd(a.Type) && isSub(b.Type) && a.Offset == b.Offset && endOf(a) == endOf(b)
}

// endOf is the place behind the bytes of r, that may be.
func endOf(r api.Rela) int {
	if r.Type == api.RAlign {
		return r.Offset + r.Addend
	}
	size, e := rela.Field(r.Type)
	if e != api.OK {
		return r.Offset
	}
	return r.Offset + size
}

// isAdd tells whether kind is one of the RAdd.
func isAdd(kind uint8) bool {
	return kind >= api.RAdd8 && kind <= api.RAdd64
}

// isSub tells whether kind is one of the RSub.
func isSub(kind uint8) bool {
	return kind >= api.RSub8 && kind <= api.RSub64
}

// haveGroups tells whether o, of sections that may be, may have its groups.
func haveGroups(o api.Object) bool {
	if len(o.Groups) > api.MaxSections {
		return false
	}
	var signs []string
	// By the sections' numbers, which are from 1 on.
	var taken [api.MaxSections + 1]bool
	for _, g := range o.Groups {
		if !names.May(g.Sign) || !isRising(g.Sections, len(o.Sections)) {
			return false
		}
		for _, number := range g.Sections {
			if taken[number] {
				return false
			}
			taken[number] = true
		}
		signs = append(signs, g.Sign)
	}
	return areDifferent(signs)
}

// isRising tells whether numbers are some, rising, from 1 to most.
func isRising(numbers []int, most int) bool {
	last := 0
	for _, n := range numbers {
		if n <= last || n > most {
			return false
		}
		last = n
	}
	return len(numbers) > 0
}
