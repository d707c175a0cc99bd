package elfr

import (
	"bytes"
	"strings"

	"quoin/api"
	"quoin/rela"
	"quoin/shape"
	"quoin/sym"
)

// Every file has a head that is none, ahead of all others, and, behind all others, those of the symbols, of their names, and of the heads' names.
const (
	headsAhead  = 1
	headsBehind = 3
)

// object is that of the file.
func (r *reader) object() api.Object {
	parts := r.parts()
	last := len(parts) - headsBehind
	if last < headsAhead {
		r.note(api.ErrBad)
		return api.Object{}
	}
	symbols, symbolNames, headNames := parts[last], parts[last+1], parts[last+2]
	var o api.Object
	for _, p := range parts[headsAhead:last] {
		r.take(&o, p, r.name(headNames.bytes, p.head.Name))
	}
	o.Symbols = r.symbols(symbols.bytes, symbolNames.bytes)
	return o
}

// take puts into o what p is, a part of that name.
func (r *reader) take(o *api.Object, p part, name string) {
	switch p.head.Type {
	case shape.TypeBytes, shape.TypeNone:
		o.Sections = append(o.Sections, sectionOf(p, name))
	case shape.TypeGroup:
		o.Groups = append(o.Groups, r.group(p, name))
	case shape.TypeRelas:
		o.Relas = append(o.Relas, r.relas(p)...)
	default:
		r.note(api.ErrBad)
	}
}

// sectionOf is the one that p is.
func sectionOf(p part, name string) api.Section {
	s := api.Section{Name: name, Align: p.head.Align, Data: bytes.Clone(p.bytes)}
	if p.head.Type == shape.TypeNone {
		s.Size = p.head.Size
	}
	return s
}

// group is the one that p is.
func (r *reader) group(p part, name string) api.Group {
	sign, ok := strings.CutPrefix(name, shape.GroupName)
	if !ok {
		r.note(api.ErrBad)
	}
	g := api.Group{Sign: sign}
	for i, b := range r.entries(p.bytes, shape.Number) {
		// The first number is no section's.
		if i > 0 {
			g.Sections = append(g.Sections, r.number(b, 0, shape.Number))
		}
	}
	return g
}

// relas are those that p is. Their section is told by its head.
func (r *reader) relas(p part) []api.Rela {
	var all []api.Rela
	for _, b := range r.entries(p.bytes, shape.Entry) {
		one := r.rela(b)
		one.Section = p.head.Info
		all = append(all, one)
	}
	return all
}

// rela is the one whose bytes b are, without its section.
func (r *reader) rela(b []byte) api.Rela {
	if r.e != api.OK {
		return api.Rela{}
	}
	one, e := rela.Read(b)
	r.note(e)
	return one
}

// symbols are those whose bytes b are, their names being in table.
func (r *reader) symbols(b, table []byte) []api.Symbol {
	var all []api.Symbol
	for i, entry := range r.entries(b, shape.Entry) {
		// The first one is none.
		if i > 0 {
			all = append(all, r.symbol(entry, table))
		}
	}
	return all
}

// symbol is the one whose bytes b are, its name being in table.
func (r *reader) symbol(b, table []byte) api.Symbol {
	if r.e != api.OK {
		return api.Symbol{}
	}
	s, at, e := sym.Read(b)
	r.note(e)
	s.Name = r.name(table, at)
	return s
}
