package elfw

import (
	"slices"

	"quoin/api"
	"quoin/le"
	"quoin/rela"
	"quoin/sect"
	"quoin/shape"
	"quoin/strtab"
	"quoin/sym"
)

const (
	headsAlign = 8
	// Of symbols and relocations alike.
	entryAlign = 8
)

// The flags of heads beside those of a kind.
const (
	flagInfo  = 64
	flagGroup = 512
)

// kindFlags are those of the kinds of sections: 1 is for what is written, 2 for what is there when it runs, 4 for instructions.
var kindFlags = [...]int{api.KindText: 2 + 4, api.KindRodata: 2, api.KindData: 1 + 2, api.KindBss: 1 + 2}

// file is one that is gathered: its bytes so far, and the heads of its parts, each with its name.
type file struct {
	bytes []byte
	heads []api.Head
	names []string
	// symbolsAt is the number of the symbols' head; their names' one is the next. Heads ahead of it tell it.
	symbolsAt int
	// symbolNames is the table of these, which stands behind the symbols, though they tell places in it.
	symbolNames []byte
	// e is what went wrong. With an object that may be, nothing does.
	e api.Errno
}

// gather is the file of o, which may be.
func gather(o api.Object) *file {
	f := &file{
		bytes:     make([]byte, shape.FileHead),
		heads:     []api.Head{{}},
		names:     []string{""},
		symbolsAt: 1 + len(o.Sections) + len(o.Groups) + manyWithRelas(o.Relas),
	}
	for _, put := range []func(f *file, o api.Object){
		(*file).putSections,
		(*file).putGroups,
		(*file).putRelas,
		(*file).putSymbols,
		(*file).putSymbolNames,
		(*file).putHeadNames,
		(*file).putHeads,
	} {
		put(f, o)
	}
	return f
}

// manyWithRelas is how many sections relas, standing by section, are of.
func manyWithRelas(relas []api.Rela) int {
	many, last := 0, 0
	for _, r := range relas {
		if r.Section != last {
			many++
			last = r.Section
		}
	}
	return many
}

// add appends what a layer below made, unless that went wrong.
func (f *file) add(b []byte, e api.Errno) {
	if e != api.OK {
		f.e = e
	}
	f.bytes = append(f.bytes, b...)
}

// fill appends as few noughts as make the place that is reached a multiple of multiple.
func (f *file) fill(multiple int) {
	for len(f.bytes)%multiple > 0 {
		f.bytes = append(f.bytes, 0)
	}
}

// begin begins a part that has the head h, and notes where.
func (f *file) begin(name string, h api.Head) {
	f.fill(h.Align)
	h.Offset = len(f.bytes)
	f.heads = append(f.heads, h)
	f.names = append(f.names, name)
}

// put appends bytes to the part that was begun last, and notes how many.
func (f *file) put(b []byte, e api.Errno) {
	f.add(b, e)
	f.heads[len(f.heads)-1].Size += len(b)
}

func (f *file) putSections(o api.Object) {
	for i, s := range o.Sections {
		kind, e := sect.Kind(s.Name)
		if e != api.OK {
			f.e = e
			return
		}
		// Noughts that have no bytes are told by the Size that the part begins with; it is 0 of all others.
		h := api.Head{Type: shape.TypeBytes, Flags: kindFlags[kind], Size: s.Size, Align: s.Align}
		if kind == api.KindBss {
			h.Type = shape.TypeNone
		}
		if isInGroup(i+1, o.Groups) {
			h.Flags += flagGroup
		}
		f.begin(s.Name, h)
		f.put(s.Data, api.OK)
	}
}

// isInGroup tells whether the section number is in one of groups.
func isInGroup(number int, groups []api.Group) bool {
	return slices.ContainsFunc(groups, func(g api.Group) bool {
		return slices.Contains(g.Sections, number)
	})
}

func (f *file) putGroups(o api.Object) {
	for _, g := range o.Groups {
		f.begin(shape.GroupName+g.Sign, api.Head{Type: shape.TypeGroup, Link: f.symbolsAt, Align: shape.Number, Entry: shape.Number})
		// That its sections are there once.
		f.put(le.Put(1, shape.Number))
		for _, number := range g.Sections {
			f.put(le.Put(number, shape.Number))
		}
	}
}

func (f *file) putRelas(o api.Object) {
	last := 0
	for _, r := range o.Relas {
		// They stand by section, so that another one's begin a part.
		if r.Section != last {
			name := ".rela" + o.Sections[r.Section-1].Name
			f.begin(name, api.Head{Type: shape.TypeRelas, Flags: flagInfo, Link: f.symbolsAt, Info: r.Section, Align: entryAlign, Entry: shape.Entry})
			last = r.Section
		}
		f.put(rela.Write(r))
	}
}

func (f *file) putSymbols(o api.Object) {
	var names []string
	locals := 0
	for _, s := range o.Symbols {
		names = append(names, s.Name)
		if s.Bind == api.BindLocal {
			locals++
		}
	}
	table, places, e := strtab.Build(names)
	if e != api.OK {
		f.e = e
		return
	}
	f.symbolNames = table
	f.begin(".symtab", api.Head{Type: shape.TypeSymbols, Link: f.symbolsAt + 1, Info: locals + 1, Align: entryAlign, Entry: shape.Entry})
	// The first one is none.
	f.put(make([]byte, shape.Entry), api.OK)
	for i, s := range o.Symbols {
		f.put(sym.Write(s, places[i]))
	}
}

func (f *file) putSymbolNames(api.Object) {
	f.begin(".strtab", api.Head{Type: shape.TypeNames, Align: 1})
	f.put(f.symbolNames, api.OK)
}

// putHeadNames puts the table of the heads' names, its own among them.
func (f *file) putHeadNames(api.Object) {
	f.begin(".shstrtab", api.Head{Type: shape.TypeNames, Align: 1})
	table, places, e := strtab.Build(f.names)
	f.put(table, e)
	for i, at := range places {
		f.heads[i].Name = at
	}
}

// putHeads puts the heads, and, now that their place is known, the file's own.
func (f *file) putHeads(api.Object) {
	f.fill(headsAlign)
	at := len(f.bytes)
	for _, h := range f.heads {
		f.add(sect.Write(h))
	}
	copy(f.bytes, f.fileHead(at))
}

// fileHead is the file's head, the heads being at the place at.
func (f *file) fileHead(at int) []byte {
	b := make([]byte, 0, shape.FileHead)
	b = append(b, shape.Sign...)
	// 64 bits, the lowest byte first, and the version.
	b = append(b, 2, 1, 1, 0)
	b = append(b, make([]byte, 8)...)
	many := len(f.heads)
	for _, field := range []struct{ number, size int }{
		// Type, machine, version.
		{1, 2}, {243, 2}, {1, 4},
		// Entry, and the places of programs' heads and of sections'.
		{0, 8}, {0, 8}, {at, 8},
		// Flags, and the sizes and numbers of the heads.
		{1, 4}, {shape.FileHead, 2}, {0, 2}, {0, 2}, {shape.Head, 2}, {many, 2}, {many - 1, 2},
	} {
		part, e := le.Put(field.number, field.size)
		if e != api.OK {
			f.e = e
		}
		b = append(b, part...)
	}
	return b
}
