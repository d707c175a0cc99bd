package elfr_test

import (
	"bytes"
	"debug/elf"
	"encoding/binary"
	"slices"
	"strings"
	"testing"

	"quoin/api"
	"quoin/elfr"
	"quoin/elfw"
)

// packed are the bytes of the library's own structures.
func packed(what any) []byte {
	b, err := binary.Append(nil, binary.LittleEndian, what)
	if err != nil {
		panic(err)
	}
	return b
}

// unpacked puts what the beginning of b tells into what.
func unpacked(b []byte, what any) {
	if _, err := binary.Decode(b, binary.LittleEndian, what); err != nil {
		panic(err)
	}
}

// nameTable is the table of names, by searching what is there.
func nameTable(names []string) string {
	table := "\x00"
	for _, name := range names {
		if !strings.Contains(table, "\x00"+name+"\x00") && name != "" {
			table += name + "\x00"
		}
	}
	return table
}

// placeOf is the place of a name in a table that has it.
func placeOf(table, name string) uint32 {
	return uint32(strings.Index(table, "\x00"+name+"\x00") + 1)
}

// namer is a way to make a table of names, and to find these.
type namer struct {
	table func(names []string) string
	place func(table, name string) uint32
}

// house is this house's way.
var house = namer{nameTable, placeOf}

// part is one of a file: its name, its head, but for places, the name of the part that its Link is the number of, its bytes, and how many noughts more than need be stand ahead of it.
type part struct {
	name  string
	head  elf.Section64
	link  string
	body  []byte
	extra int
}

// plan is a file that is to be made: its parts, in the order of their heads; in which order their bytes stand (nil: the same); how names of heads are told; and how many noughts more than need be stand ahead of the heads.
type plan struct {
	parts []part
	order []int
	names namer
	extra int
}

// planOf is this house's of o, which may be or not, its symbols' names being told by names.
func planOf(o api.Object, names namer) plan {
	p := plan{names: house}
	for i, s := range o.Sections {
		p.parts = append(p.parts, sectionPart(o, s, i+1))
	}
	for _, g := range o.Groups {
		body := packed(uint32(1))
		for _, n := range g.Sections {
			body = append(body, packed(uint32(n))...)
		}
		p.parts = append(p.parts, part{name: ".group." + g.Sign, head: elf.Section64{Type: 17, Addralign: 4, Entsize: 4}, link: ".symtab", body: body})
	}
	for i, r := range o.Relas {
		if i == 0 || o.Relas[i-1].Section != r.Section {
			name := ""
			if r.Section >= 1 && r.Section <= len(o.Sections) {
				name = o.Sections[r.Section-1].Name
			}
			p.parts = append(p.parts, part{name: ".rela" + name, head: elf.Section64{Type: 4, Flags: 64, Info: uint32(r.Section), Addralign: 8, Entsize: 24}, link: ".symtab"})
		}
		last := &p.parts[len(p.parts)-1]
		last.body = append(last.body, packed(elf.Rela64{Off: uint64(r.Offset), Info: uint64(r.Symbol+1)<<32 + uint64(r.Type), Addend: int64(r.Addend)})...)
	}
	p.parts = append(p.parts, symbolParts(o, names)...)
	return p
}

// sectionPart is that of s, o's section of that number.
func sectionPart(o api.Object, s api.Section, number int) part {
	h := elf.Section64{Type: 1, Size: uint64(s.Size), Addralign: uint64(s.Align)}
	switch {
	case strings.HasPrefix(s.Name, ".text"):
		h.Flags = 6
	case strings.HasPrefix(s.Name, ".rodata"):
		h.Flags = 2
	case strings.HasPrefix(s.Name, ".data"):
		h.Flags = 3
	case strings.HasPrefix(s.Name, ".bss"):
		h.Flags, h.Type = 3, 8
	}
	for _, g := range o.Groups {
		if slices.Contains(g.Sections, number) {
			h.Flags |= 512
		}
	}
	return part{name: s.Name, head: h, body: s.Data}
}

// symbolParts are those of o's symbols, of their names, and of the heads' names, which is empty as yet.
func symbolParts(o api.Object, way namer) []part {
	var names []string
	locals := uint32(1)
	for _, s := range o.Symbols {
		names = append(names, s.Name)
		if s.Bind == 0 {
			locals++
		}
	}
	table := way.table(names)
	body := make([]byte, 24)
	for _, s := range o.Symbols {
		e := elf.Sym64{Name: way.place(table, s.Name), Info: s.Bind << 4, Shndx: uint16(s.Where), Value: uint64(s.Value), Size: uint64(s.Size)}
		if s.Hidden {
			e.Other = 2
		}
		if s.Where < 0 {
			e.Shndx = uint16(0xfff0 - s.Where)
		}
		body = append(body, packed(e)...)
	}
	return []part{
		{name: ".symtab", head: elf.Section64{Type: 2, Info: locals, Addralign: 8, Entsize: 24}, link: ".strtab", body: body},
		{name: ".strtab", head: elf.Section64{Type: 3, Addralign: 1}, body: []byte(table)},
		{name: ".shstrtab", head: elf.Section64{Type: 3, Addralign: 1}},
	}
}

// numberOf is the number of the head of the last part of that name; 0, if there is none.
func (p plan) numberOf(name string) uint32 {
	for i := len(p.parts); i > 0; i-- {
		if p.parts[i-1].name == name {
			return uint32(i)
		}
	}
	return 0
}

// file is that of p.
func (p plan) file() []byte {
	parts := slices.Clone(p.parts)
	var names []string
	order := p.order
	for i, t := range parts {
		names = append(names, t.name)
		if p.order == nil {
			order = append(order, i)
		}
	}
	table := p.names.table(names)
	if own := p.numberOf(".shstrtab"); own > 0 {
		parts[own-1].body = []byte(table)
	}
	file := make([]byte, 64)
	for _, i := range order {
		t := &parts[i]
		for align := max(1, int(t.head.Addralign)); len(file)%align != 0; {
			file = append(file, 0)
		}
		file = append(file, make([]byte, t.extra)...)
		t.head.Off = uint64(len(file))
		t.head.Size += uint64(len(t.body))
		file = append(file, t.body...)
	}
	for len(file)%8 != 0 {
		file = append(file, 0)
	}
	file = append(file, make([]byte, p.extra)...)
	head := elf.Header64{
		Ident: [16]byte{127, 69, 76, 70, 2, 1, 1}, Type: 1, Machine: 243, Version: 1, Shoff: uint64(len(file)), Flags: 1,
		Ehsize: 64, Shentsize: 64, Shnum: uint16(len(parts) + 1), Shstrndx: uint16(p.numberOf(".shstrtab")),
	}
	file = append(file, make([]byte, 64)...)
	for _, t := range parts {
		t.head.Name = p.names.place(table, t.name)
		if t.link != "" {
			t.head.Link = p.numberOf(t.link)
		}
		file = append(file, packed(t.head)...)
	}
	copy(file, packed(head))
	return file
}

// headsOf are the heads that a file tells, by the library's structures.
func headsOf(b []byte) []elf.Section64 {
	var h elf.Header64
	unpacked(b, &h)
	heads := make([]elf.Section64, h.Shnum)
	unpacked(b[h.Shoff:], heads)
	return heads
}

// textAt is the text at a place of b, up to the next nought.
func textAt(b []byte, at uint32) string {
	text, _, ok := bytes.Cut(b[at:], []byte{0})
	if !ok {
		panic("no end")
	}
	return string(text)
}

// loosely is an object that b may be the file of, and whether there is one that is worth being asked. It is sure of nothing.
func loosely(b []byte) (o api.Object, ok bool) {
	defer func() {
		if recover() != nil {
			o, ok = api.Object{}, false
		}
	}()
	heads := headsOf(b)
	bodyOf := func(h elf.Section64) []byte { return b[h.Off:][:h.Size] }
	last := len(heads) - 1
	names := bodyOf(heads[last])
	for _, h := range heads[1 : last-2] {
		name := textAt(names, h.Name)
		switch h.Type {
		case 1:
			o.Sections = append(o.Sections, api.Section{Name: name, Align: int(h.Addralign), Data: bodyOf(h)})
		case 8:
			o.Sections = append(o.Sections, api.Section{Name: name, Align: int(h.Addralign), Size: int(h.Size)})
		case 17:
			g := api.Group{Sign: strings.TrimPrefix(name, ".group.")}
			for body := bodyOf(h)[4:]; len(body) > 0; body = body[4:] {
				g.Sections = append(g.Sections, int(binary.LittleEndian.Uint32(body)))
			}
			o.Groups = append(o.Groups, g)
		case 4:
			for body := bodyOf(h); len(body) > 0; body = body[24:] {
				var r elf.Rela64
				unpacked(body, &r)
				o.Relas = append(o.Relas, api.Rela{Section: int(h.Info), Offset: int(r.Off), Type: uint8(r.Info), Symbol: int(r.Info>>32) - 1, Addend: int(r.Addend)})
			}
		}
	}
	for body := bodyOf(heads[last-2])[24:]; len(body) > 0; body = body[24:] {
		var s elf.Sym64
		unpacked(body, &s)
		where := int(s.Shndx)
		if where > 0xfff0 {
			where = 0xfff0 - where
		}
		o.Symbols = append(o.Symbols, api.Symbol{Name: textAt(bodyOf(heads[last-1]), s.Name), Bind: s.Info >> 4, Hidden: s.Other == 2, Where: where, Value: int(s.Value), Size: int(s.Size)})
	}
	return o, true
}

// wantRead holds Read's answer for b against what the chapter says it is, and tells whether there is an object.
func wantRead(t *testing.T, what string, b []byte) bool {
	t.Helper()
	want, ok := loosely(b)
	if ok {
		again, e := elfw.Write(want)
		ok = e == api.OK && bytes.Equal(again, b)
	}
	if !ok {
		wantBad(t, what, b)
		return false
	}
	got, e := elfr.Read(b)
	if e != api.OK || told(got) != told(want) {
		t.Fatalf("%s: Read = %+v, %d; want %+v", what, got, int(e), want)
	}
	return true
}

// wantBad holds that b is refused.
func wantBad(t *testing.T, what string, b []byte) {
	t.Helper()
	got, e := elfr.Read(b)
	if e != api.ErrBad || len(got.Sections)+len(got.Symbols)+len(got.Relas)+len(got.Groups) > 0 {
		t.Fatalf("%s: Read of %d bytes = %+v, %d; want none, %d", what, len(b), got, int(e), int(api.ErrBad))
	}
}
