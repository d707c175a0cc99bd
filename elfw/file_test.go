package elfw_test

import (
	"bytes"
	"debug/elf"
	"encoding/binary"
	"math/big"
	"slices"
	"strings"
	"testing"

	"quoin/api"
	"quoin/elfw"
)

// nameTable is the table of names, by searching what is there.
func nameTable(names []string) string {
	table := "\x00"
	for _, name := range names {
		if !strings.Contains(table, "\x00"+name+"\x00") && name != "" {
			table += name + "\x00"
		}
	}
	return table
}

// placeOf is the place of a name in a table that has it.
func placeOf(table, name string) uint32 {
	return uint32(strings.Index(table, "\x00"+name+"\x00") + 1)
}

// part is one of a file: its name, its bytes, and its head, but for their places.
type part struct {
	name string
	head elf.Section64
	body []byte
}

// packed are the bytes of the library's own structures.
func packed(what any) []byte {
	b, err := binary.Append(nil, binary.LittleEndian, what)
	if err != nil {
		panic(err)
	}
	return b
}

// fileOf is the file of o, by the chapter's words and the library's structures.
func fileOf(o api.Object) []byte {
	parts := sectionParts(o)
	withRelas := 0
	for i := range o.Sections {
		if slices.ContainsFunc(o.Relas, func(r api.Rela) bool { return r.Section == i+1 }) {
			withRelas++
		}
	}
	symbols := uint32(1 + len(o.Sections) + len(o.Groups) + withRelas)
	for _, g := range o.Groups {
		body := packed(uint32(1))
		for _, n := range g.Sections {
			body = append(body, packed(uint32(n))...)
		}
		parts = append(parts, part{".group." + g.Sign, elf.Section64{Type: 17, Link: symbols, Addralign: 4, Entsize: 4}, body})
	}
	for i, s := range o.Sections {
		var body []byte
		for _, r := range o.Relas {
			if r.Section == i+1 {
				body = append(body, packed(elf.Rela64{Off: uint64(r.Offset), Info: uint64(r.Symbol+1)<<32 + uint64(r.Type), Addend: int64(r.Addend)})...)
			}
		}
		if len(body) > 0 {
			parts = append(parts, part{".rela" + s.Name, elf.Section64{Type: 4, Flags: 64, Link: symbols, Info: uint32(i + 1), Addralign: 8, Entsize: 24}, body})
		}
	}
	return assembled(append(parts, symbolParts(o, symbols)...))
}

// sectionParts are those of o's sections.
func sectionParts(o api.Object) []part {
	var parts []part
	for i, s := range o.Sections {
		h := elf.Section64{Type: 1, Size: uint64(s.Size), Addralign: uint64(s.Align)}
		switch {
		case strings.HasPrefix(s.Name, ".text"):
			h.Flags = 6
		case strings.HasPrefix(s.Name, ".rodata"):
			h.Flags = 2
		case strings.HasPrefix(s.Name, ".data"):
			h.Flags = 3
		case strings.HasPrefix(s.Name, ".bss"):
			h.Flags, h.Type = 3, 8
		}
		for _, g := range o.Groups {
			if slices.Contains(g.Sections, i+1) {
				h.Flags |= 512
			}
		}
		parts = append(parts, part{s.Name, h, s.Data})
	}
	return parts
}

// symbolParts are those of o's symbols, at the head of that number, and of their names; that of the heads' names is empty as yet.
func symbolParts(o api.Object, number uint32) []part {
	var names []string
	locals := uint32(1)
	for _, s := range o.Symbols {
		names = append(names, s.Name)
		if s.Bind == 0 {
			locals++
		}
	}
	table := nameTable(names)
	body := make([]byte, 24)
	for _, s := range o.Symbols {
		e := elf.Sym64{Name: placeOf(table, s.Name), Info: s.Bind << 4, Shndx: uint16(s.Where), Value: uint64(s.Value), Size: uint64(s.Size)}
		if s.Hidden {
			e.Other = 2
		}
		if s.Where < 0 {
			e.Shndx = uint16(0xfff0 - s.Where)
		}
		body = append(body, packed(e)...)
	}
	return []part{
		{".symtab", elf.Section64{Type: 2, Link: number + 1, Info: locals, Addralign: 8, Entsize: 24}, body},
		{".strtab", elf.Section64{Type: 3, Addralign: 1}, []byte(table)},
		{".shstrtab", elf.Section64{Type: 3, Addralign: 1}, nil},
	}
}

// assembled is the file of parts, of which the last one takes their names.
func assembled(parts []part) []byte {
	var names []string
	for _, p := range parts {
		names = append(names, p.name)
	}
	table := nameTable(names)
	parts[len(parts)-1].body = []byte(table)
	file := make([]byte, 64)
	heads := make([]byte, 64)
	for _, p := range parts {
		for uint64(len(file))%p.head.Addralign != 0 {
			file = append(file, 0)
		}
		p.head.Name = placeOf(table, p.name)
		p.head.Off = uint64(len(file))
		p.head.Size += uint64(len(p.body))
		file = append(file, p.body...)
		heads = append(heads, packed(p.head)...)
	}
	for len(file)%8 != 0 {
		file = append(file, 0)
	}
	many := uint16(len(parts) + 1)
	copy(file, packed(elf.Header64{
		Ident: [16]byte{127, 69, 76, 70, 2, 1, 1}, Type: 1, Machine: 243, Version: 1, Shoff: uint64(len(file)), Flags: 1,
		Ehsize: 64, Shentsize: 64, Shnum: many, Shstrndx: many - 1,
	}))
	return append(file, heads...)
}

// number is that of the bytes of b from at on, size of them.
func number(b []byte, at, size int) int {
	sum := new(big.Int)
	for i := size - 1; i >= 0; i-- {
		sum.Mul(sum, big.NewInt(256))
		sum.Add(sum, big.NewInt(int64(b[at+i])))
	}
	return int(sum.Int64())
}

// headsOf are the heads that a file tells, by the places of their fields.
func headsOf(b []byte) []api.Head {
	at, many := number(b, 40, 8), number(b, 60, 2)
	var all []api.Head
	for i := range many {
		h := b[at+64*i : at+64*i+64]
		all = append(all, api.Head{
			Name: number(h, 0, 4), Type: number(h, 4, 4), Flags: number(h, 8, 8), Addr: number(h, 16, 8), Offset: number(h, 24, 8), Size: number(h, 32, 8),
			Link: number(h, 40, 4), Info: number(h, 44, 4), Align: number(h, 48, 8), Entry: number(h, 56, 8),
		})
	}
	return all
}

// mustWrite is o's file, which there has to be.
func mustWrite(t *testing.T, o api.Object) []byte {
	t.Helper()
	b, e := elfw.Write(o)
	if e != api.OK {
		t.Fatalf("Write(%+v) = %d", o, int(e))
	}
	return b
}

// wantFile holds o's file against what the chapter's words make of it.
func wantFile(t *testing.T, o api.Object) {
	t.Helper()
	want := fileOf(o)
	b, e := elfw.Write(o)
	if len(want) > 65536 {
		if e != api.ErrFull || len(b) != 0 {
			t.Fatalf("Write of an object whose file has %d bytes = %d bytes, %d", len(want), len(b), int(e))
		}
		return
	}
	if e != api.OK || !bytes.Equal(b, want) {
		at := 0
		for at < min(len(b), len(want)) && b[at] == want[at] {
			at++
		}
		t.Fatalf("Write(%+v) = %d bytes, %d; want %d; they differ at %d", o, len(b), int(e), len(want), at)
	}
}

// P12.2: files of objects with all kinds of parts, and without.
func TestWrite(t *testing.T) {
	for _, o := range samples() {
		wantCheck(t, "a sample", o, true)
		wantFile(t, o)
	}
}

// P12.2: files of objects with a field changed; what may not be has none.
func TestWriteOfVariants(t *testing.T) {
	for _, o := range few() {
		for _, v := range variants(o) {
			wantCheck(t, "a variant", v, mayBe(v))
			if mayBe(v) {
				wantFile(t, v)
			}
		}
	}
}

// P12.2: a file of no sections, byte by byte, so that it does not hang on the tests' own reckoning.
func TestWriteOfNoSections(t *testing.T) {
	noughts := func(n int) string { return strings.Repeat("\x00", n) }
	want := "\x7fELF\x02\x01\x01\x00" + noughts(8) + "\x01\x00\xf3\x00" + "\x01\x00\x00\x00" + noughts(16) + "\x78" + noughts(7) + "\x01\x00\x00\x00" + "\x40\x00" + noughts(4) + "\x40\x00" + "\x04\x00\x03\x00" +
		noughts(24) +
		"\x00" +
		"\x00.symtab\x00.strtab\x00.shstrtab\x00" + noughts(4) +
		noughts(64) +
		"\x01\x00\x00\x00\x02\x00\x00\x00" + noughts(16) + "\x40" + noughts(7) + "\x18" + noughts(7) + "\x02\x00\x00\x00\x01\x00\x00\x00" + "\x08" + noughts(7) + "\x18" + noughts(7) +
		"\x09\x00\x00\x00\x03\x00\x00\x00" + noughts(16) + "\x58" + noughts(7) + "\x01" + noughts(7) + noughts(8) + "\x01" + noughts(7) + noughts(8) +
		"\x11\x00\x00\x00\x03\x00\x00\x00" + noughts(16) + "\x59" + noughts(7) + "\x1b" + noughts(7) + noughts(8) + "\x01" + noughts(7) + noughts(8)
	if b := mustWrite(t, api.Object{}); string(b) != want || len(b) != 376 {
		t.Errorf("%q\nis not\n%q", b, want)
	}
}

// P12.2: each field of each head of a file with all kinds of parts, and their bytes, written out.
func TestWriteOfTheWhole(t *testing.T) {
	b := mustWrite(t, whole())
	want := []api.Head{
		{},
		{Name: 1, Type: 1, Flags: 6, Offset: 64, Size: 14, Align: 4},
		{Name: 7, Type: 1, Flags: 515, Offset: 80, Size: 9, Align: 8},
		{Name: 15, Type: 8, Flags: 515, Offset: 96, Size: 100, Align: 16},
		{Name: 1, Type: 1, Flags: 518, Offset: 96, Size: 4, Align: 2},
		{Name: 20, Type: 17, Offset: 100, Size: 12, Link: 10, Align: 4, Entry: 4},
		{Name: 29, Type: 17, Offset: 112, Size: 8, Link: 10, Align: 4, Entry: 4},
		{Name: 38, Type: 4, Flags: 64, Offset: 120, Size: 72, Link: 10, Info: 1, Align: 8, Entry: 24},
		{Name: 49, Type: 4, Flags: 64, Offset: 192, Size: 72, Link: 10, Info: 2, Align: 8, Entry: 24},
		{Name: 38, Type: 4, Flags: 64, Offset: 264, Size: 24, Link: 10, Info: 4, Align: 8, Entry: 24},
		{Name: 62, Type: 2, Offset: 288, Size: 192, Link: 11, Info: 3, Align: 8, Entry: 24},
		{Name: 70, Type: 3, Offset: 480, Size: 18, Align: 1},
		{Name: 78, Type: 3, Offset: 498, Size: 88, Align: 1},
	}
	if heads := headsOf(b); !slices.Equal(heads, want) {
		t.Errorf("heads are %+v; want %+v", heads, want)
	}
	if len(b) != 592+13*64 {
		t.Errorf("%d bytes", len(b))
	}
	ident := "\x7fELF\x02\x01\x01\x00\x00\x00\x00\x00\x00\x00\x00\x00"
	if string(b[:16]) != ident {
		t.Errorf("it begins with %q", b[:16])
	}
	for _, f := range []struct{ at, size, want int }{{16, 2, 1}, {18, 2, 243}, {20, 4, 1}, {24, 8, 0}, {32, 8, 0}, {40, 8, 592}, {48, 4, 1}, {52, 2, 64}, {54, 2, 0}, {56, 2, 0}, {58, 2, 64}, {60, 2, 13}, {62, 2, 12}} {
		if n := number(b, f.at, f.size); n != f.want {
			t.Errorf("the number at %d is %d; want %d", f.at, n, f.want)
		}
	}
	for _, p := range []struct {
		at   int
		want string
	}{
		{64, "\x97\x00\x00\x00\xe7\x80\x00\x00\x01\x00\x13\x00\x00\x00" + "\x00\x00"},
		{80, "\x01\x02\x03\x04\x05\x06\x07\x08\x09" + "\x00\x00\x00\x00\x00\x00\x00"},
		{96, "\x6f\x00\x00\x00"},
		{100, "\x01\x00\x00\x00\x02\x00\x00\x00\x04\x00\x00\x00" + "\x01\x00\x00\x00\x03\x00\x00\x00"},
		{120, "\x00\x00\x00\x00\x00\x00\x00\x00\x12\x00\x00\x00\x05\x00\x00\x00\xff\xff\xff\xff\xff\xff\xff\xff"},
		{168, "\x08\x00\x00\x00\x00\x00\x00\x00\x2b\x00\x00\x00\x00\x00\x00\x00\x06\x00\x00\x00\x00\x00\x00\x00"},
		{288, strings.Repeat("\x00", 24)},
		{312, "\x01\x00\x00\x00\x00\x00\x01\x00" + strings.Repeat("\x00", 16)},
		{336, "\x01\x00\x00\x00\x00\x00\x02\x00\x09" + strings.Repeat("\x00", 15)},
		{384, "\x08\x00\x00\x00\x20\x02\x03\x00\x04\x00\x00\x00\x00\x00\x00\x00\x60\x00\x00\x00\x00\x00\x00\x00"},
		{432, "\x0c\x00\x00\x00\x10\x00\xf2\xff\x08\x00\x00\x00\x00\x00\x00\x00\x40\x00\x00\x00\x00\x00\x00\x00"},
		{480, "\x00a\x00main\x00w\x00f\x00buf\x00k\x00"},
		{498, "\x00.text\x00.data.x\x00.bss\x00.group.x\x00.group.y\x00.rela.text\x00.rela.data.x\x00.symtab\x00.strtab\x00.shstrtab\x00" + "\x00\x00\x00\x00\x00\x00"},
	} {
		if got := string(b[p.at : p.at+len(p.want)]); got != p.want {
			t.Errorf("at %d there is %q; want %q", p.at, got, p.want)
		}
	}
}

// P12.2: noughts ahead of sections of each Align, those without bytes among them, written out.
func TestWriteFillsUp(t *testing.T) {
	o := api.Object{Sections: []api.Section{
		text([]byte{255}), {Name: ".bss", Align: 64, Size: 4096}, {Name: ".data", Align: 1, Data: []byte{254}}, {Name: ".rodata", Align: 32},
		{Name: ".rodata", Align: 2, Data: []byte{253}}, {Name: ".bss", Align: 1}, {Name: ".data", Align: 16, Data: []byte{252}}, {Name: ".text", Align: 8, Data: []byte{251}}, {Name: ".bss", Align: 4, Size: 1},
	}}
	b := mustWrite(t, o)
	heads := headsOf(b)
	for i, at := range []int{0, 64, 128, 128, 160, 160, 161, 176, 184, 188, 192} {
		if heads[i].Offset != at {
			t.Errorf("head %d tells %d; want %d", i, heads[i].Offset, at)
		}
	}
	want := make([]byte, 192-64)
	for at, c := range map[int]byte{64: 255, 128: 254, 160: 253, 176: 252, 184: 251} {
		want[at-64] = c
	}
	if !bytes.Equal(b[64:192], want) {
		t.Errorf("%v is not %v", b[64:192], want)
	}
}

// P12.2: symbols' names stand once each, wherever they come from, and so do heads'.
func TestWriteOfNamesInCommon(t *testing.T) {
	o := api.Object{
		Sections: []api.Section{{Name: ".data.f", Align: 1}, {Name: ".data.f", Align: 1, Data: []byte{1}}, {Name: ".text.rela", Align: 1}},
		Symbols:  []api.Symbol{{Name: "f", Where: 1}, {Name: ".data.f", Where: 2}, {Name: "f", Where: 2}, {Name: "f", Bind: api.BindGlobal}, {Name: "ff", Bind: api.BindGlobal}, {Name: ".symtab", Bind: api.BindWeak}},
		Relas:    []api.Rela{{Section: 2, Type: api.RAdd8, Symbol: 1}, {Section: 3, Type: api.RRelax, Symbol: none}},
		Groups:   []api.Group{{Sign: "f", Sections: []int{1}}, {Sign: "rela", Sections: []int{2}}},
	}
	wantFile(t, o)
	b := mustWrite(t, o)
	heads := headsOf(b)
	names := heads[len(heads)-2]
	if got := string(b[names.Offset : names.Offset+names.Size]); got != "\x00f\x00.data.f\x00ff\x00.symtab\x00" {
		t.Errorf("%q", got)
	}
	symbols := heads[len(heads)-3].Offset
	for i, place := range []int{0, 1, 3, 1, 1, 11, 14} {
		if n := number(b, symbols+24*i, 4); n != place {
			t.Errorf("symbol %d's name is at %d; want %d", i, n, place)
		}
	}
	names = heads[len(heads)-1]
	if got := string(b[names.Offset : names.Offset+names.Size]); got != "\x00.data.f\x00.text.rela\x00.group.f\x00.group.rela\x00.rela.data.f\x00.rela.text.rela\x00.symtab\x00.strtab\x00.shstrtab\x00" {
		t.Errorf("%q", got)
	}
	if heads[1].Name != 1 || heads[2].Name != 1 || heads[3].Name != 9 {
		t.Error(heads[1:4])
	}
}

// great is an object of fifteen sections of just MaxData bytes, and one of fewer.
func great(last int) api.Object {
	sections := slices.Repeat([]api.Section{text(mixed(4096))}, 15)
	return api.Object{
		Sections: append(sections, api.Section{Name: ".rodata", Align: 1, Data: mixed(last)}),
		Symbols:  []api.Symbol{local("l"), global("f")},
		Relas:    []api.Rela{{Section: 1, Offset: 4088, Type: api.RCall, Symbol: 1}, {Section: 16, Type: api.RAdd8, Symbol: 0}},
		Groups:   []api.Group{{Sign: "g", Sections: []int{2, 16}}},
	}
}

// P12.2: files of just MaxFile bytes, and the next longer ones.
func TestWriteOfGreatFiles(t *testing.T) {
	seen := map[int]int{}
	for last := 1; last <= 4096; last++ {
		o := great(last)
		size := len(fileOf(o))
		if size < 65000 || size > 66000 {
			continue
		}
		seen[size]++
		b, e := elfw.Write(o)
		if size <= 65536 && (e != api.OK || len(b) != size) {
			t.Fatalf("a file of %d bytes: %d, %d", size, len(b), int(e))
		}
		if size > 65536 && (e != api.ErrFull || len(b) != 0) {
			t.Fatalf("a file of %d bytes: %d, %d", size, len(b), int(e))
		}
		if e := elfw.Check(o); e != api.OK {
			t.Fatal(int(e))
		}
	}
	if seen[65528] != 8 || seen[65536] != 8 || seen[65544] != 8 {
		t.Error("the ends were not tried:", seen)
	}
}

// P12.2: the same end, reached by relocations, by symbols, and by longer names.
func TestWriteOfFilesThatGrow(t *testing.T) {
	last := 1
	for len(fileOf(great(last+1))) < 65536-8*24 {
		last++
	}
	grown := map[string]func(o *api.Object, n int){
		"relocations": func(o *api.Object, n int) {
			for i := range n {
				o.Relas = slices.Insert(o.Relas, 0, api.Rela{Section: 1, Offset: 4080 - 8*i, Type: api.RCall, Symbol: 1})
			}
		},
		"symbols": func(o *api.Object, n int) {
			for i := range n {
				o.Symbols = append(o.Symbols, global(numbered(i)))
			}
		},
		"names": func(o *api.Object, n int) {
			for i := range n {
				o.Sections[i/2].Name = ".text." + strings.Repeat(string(rune('a'+i)), 26)
			}
		},
		"alignment": func(o *api.Object, n int) {
			o.Sections[15].Align = 1 << min(n, 6)
		},
		"noughts": func(o *api.Object, n int) {
			for i := range min(n, 14) {
				o.Sections[i+1] = api.Section{Name: ".bss", Align: 64, Size: 4096}
			}
		},
	}
	for what, grow := range grown {
		for n := range 16 {
			o := great(last)
			grow(&o, n)
			wantCheck(t, what, o, true)
			wantFile(t, o)
		}
	}
	o := great(4096)
	wantFile(t, o)
	// What may not be is told ahead of what is too great.
	o.Sections[15].Align = 3
	wantCheck(t, "a great one", o, false)
}

// P12.4: heads tell places within the file, in order, behind its head and ahead of theirs, none in another one's bytes; each is a multiple of its Align, and what is between is noughts, as few as do.
func TestPlaces(t *testing.T) {
	for _, o := range samples() {
		b, e := elfw.Write(o)
		if e == api.ErrFull {
			continue
		}
		heads := headsOf(b)
		reached := 64
		for i, h := range heads[1:] {
			if h.Offset < reached || h.Offset-reached >= h.Align || h.Offset%h.Align != 0 {
				t.Fatalf("part %d: %+v, behind %d", i+1, h, reached)
			}
			if len(bytes.Trim(b[reached:h.Offset], "\x00")) > 0 {
				t.Fatalf("part %d: %v is not noughts", i+1, b[reached:h.Offset])
			}
			reached = h.Offset
			if h.Type != 8 {
				reached += h.Size
			}
		}
		at := number(b, 40, 8)
		if at < reached || at-reached >= 8 || at%8 != 0 || at+64*len(heads) != len(b) {
			t.Fatalf("heads at %d, of %d bytes, behind %d", at, len(b), reached)
		}
		if heads[0] != (api.Head{}) {
			t.Fatal(heads[0])
		}
	}
}

// P12.2: what others who read such files make of them.
func TestOthersReadIt(t *testing.T) {
	for _, o := range samples() {
		b := mustWrite(t, o)
		f, err := elf.NewFile(bytes.NewReader(b))
		if err != nil {
			t.Fatal(err)
		}
		if f.Class != elf.ELFCLASS64 || f.Data != elf.ELFDATA2LSB || f.Type != elf.ET_REL || f.Machine != elf.EM_RISCV || f.Entry != 0 || len(f.Progs) != 0 {
			t.Errorf("%+v", f.FileHeader)
		}
		for i, s := range o.Sections {
			there := f.Sections[i+1]
			if there.Name != s.Name || there.Addralign != uint64(s.Align) || there.Size != uint64(len(s.Data)+s.Size) {
				t.Errorf("section %+v is %+v", s, there.SectionHeader)
			}
			if got, err := there.Data(); there.Type != elf.SHT_NOBITS && (err != nil || !bytes.Equal(got, s.Data)) {
				t.Errorf("section %+v has %v", s, got)
			}
		}
		if len(o.Symbols) == 0 {
			continue
		}
		symbols, err := f.Symbols()
		if err != nil || len(symbols) != len(o.Symbols) {
			t.Fatal(err, len(symbols))
		}
		for i, s := range o.Symbols {
			if got := symbols[i]; got.Name != s.Name || got.Value != uint64(s.Value) || got.Size != uint64(s.Size) {
				t.Errorf("symbol %+v is %+v", s, got)
			}
		}
	}
}

// P12.4: objects that are not the same have not the same file; those that are have.
func TestFilesAreApart(t *testing.T) {
	seen := map[string]api.Object{}
	try := func(o api.Object) {
		b, e := elfw.Write(o)
		if e != api.OK {
			return
		}
		first, ok := seen[string(b)]
		if ok && !isAlike(first, o) {
			t.Fatalf("%+v\nand\n%+v\nhave the same file", first, o)
		}
		seen[string(b)] = o
		if again := mustWrite(t, elfw.Twin(o)); !bytes.Equal(again, b) {
			t.Fatalf("%+v has two files", o)
		}
	}
	for _, o := range samples() {
		try(o)
	}
	for _, o := range few() {
		for _, v := range variants(o) {
			try(v)
		}
	}
	if len(seen) < 500 {
		t.Error("no more than", len(seen), "files")
	}
}
