package elfr_test

import (
	"bytes"
	"fmt"
	"reflect"
	"slices"
	"strings"
	"testing"

	"quoin/api"
	"quoin/elfw"
)

// none is the symbol of a relocation that has none.
const none = api.NoSymbol

// mixed are n bytes no two of which beside each other are alike, none of them 0 among the first ones.
func mixed(n int) []byte {
	b := make([]byte, n)
	for i := range b {
		b[i] = byte(i*167 + 131)
	}
	return b
}

// filled are the bytes that fill up an RAlign of that Addend.
func filled(addend int) []byte {
	b := bytes.Repeat([]byte{19, 0, 0, 0}, addend/4)
	if addend%4 == 2 {
		return append([]byte{1, 0}, b...)
	}
	return b
}

// numbered is a name of its own for each n.
func numbered(n int) string {
	return fmt.Sprintf("n%d", n)
}

// long is a name of just MaxName bytes, another one for each n.
func long(beginning string, n int) string {
	return fmt.Sprintf("%s%0*d", beginning, 32-len(beginning), n)
}

// whole is an object with each thing that there is: locals of one name and sections of one name, groups, sections without bytes, and relocations that touch.
func whole() api.Object {
	return api.Object{
		Sections: []api.Section{
			{Name: ".text", Align: 4, Data: []byte{0x97, 0, 0, 0, 0xe7, 0x80, 0, 0, 1, 0, 19, 0, 0, 0}},
			{Name: ".data.x", Align: 8, Data: []byte{1, 2, 3, 4, 5, 6, 7, 8, 9}},
			{Name: ".bss", Align: 16, Size: 100},
			{Name: ".text", Align: 2, Data: []byte{0x6f, 0, 0, 0}},
			{Name: ".rodata", Align: 32},
		},
		Symbols: []api.Symbol{
			{Name: "a", Where: 1}, {Name: "a", Where: 2, Value: 9}, {Name: "main", Bind: api.BindGlobal, Where: 1, Size: 14},
			{Name: "w", Bind: api.BindWeak, Hidden: true, Where: 3, Value: 4, Size: 96}, {Name: "buf", Bind: api.BindGlobal, Where: api.Common, Value: 8, Size: 64},
			{Name: "f", Bind: api.BindGlobal}, {Name: "k", Bind: api.BindGlobal, Where: api.Absolute, Value: -7},
		},
		Relas: []api.Rela{
			{Section: 1, Type: api.RCall, Symbol: 5, Addend: -1}, {Section: 1, Type: api.RRelax, Symbol: none}, {Section: 1, Offset: 8, Type: api.RAlign, Symbol: none, Addend: 6},
			{Section: 2, Type: api.RAdd32, Symbol: 1, Addend: 4}, {Section: 2, Type: api.RSub32, Symbol: 0}, {Section: 2, Offset: 4, Type: api.R32, Symbol: 4, Addend: 1<<32 - 1},
			{Section: 4, Type: api.RJal, Symbol: 2},
		},
		Groups: []api.Group{{Sign: "x", Sections: []int{2, 4}}, {Sign: "y", Sections: []int{3}}},
	}
}

// kinds are beginnings of sections' names, by their kinds.
func kinds() []string {
	return []string{".text", ".rodata", ".data", ".bss"}
}

// section is one of a name, with n bytes, or, if it has none of its own, so many noughts.
func section(name string, align, n int) api.Section {
	if strings.HasPrefix(name, ".bss") {
		return api.Section{Name: name, Align: align, Size: n}
	}
	return api.Section{Name: name, Align: align, Data: mixed(n)}
}

// ofSections are objects of one section, and of one behind another one, of each kind, each Align, with bytes and without.
func ofSections() []api.Object {
	var all []api.Object
	for _, kind := range kinds() {
		for _, name := range []string{kind, kind + ".", long(kind+".", 7)} {
			for align := 1; align <= 64; align *= 2 {
				for _, n := range []int{0, 1, 9, 4096} {
					s := section(name, align, n)
					all = append(all, api.Object{Sections: []api.Section{s}}, api.Object{Sections: []api.Section{section(".text", 1, 3), s, section(".bss", 64, 1), s}})
				}
			}
		}
	}
	return all
}

// ofSymbols are objects of two sections and one symbol, of each bind and each place, hidden or not.
func ofSymbols() []api.Object {
	var all []api.Object
	for bind := range uint8(3) {
		for _, hidden := range []bool{false, true} {
			for _, s := range []api.Symbol{
				{Where: 1}, {Where: 1, Value: 5, Size: 4}, {Where: 1, Value: 9}, {Where: 1, Size: 9}, {Where: 2}, {Where: 2, Value: 4096}, {Where: 2, Size: 4096}, {Where: 2, Value: 1000, Size: 3096},
				{Where: api.Undefined},
				{Where: api.Absolute}, {Where: api.Absolute, Value: -1 << 31}, {Where: api.Absolute, Value: -1}, {Where: api.Absolute, Value: 1<<32 - 1},
				{Where: api.Common, Value: 1, Size: 1}, {Where: api.Common, Value: 2, Size: 2}, {Where: api.Common, Value: 32, Size: 4095}, {Where: api.Common, Value: 64, Size: 4096},
			} {
				for _, name := range []string{"s", long("~!", 1)} {
					s.Name, s.Bind, s.Hidden = name, bind, hidden
					o := api.Object{Sections: []api.Section{section(".data", 1, 9), section(".bss", 8, 4096)}, Symbols: []api.Symbol{s}}
					if elfw.Check(o) == api.OK {
						all = append(all, o)
					}
				}
			}
		}
	}
	return all
}

// ofRelas are objects of one relocation, of each type, with the ends of what may be added, at the ends of its section.
func ofRelas() []api.Object {
	var all []api.Object
	for kind := range uint8(64) {
		for _, name := range []string{".text", ".rodata", ".data"} {
			for at := range 65 {
				for _, addend := range []int{-1 << 31, -1, 0, 2, 4, 6, 62, 1<<32 - 1} {
					s := section(name, 2, 64)
					symbol := 1
					if kind == api.RAlign || kind == api.RRelax {
						symbol = none
					}
					if kind == api.RAlign && addend >= 0 && addend < 64 {
						copy(s.Data[at:], filled(addend))
					}
					o := api.Object{
						Sections: []api.Section{section(".bss", 1, 1), s},
						Symbols:  []api.Symbol{{Name: "l", Where: 1}, {Name: "f", Bind: api.BindGlobal}},
						Relas:    []api.Rela{{Section: 2, Offset: at, Type: kind, Symbol: symbol, Addend: addend}},
					}
					if (at < 4 || at > 55) && elfw.Check(o) == api.OK {
						all = append(all, o)
					}
				}
			}
		}
	}
	return all
}

// ofGroups are objects of some sections, with groups of each set of these.
func ofGroups() []api.Object {
	sections := []api.Section{section(".text", 4, 5), section(".bss", 4, 5), section(".data", 1, 0), section(".rodata", 2, 3)}
	var all []api.Object
	for first := 1; first < 16; first++ {
		for second := range 16 {
			if first&second != 0 {
				continue
			}
			o := api.Object{Sections: sections}
			for i, set := range []int{first, second} {
				g := api.Group{Sign: []string{"z", long(".group.", 1)}[i]}
				for n := range 4 {
					if set>>n&1 == 1 {
						g.Sections = append(g.Sections, n+1)
					}
				}
				if set > 0 {
					o.Groups = append(o.Groups, g)
				}
			}
			all = append(all, elfw.Twin(o))
		}
	}
	return all
}

// greatest is an object with as many of each thing as there may be, and names as long as they may be.
func greatest() api.Object {
	var o api.Object
	for i := range 16 {
		kind := kinds()[i%4]
		o.Sections = append(o.Sections, section(long(kind+".", i), 64, 64))
		o.Groups = append(o.Groups, api.Group{Sign: long("sign", i), Sections: []int{16 - i}})
		for at := range 64 {
			if kind == ".data" {
				o.Relas = append(o.Relas, api.Rela{Section: i + 1, Offset: at, Type: api.RAdd8, Symbol: at, Addend: at - 32})
			}
		}
	}
	for i := range 64 {
		o.Symbols = append(o.Symbols, api.Symbol{Name: long("s", i), Bind: uint8(min(i/30, 2)), Where: i%16 + 1, Value: i, Size: 64 - i})
	}
	return o
}

// great is an object of fifteen sections of just MaxData bytes, and one of fewer.
func great(last int) api.Object {
	sections := slices.Repeat([]api.Section{section(".text", 4, 4096)}, 15)
	return api.Object{
		Sections: append(sections, section(".rodata", 1, last)),
		Symbols:  []api.Symbol{{Name: "l", Where: 1}, {Name: "f", Bind: api.BindGlobal}},
		Relas:    []api.Rela{{Section: 1, Offset: 4088, Type: api.RCall, Symbol: 1}, {Section: 16, Type: api.RAdd8, Symbol: 0}},
		Groups:   []api.Group{{Sign: "g", Sections: []int{2, 16}}},
	}
}

// ofNames are objects whose symbols, sections and groups have names in common, or names that end others.
func ofNames() []api.Object {
	return []api.Object{
		{
			Sections: []api.Section{section(".data.f", 1, 0), section(".data.f", 1, 1), section(".text.rela", 1, 2), section(".bss.data.f", 1, 0)},
			Symbols:  []api.Symbol{{Name: "f", Where: 1}, {Name: ".data.f", Where: 2}, {Name: "f", Where: 2}, {Name: "f", Bind: api.BindGlobal}, {Name: "ff", Bind: api.BindGlobal}, {Name: ".symtab", Bind: api.BindWeak}},
			Relas:    []api.Rela{{Section: 2, Type: api.RAdd8, Symbol: 1}, {Section: 3, Type: api.RRelax, Symbol: none}},
			Groups:   []api.Group{{Sign: "f", Sections: []int{1}}, {Sign: "rela", Sections: []int{2}}, {Sign: ".group.f", Sections: []int{4}}},
		},
		{Symbols: []api.Symbol{{Name: "ff", Bind: api.BindGlobal}, {Name: "f", Bind: api.BindGlobal}, {Name: "fff", Bind: api.BindGlobal}}},
		{Symbols: slices.Repeat([]api.Symbol{{Name: "same", Where: api.Absolute}}, 64)},
	}
}

// dice tell numbers that hang on where they begin alone.
type dice uint64

// below is a number from 0 to one less than n.
func (d *dice) below(n int) int {
	*d = *d*6364136223846793005 + 1442695040888963407
	return int(uint64(*d)>>33) % n
}

// made is an object that may be, another one for each seed: what is thrown is kept, if it may be there.
func made(seed int) api.Object {
	d := dice(seed)
	var o api.Object
	throw := func(turn func(o *api.Object)) {
		if twin := turned(o, turn); elfw.Check(twin) == api.OK {
			o = twin
		}
	}
	for range d.below(14) {
		throw(func(o *api.Object) {
			name := kinds()[d.below(4)] + []string{"", ".a", "."}[d.below(3)]
			o.Sections = append(o.Sections, section(name, 1<<d.below(7), d.below(60)))
		})
	}
	for i := range d.below(20) {
		throw(func(o *api.Object) {
			s := api.Symbol{Name: numbered(i / 2), Bind: uint8(d.below(3)), Hidden: d.below(3) == 0, Where: d.below(len(o.Sections)+3) - 2, Value: d.below(20), Size: d.below(20)}
			if s.Where == api.Undefined {
				s.Value, s.Size = 0, 0
			}
			if s.Where == api.Absolute {
				s.Size = 0
			}
			o.Symbols = append(o.Symbols, s)
			slices.SortStableFunc(o.Symbols, func(a, b api.Symbol) int { return min(1, int(a.Bind)) - min(1, int(b.Bind)) })
		})
	}
	for range d.below(100) {
		throw(func(o *api.Object) {
			r := api.Rela{Section: 1 + d.below(len(o.Sections)+1), Offset: d.below(60), Type: uint8(1 + d.below(51)), Symbol: d.below(len(o.Symbols)+1) - 1, Addend: d.below(3) * 2}
			if r.Type == api.RAlign && r.Section <= len(o.Sections) {
				data := o.Sections[r.Section-1].Data
				copy(data[min(len(data), r.Offset):], filled(r.Addend))
			}
			o.Relas = append(o.Relas, r)
			slices.SortStableFunc(o.Relas, func(a, b api.Rela) int { return a.Section*10000 + a.Offset - b.Section*10000 - b.Offset })
		})
	}
	for i := range o.Sections {
		throw(func(o *api.Object) {
			n := d.below(5)
			if n < len(o.Groups) {
				o.Groups[n].Sections = append(o.Groups[n].Sections, i+1)
			} else {
				o.Groups = append(o.Groups, api.Group{Sign: numbered(d.below(20)), Sections: []int{i + 1}})
			}
		})
	}
	return o
}

// samples are objects that may be.
func samples() []api.Object {
	all := slices.Concat([]api.Object{{}, whole(), greatest(), great(100)}, ofSections(), ofSymbols(), ofRelas(), ofGroups(), ofNames())
	for seed := range 150 {
		all = append(all, made(seed))
	}
	return all
}

// few are some of the samples, with parts of each kind.
func few() []api.Object {
	some := append([]api.Object{{}, whole()}, ofNames()...)
	for seed := 0; len(some) < 9; seed++ {
		o := made(seed)
		if len(o.Groups) > 1 && len(o.Symbols) > 3 && len(o.Relas) > 4 {
			some = append(some, o)
		}
	}
	return some
}

// turned is o with a change.
func turned(o api.Object, turn func(o *api.Object)) api.Object {
	twin := elfw.Twin(o)
	turn(&twin)
	return twin
}

// copied is list in new memory, and nil, if it is empty.
func copied[T any](list []T) []T {
	return append([]T(nil), list...)
}

// told is o as a text, which is the same just of objects all fields of which are the same; whether an empty list is nil counts for nothing.
func told(o api.Object) string {
	o = api.Object{Sections: copied(o.Sections), Symbols: copied(o.Symbols), Relas: copied(o.Relas), Groups: copied(o.Groups)}
	for i, s := range o.Sections {
		o.Sections[i].Data = copied(s.Data)
	}
	for i, g := range o.Groups {
		o.Groups[i].Sections = copied(g.Sections)
	}
	return fmt.Sprintf("%#v", o)
}

// mustWrite is o's file, which there has to be.
func mustWrite(t *testing.T, o api.Object) []byte {
	t.Helper()
	b, e := elfw.Write(o)
	if e != api.OK {
		t.Fatalf("Write(%+v) = %d", o, int(e))
	}
	return b
}

// span is where a list's memory is, its spare room too.
type span struct{ from, to uintptr }

// spanOf is that of a list.
func spanOf(list any) span {
	v := reflect.ValueOf(list)
	return span{v.Pointer(), v.Pointer() + uintptr(v.Cap())*v.Type().Elem().Size()}
}

// spansOf are those of all of o's lists that have any memory.
func spansOf(o api.Object) []span {
	all := []span{spanOf(o.Sections), spanOf(o.Symbols), spanOf(o.Relas), spanOf(o.Groups)}
	for _, s := range o.Sections {
		all = append(all, spanOf(s.Data))
	}
	for _, g := range o.Groups {
		all = append(all, spanOf(g.Sections))
	}
	return slices.DeleteFunc(all, func(s span) bool { return s.from == s.to })
}

// wantApart holds that no two of all have memory in common.
func wantApart(t *testing.T, all []span) {
	t.Helper()
	for i, a := range all {
		for _, b := range all[:i] {
			if max(a.from, b.from) < min(a.to, b.to) {
				t.Fatalf("lists share memory: %v", all)
			}
		}
	}
}

// spoil changes all of o, its spare room too.
func spoil(o api.Object) {
	for _, s := range o.Sections {
		for i := range s.Data[:cap(s.Data)] {
			s.Data[:cap(s.Data)][i] ^= 255
		}
	}
	for _, g := range o.Groups {
		clear(g.Sections[:cap(g.Sections)])
	}
	clear(o.Sections[:cap(o.Sections)])
	clear(o.Symbols[:cap(o.Symbols)])
	clear(o.Relas[:cap(o.Relas)])
	clear(o.Groups[:cap(o.Groups)])
}

// variants are objects each of which differs from o in one field, or in how many or which of a list there are; not all of them may be.
func variants(o api.Object) []api.Object {
	var all []api.Object
	add := func(turn func(o *api.Object)) { all = append(all, turned(o, turn)) }
	number := func(at func(o *api.Object) *int) {
		for _, by := range []int{1, -1, 2, -2, 4, -4, 8, 16, 256, 1 << 16} {
			add(func(o *api.Object) { *at(o) += by })
		}
	}
	name := func(at func(o *api.Object) *string) {
		for _, other := range []string{"", ".text", ".data", ".rodata.", ".bss.x", "other", "\x00", " ", "\x7f"} {
			add(func(o *api.Object) { *at(o) = other })
			add(func(o *api.Object) { *at(o) += other })
		}
	}
	for i, s := range o.Sections {
		name(func(o *api.Object) *string { return &o.Sections[i].Name })
		number(func(o *api.Object) *int { return &o.Sections[i].Align })
		number(func(o *api.Object) *int { return &o.Sections[i].Size })
		add(func(o *api.Object) { o.Sections[i].Data = append(o.Sections[i].Data, 0) })
		add(func(o *api.Object) { o.Sections[i].Data = s.Data[:max(0, len(s.Data)-1)] })
		for j := range s.Data {
			add(func(o *api.Object) { o.Sections[i].Data[j] ^= 1 })
		}
	}
	for i := range o.Symbols {
		name(func(o *api.Object) *string { return &o.Symbols[i].Name })
		number(func(o *api.Object) *int { return &o.Symbols[i].Where })
		number(func(o *api.Object) *int { return &o.Symbols[i].Value })
		number(func(o *api.Object) *int { return &o.Symbols[i].Size })
		add(func(o *api.Object) { o.Symbols[i].Hidden = !o.Symbols[i].Hidden })
		for bind := range uint8(5) {
			add(func(o *api.Object) { o.Symbols[i].Bind = bind })
		}
	}
	for i := range o.Relas {
		number(func(o *api.Object) *int { return &o.Relas[i].Section })
		number(func(o *api.Object) *int { return &o.Relas[i].Offset })
		number(func(o *api.Object) *int { return &o.Relas[i].Symbol })
		number(func(o *api.Object) *int { return &o.Relas[i].Addend })
		for kind := range uint8(60) {
			add(func(o *api.Object) { o.Relas[i].Type = kind })
		}
	}
	for i, g := range o.Groups {
		name(func(o *api.Object) *string { return &o.Groups[i].Sign })
		for j := range g.Sections {
			number(func(o *api.Object) *int { return &o.Groups[i].Sections[j] })
		}
		add(func(o *api.Object) { o.Groups[i].Sections = g.Sections[1:] })
		add(func(o *api.Object) { o.Groups[i].Sections = append(o.Groups[i].Sections, len(o.Sections)) })
	}
	for _, turn := range listTurns() {
		add(turn)
	}
	return all
}

// listTurns are changes of how many or which of a list there are.
func listTurns() []func(o *api.Object) {
	return []func(o *api.Object){
		func(o *api.Object) { o.Sections = append(o.Sections, section(".data", 8, 0)) },
		func(o *api.Object) { o.Sections = o.Sections[:max(0, len(o.Sections)-1)] },
		func(o *api.Object) { slices.Reverse(o.Sections) },
		func(o *api.Object) { o.Symbols = append(o.Symbols, api.Symbol{Name: "more", Bind: api.BindWeak}) },
		func(o *api.Object) { o.Symbols = o.Symbols[:max(0, len(o.Symbols)-1)] },
		func(o *api.Object) { slices.Reverse(o.Symbols) },
		func(o *api.Object) { o.Relas = o.Relas[:max(0, len(o.Relas)-1)] },
		func(o *api.Object) { slices.Reverse(o.Relas) },
		func(o *api.Object) { o.Groups = o.Groups[:max(0, len(o.Groups)-1)] },
		func(o *api.Object) { slices.Reverse(o.Groups) },
	}
}
