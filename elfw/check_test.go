package elfw_test

import (
	"bytes"
	"math"
	"slices"
	"strings"
	"testing"

	"quoin/api"
	"quoin/elfw"
	"quoin/rela"
)

// P12.1: no sections, just MaxSections and one more, and far more.
func TestCheckNumbersOfSections(t *testing.T) {
	wantCheck(t, "nothing", api.Object{}, true)
	wantCheck(t, "lists of nothing", api.Object{Sections: []api.Section{}, Symbols: []api.Symbol{}, Relas: []api.Rela{}, Groups: []api.Group{}}, true)
	for many := range 40 {
		wantCheck(t, "sections", api.Object{Sections: slices.Repeat([]api.Section{data(mixed(9))}, many)}, many <= 16)
	}
	wantCheck(t, "sections", api.Object{Sections: slices.Repeat([]api.Section{data(nil)}, 256)}, false)
	wantCheck(t, "sections", api.Object{Sections: slices.Repeat([]api.Section{data(nil)}, 65536+1)}, false)
}

// P12.1: MaxSymbols symbols, locals and others, and one more.
func TestCheckNumbersOfSymbols(t *testing.T) {
	for _, many := range []int{0, 1, 2, 63, 64, 65, 66, 128, 256, 257} {
		for _, locals := range []int{0, 1, many / 2, many} {
			o := api.Object{Sections: []api.Section{text(nil)}}
			for i := range many {
				if i < locals {
					o.Symbols = append(o.Symbols, local("l"))
				} else {
					o.Symbols = append(o.Symbols, global(numbered(i)))
				}
			}
			wantCheck(t, "symbols", o, many <= 64)
		}
	}
}

// P12.1: MaxRelas relocations, with bytes and without, in one section and in more, and one more.
func TestCheckNumbersOfRelas(t *testing.T) {
	for _, many := range []int{0, 1, 255, 256, 257, 258, 512, 513} {
		o := api.Object{Sections: []api.Section{text(make([]byte, 4096)), data(make([]byte, 4096))}, Symbols: []api.Symbol{global("f")}}
		relaxes := elfw.Twin(o)
		for i := range many {
			o.Relas = append(o.Relas, api.Rela{Section: 1 + i/200, Offset: 8 * (i % 200), Type: api.R64})
			relaxes.Relas = append(relaxes.Relas, api.Rela{Section: 1, Type: api.RRelax, Symbol: none})
		}
		if many <= 400 {
			wantCheck(t, "relocations", o, many <= 256)
		}
		wantCheck(t, "relocations of no bytes", relaxes, many <= 256)
	}
}

// P12.1: MaxSections groups of a section each, and one more, whichever sections that has.
func TestCheckNumbersOfGroups(t *testing.T) {
	o := api.Object{Sections: slices.Repeat([]api.Section{data(nil)}, 16)}
	for i := range 16 {
		o.Groups = append(o.Groups, api.Group{Sign: numbered(i), Sections: []int{i + 1}})
		wantCheck(t, "groups", o, true)
	}
	for _, sections := range [][]int{nil, {1}, {16}, {17}, {0}} {
		wantCheck(t, "a group more", turned(o, func(o *api.Object) {
			o.Groups = append(o.Groups, api.Group{Sign: "more", Sections: sections})
		}), false)
	}
}

// P12.1: sections, symbols, relocations that may not be by themselves, wherever they stand.
func TestCheckParts(t *testing.T) {
	o := whole()
	o.Sections = append(o.Sections, data(mixed(8)))
	wantCheck(t, "as it was", o, true)
	for _, s := range []api.Section{{}, {Name: ".text"}, {Name: ".texts", Align: 4}, {Name: ".data", Align: 3}, {Name: ".data", Align: 128}, {Name: ".bss", Align: 1, Size: 4097}, {Name: ".bss", Align: 1, Size: -1}, {Name: ".bss", Align: 1, Data: []byte{0}}, data(mixed(4097)), {Name: ".data", Align: 1, Size: 1}, {Name: ".data. ", Align: 1}} {
		wantCheck(t, "a wrong section", turned(o, func(o *api.Object) { o.Sections[4] = s }), false)
		wantCheck(t, "a wrong section alone", api.Object{Sections: []api.Section{s}}, false)
	}
	for _, s := range []api.Symbol{
		{}, {Name: "", Bind: 1, Where: 1}, {Name: "a b", Bind: 1, Where: 1}, {Name: strings.Repeat("x", 33), Bind: 1}, {Name: "z", Bind: 3, Where: 1}, {Name: "z", Hidden: true, Where: 1}, {Name: "z"},
		{Name: "z", Bind: 1, Value: 1}, {Name: "z", Bind: 1, Where: 6}, {Name: "z", Bind: 1, Where: -3}, {Name: "z", Bind: 1, Where: -1, Size: 1}, {Name: "z", Bind: 2, Where: -2, Value: 8, Size: 8}, {Name: "z", Bind: 1, Where: -2, Value: 3, Size: 8},
		{Name: "z", Bind: 1, Where: 1, Value: -1}, {Name: "z", Bind: 1, Where: 1, Size: -1}, {Name: "z", Bind: 1, Where: math.MinInt}, {Name: "z", Bind: 1, Where: math.MaxInt},
	} {
		wantCheck(t, "a wrong symbol at the end", turned(o, func(o *api.Object) { o.Symbols = append(o.Symbols, s) }), false)
		if s.Bind == 0 {
			wantCheck(t, "a wrong symbol first", turned(o, func(o *api.Object) { o.Symbols[0] = s }), false)
		}
	}
	for _, r := range []api.Rela{
		{}, {Section: 0, Type: 1}, {Section: 5, Type: 3}, {Section: 6, Type: 1}, {Section: 5, Type: 1, Symbol: -1}, {Section: 5, Type: 1, Symbol: 7}, {Section: 5, Type: 1, Offset: 5}, {Section: 5, Type: 1, Offset: -1}, {Section: 5, Type: 17},
		{Section: 5, Type: 1, Addend: 1 << 32}, {Section: 5, Type: 43, Symbol: none}, {Section: 5, Type: 51, Symbol: none}, {Section: 5, Type: 1, Offset: math.MaxInt}, {Section: math.MaxInt, Type: 1}, {Section: math.MinInt, Type: 1},
	} {
		wantCheck(t, "a wrong relocation at the end", turned(o, func(o *api.Object) { o.Relas = append(o.Relas, r) }), false)
		wantCheck(t, "a wrong relocation alone", turned(o, func(o *api.Object) { o.Relas = []api.Rela{r} }), false)
	}
	wantCheck(t, "a relocation of a section of KindBss", turned(o, func(o *api.Object) { o.Relas = []api.Rela{{Section: 3, Type: 1}} }), false)
	// What the fourteenth byte of the section begins is no instruction of four bytes.
	wantCheck(t, "one beyond its section", turned(o, func(o *api.Object) { o.Relas[2] = api.Rela{Section: 1, Offset: 12, Type: api.RJal} }), false)
}

// P12.1: locals stand ahead of all others.
func TestCheckLocalsFirst(t *testing.T) {
	weak := api.Symbol{Name: "w", Bind: api.BindWeak}
	common := api.Symbol{Name: "c", Bind: api.BindGlobal, Where: api.Common, Value: 1, Size: 1}
	for _, c := range []struct {
		symbols []api.Symbol
		may     bool
	}{
		{[]api.Symbol{local("a"), global("b")}, true},
		{[]api.Symbol{global("b"), local("a")}, false},
		{[]api.Symbol{weak, local("a")}, false},
		{[]api.Symbol{common, local("a")}, false},
		{[]api.Symbol{local("a"), local("b"), weak, global("c")}, true},
		{[]api.Symbol{local("a"), weak, local("b"), global("c")}, false},
		{[]api.Symbol{local("a"), weak, global("c"), local("b")}, false},
		{[]api.Symbol{weak, global("g"), common}, true},
		{[]api.Symbol{common, global("g"), weak}, true},
	} {
		wantCheck(t, "order of symbols", api.Object{Sections: []api.Section{text(nil)}, Symbols: c.symbols}, c.may)
	}
}

// P12.1: others have names of their own; locals need not.
func TestCheckNames(t *testing.T) {
	others := []api.Symbol{
		{Name: "f", Bind: api.BindGlobal}, {Name: "f", Bind: api.BindWeak}, {Name: "f", Bind: api.BindGlobal, Hidden: true}, {Name: "f", Bind: api.BindGlobal, Where: 1},
		{Name: "f", Bind: api.BindWeak, Where: 1}, {Name: "f", Bind: api.BindGlobal, Where: api.Absolute}, {Name: "f", Bind: api.BindGlobal, Where: api.Common, Value: 2, Size: 2},
	}
	sections := []api.Section{text(nil)}
	for _, a := range others {
		for _, b := range others {
			wantCheck(t, "two others of a name", api.Object{Sections: sections, Symbols: []api.Symbol{a, b}}, false)
			wantCheck(t, "two others of a name, apart", api.Object{Sections: sections, Symbols: []api.Symbol{local("g"), a, global("g"), b}}, false)
			wantCheck(t, "two others, the one's name beginning the other's", api.Object{Sections: sections, Symbols: []api.Symbol{a, {Name: "ff", Bind: b.Bind, Hidden: b.Hidden, Where: b.Where, Value: b.Value, Size: b.Size}}}, true)
		}
		wantCheck(t, "a local of an other's name", api.Object{Sections: sections, Symbols: []api.Symbol{local("f"), a}}, true)
		wantCheck(t, "locals of an other's name", api.Object{Sections: sections, Symbols: []api.Symbol{local("f"), local("e"), local("f"), a}}, true)
	}
	wantCheck(t, "locals of a name", api.Object{Sections: sections, Symbols: []api.Symbol{local("f"), local("f")}}, true)
	wantCheck(t, "names of unlike letters", api.Object{Sections: sections, Symbols: []api.Symbol{global("f"), global("F")}}, true)
}

// P12.1: Value and Size together are at most the section's bytes, of Data or Size.
func TestCheckSymbolsWithin(t *testing.T) {
	for _, size := range []int{0, 1, 2, 7, 100, 4095, 4096} {
		sections := []api.Section{data(mixed(3)), text(mixed(size)), bss(size), data(mixed(size)), {Name: ".rodata", Align: 1, Data: mixed(size)}, bss(5000 % 4096)}
		for where := 2; where <= 5; where++ {
			for _, value := range []int{0, 1, size / 2, size - 1, size, size + 1, 4096} {
				for _, n := range []int{0, 1, size - value - 1, size - value, size - value + 1, size, 4096} {
					for bind := range uint8(3) {
						s := api.Symbol{Name: "s", Bind: bind, Where: where, Value: value, Size: n}
						may := value >= 0 && n >= 0 && value+n <= size
						wantCheck(t, "a symbol in a section", api.Object{Sections: sections, Symbols: []api.Symbol{s}}, may)
					}
				}
			}
		}
	}
	// A sum of these would wrap round, or does.
	for _, c := range [][2]int{{math.MaxInt, 1}, {1, math.MaxInt}, {math.MaxInt, math.MaxInt}, {math.MinInt, math.MinInt}, {math.MinInt, 0}, {-1, 1}, {1, -1}, {4096, -4096}, {1 << 62, 1 << 62}, {1 << 63 >> 1, math.MinInt}, {1 << 32, 0}, {0, 1 << 32}} {
		for where := 1; where <= 2; where++ {
			s := api.Symbol{Name: "s", Bind: 1, Where: where, Value: c[0], Size: c[1]}
			wantCheck(t, "a symbol that wraps round", api.Object{Sections: []api.Section{data(mixed(8)), bss(8)}, Symbols: []api.Symbol{s}}, false)
		}
	}
	// Others are in none.
	wantCheck(t, "symbols in no section", api.Object{Symbols: []api.Symbol{{Name: "a", Where: api.Absolute, Value: 1<<32 - 1}, {Name: "b", Bind: 1, Where: api.Common, Value: 64, Size: 4096}, {Name: "c", Bind: 2}}}, true)
}

// P12.1: relocations stand by Section, and by Offset, like ones anyhow.
func TestCheckOrderOfRelas(t *testing.T) {
	o := api.Object{Sections: []api.Section{text(make([]byte, 32)), data(make([]byte, 32))}, Symbols: []api.Symbol{global("f")}}
	at := func(section, offset int, kind uint8) api.Rela {
		r := api.Rela{Section: section, Offset: offset, Type: kind}
		if kind == api.RRelax || kind == api.RAlign {
			r.Symbol = none
		}
		return r
	}
	for _, c := range []struct {
		relas []api.Rela
		may   bool
	}{
		{[]api.Rela{at(1, 0, 1), at(1, 4, 1)}, true},
		{[]api.Rela{at(1, 4, 1), at(1, 0, 1)}, false},
		{[]api.Rela{at(1, 8, 1), at(2, 0, 1)}, true},
		{[]api.Rela{at(2, 0, 1), at(1, 8, 1)}, false},
		{[]api.Rela{at(2, 8, 1), at(1, 0, 1)}, false},
		{[]api.Rela{at(2, 0, 1), at(1, 0, 1)}, false},
		{[]api.Rela{at(1, 0, 1), at(2, 0, 1), at(1, 8, 1)}, false},
		{[]api.Rela{at(1, 0, 1), at(1, 8, 1), at(1, 4, 1)}, false},
		{[]api.Rela{at(1, 0, 1), at(1, 4, 1), at(1, 8, 1), at(2, 4, 1), at(2, 8, 1)}, true},
		{[]api.Rela{at(1, 0, 51), at(1, 0, 51)}, true},
		{[]api.Rela{at(1, 0, 17), at(1, 0, 51)}, true},
		{[]api.Rela{at(1, 0, 51), at(1, 0, 17)}, true},
		{[]api.Rela{at(1, 2, 51), at(1, 0, 51)}, false},
		{[]api.Rela{at(1, 2, 51), at(1, 0, 17)}, false},
		{[]api.Rela{at(1, 0, 43), at(1, 0, 43)}, true},
		{[]api.Rela{at(1, 0, 1), at(1, 0, 1)}, false},
		{[]api.Rela{at(1, 0, 51), at(1, 2, 51), at(1, 0, 51)}, false},
	} {
		wantCheck(t, "order of relocations", turned(o, func(o *api.Object) { o.Relas = c.relas }), c.may)
	}
}

// allTypes are relocations of each type, of RAlign with some Addends.
func allTypes() []api.Rela {
	var all []api.Rela
	for kind := range 256 {
		r := api.Rela{Type: uint8(kind)}
		switch _, e := rela.Field(r.Type); {
		case e != api.OK:
		case r.Type == api.RAlign:
			r.Symbol = none
			for _, r.Addend = range []int{0, 2, 4, 6, 8, 62} {
				all = append(all, r)
			}
		case r.Type == api.RRelax:
			r.Symbol = none
			all = append(all, r)
		default:
			all = append(all, r)
		}
	}
	return all
}

// wantPair holds Check's answer against what is to be said of just a and b, in a section of its own if number tells another one of b's; bytes are filled up.
func wantPair(t *testing.T, a, b api.Rela, may bool) {
	t.Helper()
	o := api.Object{Sections: []api.Section{text(make([]byte, 200)), text(make([]byte, 200))}, Symbols: []api.Symbol{global("f")}, Relas: []api.Rela{a, b}}
	for _, r := range o.Relas {
		if r.Type == api.RAlign {
			copy(o.Sections[r.Section-1].Data[r.Offset:], filled(r.Addend))
		}
	}
	wantCheck(t, "two relocations", o, may)
	if t.Failed() {
		t.Fatal(a, b, may)
	}
}

// P12.1: each pair of types, at one Offset and at each distance at which they overlap, meet, or do not.
func TestCheckApart(t *testing.T) {
	for _, a := range allTypes() {
		for _, b := range allTypes() {
			a.Section, b.Section, a.Offset = 1, 1, 80
			for distance := 0; distance <= max(reach(a), reach(b))+2; distance++ {
				b.Offset = 80 + distance
				if rela.Check(b, []api.Section{text(make([]byte, 200))}, 1) != api.OK {
					continue // an odd place
				}
				common := distance < reach(a) && reach(b) > 0
				together := distance == 0 && mayStandTogether(a.Type, b.Type)
				wantPair(t, a, b, !common || together)
				b.Section = 2
				wantPair(t, a, b, true)
				b.Section = 1
			}
		}
	}
}

// P12.1: some of these, written out, so that they don't hang on the tests' own reckoning.
func TestCheckApartByNames(t *testing.T) {
	at := func(offset int, kind uint8) api.Rela { return api.Rela{Section: 1, Offset: offset, Type: kind} }
	align := func(offset, addend int) api.Rela {
		return api.Rela{Section: 1, Offset: offset, Type: api.RAlign, Symbol: none, Addend: addend}
	}
	relax := api.Rela{Section: 1, Type: api.RRelax, Symbol: none}
	for _, c := range []struct {
		a, b api.Rela
		may  bool
	}{
		{at(0, api.RCall), at(4, api.RJal), false}, {at(0, api.RCall), at(6, api.RRvcJump), false}, {at(0, api.RCall), at(8, api.RJal), true},
		{at(0, api.R32), at(3, api.RAdd8), false}, {at(0, api.R32), at(4, api.RAdd8), true}, {at(0, api.RAdd8), at(1, api.R32), true},
		{at(0, api.RPcHi), at(0, api.RPcHi), false}, {at(0, api.RPcHi), at(0, api.RPcLoI), false}, {at(0, api.RPcHi), relax, true},
		{align(0, 6), at(4, api.RRvcJump), false}, {align(0, 6), at(6, api.RRvcJump), true}, {align(0, 0), at(0, api.RJal), true}, {at(0, api.RJal), align(0, 0), true},
		{at(0, api.RJal), align(0, 4), false}, {align(0, 4), relax, true}, {align(0, 6), align(2, 4), false}, {align(0, 2), align(2, 4), true}, {align(0, 62), at(60, api.RSub8), false}, {align(0, 62), at(62, api.RSub8), true},
		{at(0, api.RAdd8), at(0, api.RSub8), true}, {at(0, api.RSub16), at(0, api.RAdd16), true}, {at(0, api.RAdd32), at(0, api.RSub32), true}, {at(0, api.RSub64), at(0, api.RAdd64), true},
		{at(0, api.RAdd32), at(0, api.RAdd32), false}, {at(0, api.RSub32), at(0, api.RSub32), false}, {at(0, api.RAdd32), at(0, api.RSub16), false}, {at(0, api.RAdd8), at(0, api.RSub64), false}, {at(0, api.RAdd32), at(0, api.R32), false}, {at(0, api.R32), at(0, api.RSub32), false},
		{at(0, api.RAdd32), at(1, api.RSub32), false}, {at(0, api.RSub64), at(4, api.RAdd64), false}, {at(0, api.RAdd16), at(2, api.RSub16), true}, {at(0, api.RAdd64), at(4, api.RSub32), false},
	} {
		wantPair(t, c.a, c.b, c.may)
	}
}

// P12.1: three and more at one Offset: each two of them have to go together.
func TestCheckThreeAtOnce(t *testing.T) {
	add, sub := uint8(api.RAdd32), uint8(api.RSub32)
	for _, c := range []struct {
		kinds []uint8
		may   bool
	}{
		{[]uint8{add, sub, add}, false}, {[]uint8{add, sub, sub}, false}, {[]uint8{sub, add, sub}, false}, {[]uint8{add, add, sub}, false}, {[]uint8{sub, sub, add}, false}, {[]uint8{sub, add, add}, false},
		{[]uint8{add, sub, add, sub}, false}, {[]uint8{add, sub, api.R32}, false}, {[]uint8{api.RHi, add, sub}, false}, {[]uint8{add, sub, api.RAdd16}, false}, {[]uint8{add, sub, api.RAdd16, api.RSub16}, false},
		{[]uint8{add, sub, api.RRelax}, true}, {[]uint8{api.RRelax, add, api.RRelax, sub, api.RRelax}, true}, {[]uint8{add, api.RRelax, add}, false}, {[]uint8{add, api.RAlign, sub, api.RRelax}, true},
		{[]uint8{api.RRelax, api.RAlign, api.RRelax, api.RJal}, true}, {[]uint8{api.RJal, api.RRelax, api.RAlign, api.RJal}, false},
	} {
		for _, offset := range []int{0, 2, 8} {
			o := api.Object{Sections: []api.Section{text(make([]byte, 12))}, Symbols: []api.Symbol{global("f")}}
			for _, kind := range c.kinds {
				r := api.Rela{Section: 1, Offset: offset, Type: kind}
				if kind == api.RRelax || kind == api.RAlign {
					r.Symbol = none
				}
				o.Relas = append(o.Relas, r)
			}
			wantCheck(t, "some at one place", o, c.may)
		}
	}
	// One that stands between two does not hide that these have bytes in common.
	wantCheck(t, "one between", api.Object{Sections: []api.Section{text(make([]byte, 12))}, Symbols: []api.Symbol{global("f")}, Relas: []api.Rela{{Section: 1, Type: api.RCall}, {Section: 1, Offset: 2, Type: api.RRelax, Symbol: none}, {Section: 1, Offset: 4, Type: api.RJal}}}, false)
}

// P12.1: bytes of RAligns of each Addend, filled up as is said, at some places, and with each one byte turned.
func TestCheckFilledUp(t *testing.T) {
	for addend := 0; addend <= 62; addend += 2 {
		for _, offset := range []int{0, 2, 10} {
			b := bytes.Repeat([]byte{171}, offset)
			b = append(b, filled(addend)...)
			b = append(b, 205, 1, 0)
			o := api.Object{Sections: []api.Section{data(nil), text(b)}, Relas: []api.Rela{{Section: 2, Offset: offset, Type: api.RAlign, Symbol: none, Addend: addend}}}
			wantCheck(t, "filled up", o, true)
			for i := range b {
				for _, bit := range []byte{1, 2, 16, 128, 255} {
					inside := i >= offset && i < offset+addend
					wantCheck(t, "a byte turned", turned(o, func(o *api.Object) { o.Sections[1].Data[i] ^= bit }), !inside)
				}
			}
		}
	}
	for _, c := range []struct {
		b      string
		addend int
		may    bool
	}{
		{"", 0, true}, {"\x01\x00", 2, true}, {"\x13\x00", 2, false}, {"\x13\x00\x00\x00", 4, true}, {"\x01\x00\x01\x00", 4, false}, {"\x01\x00\x13\x00\x00\x00", 6, true},
		{"\x13\x00\x00\x00\x01\x00", 6, false}, {"\x01\x00\x01\x00\x01\x00", 6, false}, {"\x13\x00\x00\x00\x13\x00\x00\x00", 8, true}, {"\x00\x00\x00\x00", 4, false}, {"\x01\x00\x13\x00\x00\x00\x13\x00\x00\x00", 10, true},
	} {
		o := api.Object{Sections: []api.Section{text([]byte(c.b))}, Relas: []api.Rela{{Section: 1, Type: api.RAlign, Symbol: none, Addend: c.addend}}}
		wantCheck(t, "filled up, written out", o, c.may)
	}
}

// P12.1: groups: Signs that may be, unlike, and sections that rise, that there are, of one group each.
func TestCheckGroups(t *testing.T) {
	for many := range 17 {
		o := api.Object{Sections: slices.Repeat([]api.Section{data(nil)}, many)}
		for _, c := range []struct {
			sections []int
			may      bool
		}{
			{nil, false}, {[]int{}, false}, {[]int{0}, false}, {[]int{-1}, false}, {[]int{1}, many >= 1}, {[]int{many}, many >= 1}, {[]int{many + 1}, false}, {[]int{1, 2}, many >= 2}, {[]int{2, 1}, false}, {[]int{1, 1}, false}, {[]int{0, 1}, false},
			{[]int{1, 3}, many >= 3}, {[]int{1, 3, 2}, false}, {[]int{1, many + 1}, false}, {[]int{1, 2, 2}, false}, {[]int{math.MinInt}, false}, {[]int{math.MaxInt}, false}, {[]int{1, math.MaxInt}, false}, {[]int{1<<32 + 1}, false}, {[]int{1<<8 + 1}, false},
		} {
			o.Groups = []api.Group{{Sign: "g", Sections: c.sections}}
			wantCheck(t, "a group", o, c.may)
			if c.may {
				o.Groups = append(o.Groups, api.Group{Sign: "h", Sections: slices.Clone(c.sections)})
				wantCheck(t, "sections in two groups", o, false)
			}
		}
		var all []int
		for i := range many {
			all = append(all, i+1)
		}
		o.Groups = []api.Group{{Sign: "g", Sections: all}}
		wantCheck(t, "a group of all", o, many >= 1)
	}
	four := api.Object{Sections: slices.Repeat([]api.Section{data(nil)}, 4)}
	for _, c := range []struct {
		groups []api.Group
		may    bool
	}{
		{[]api.Group{{Sign: "g", Sections: []int{1}}, {Sign: "h", Sections: []int{2}}}, true},
		{[]api.Group{{Sign: "g", Sections: []int{3, 4}}, {Sign: "f", Sections: []int{1, 2}}}, true},
		{[]api.Group{{Sign: "g", Sections: []int{2, 4}}, {Sign: "f", Sections: []int{1, 3}}}, true},
		{[]api.Group{{Sign: "g", Sections: []int{1}}, {Sign: "g", Sections: []int{2}}}, false},
		{[]api.Group{{Sign: "g", Sections: []int{1}}, {Sign: "h", Sections: []int{2}}, {Sign: "g", Sections: []int{3}}}, false},
		{[]api.Group{{Sign: "g", Sections: []int{1, 2}}, {Sign: "h", Sections: []int{2, 3}}}, false},
		{[]api.Group{{Sign: "g", Sections: []int{1, 4}}, {Sign: "h", Sections: []int{2}}, {Sign: "i", Sections: []int{3, 4}}}, false},
		{[]api.Group{{Sign: "g", Sections: []int{1}}, {Sign: "h"}}, false},
		{[]api.Group{{Sign: "g", Sections: []int{1}}, {Sign: "G", Sections: []int{2}}, {Sign: "gg", Sections: []int{3}}}, true},
	} {
		four.Groups = c.groups
		wantCheck(t, "groups", four, c.may)
	}
	for sign, may := range map[string]bool{"": false, "!": true, "~": true, " ": false, "\x7f": false, "a b": false, "a\x00": false, "é": false, ".text": true, strings.Repeat("s", 32): true, strings.Repeat("s", 33): false} {
		four.Groups = []api.Group{{Sign: "first", Sections: []int{1}}, {Sign: sign, Sections: []int{3}}}
		wantCheck(t, "a sign "+sign, four, may)
		four.Groups = []api.Group{{Sign: sign, Sections: []int{1, 2, 3, 4}}}
		wantCheck(t, "a sign "+sign, four, may)
	}
}
