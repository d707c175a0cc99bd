package elfw_test

import (
	"bytes"
	"math"
	"reflect"
	"slices"
	"strings"
	"testing"

	"quoin/api"
	"quoin/elfw"
	"quoin/rela"
	"quoin/sect"
	"quoin/sym"
)

// none is the symbol of a relocation that has none.
const none = api.NoSymbol

// mixed are n bytes no two of which beside each other are alike.
func mixed(n int) []byte {
	b := make([]byte, n)
	for i := range b {
		b[i] = byte(i*167 + 131)
	}
	return b
}

// text, and data, are sections of their kinds that have these bytes; bss has so many.
func text(b []byte) api.Section {
	return api.Section{Name: ".text", Align: 4, Data: b}
}

func data(b []byte) api.Section {
	return api.Section{Name: ".data", Align: 8, Data: b}
}

func bss(size int) api.Section {
	return api.Section{Name: ".bss", Align: 16, Size: size}
}

// global and local are symbols of some name at the beginning of section 1.
func global(name string) api.Symbol {
	return api.Symbol{Name: name, Bind: api.BindGlobal, Where: 1}
}

func local(name string) api.Symbol {
	return api.Symbol{Name: name, Where: 1}
}

// numbered is a name of its own for each n.
func numbered(n int) string {
	return "n" + string(rune('a'+n/26)) + string(rune('a'+n%26))
}

// whole is an object with each thing that there is: locals of one name and sections of one name, groups, sections without bytes, and relocations that touch.
func whole() api.Object {
	return api.Object{
		Sections: []api.Section{
			text([]byte{0x97, 0, 0, 0, 0xe7, 0x80, 0, 0, 1, 0, 19, 0, 0, 0}),
			{Name: ".data.x", Align: 8, Data: []byte{1, 2, 3, 4, 5, 6, 7, 8, 9}},
			bss(100),
			{Name: ".text", Align: 2, Data: []byte{0x6f, 0, 0, 0}},
		},
		Symbols: []api.Symbol{
			{Name: "a", Where: 1}, {Name: "a", Where: 2, Value: 9}, {Name: "main", Bind: api.BindGlobal, Where: 1, Size: 14},
			{Name: "w", Bind: api.BindWeak, Hidden: true, Where: 3, Value: 4, Size: 96}, {Name: "f", Bind: api.BindGlobal},
			{Name: "buf", Bind: api.BindGlobal, Where: api.Common, Value: 8, Size: 64}, {Name: "k", Bind: api.BindGlobal, Where: api.Absolute, Value: -7},
		},
		Relas: []api.Rela{
			{Section: 1, Type: api.RCall, Symbol: 4, Addend: -1}, {Section: 1, Type: api.RRelax, Symbol: none}, {Section: 1, Offset: 8, Type: api.RAlign, Symbol: none, Addend: 6},
			{Section: 2, Type: api.RAdd32, Symbol: 1, Addend: 4}, {Section: 2, Type: api.RSub32, Symbol: 0}, {Section: 2, Offset: 4, Type: api.R32, Symbol: 5, Addend: 1<<32 - 1},
			{Section: 4, Type: api.RJal, Symbol: 2},
		},
		Groups: []api.Group{{Sign: "x", Sections: []int{2, 4}}, {Sign: "y", Sections: []int{3}}},
	}
}

// dice tell numbers that hang on where they begin alone.
type dice uint64

// below is a number from 0 to one less than n.
func (d *dice) below(n int) int {
	*d = *d*6364136223846793005 + 1442695040888963407
	return int(uint64(*d)>>33) % n
}

// made is an object that may be, another one for each seed.
func made(seed int) api.Object {
	d := dice(seed)
	d.below(2)
	var o api.Object
	names := []string{".text", ".text.a", ".rodata", ".rodata.str", ".data", ".data.y", ".bss", ".bss.z"}
	for range d.below(17) {
		s := api.Section{Name: names[d.below(len(names))], Align: 1 << d.below(7)}
		if strings.HasPrefix(s.Name, ".bss") {
			s.Size = d.below(4097)
		} else {
			s.Data = mixed(d.below(100))
		}
		o.Sections = append(o.Sections, s)
	}
	o.Symbols = madeSymbols(&d, o.Sections)
	for i := range o.Sections {
		o.Relas = append(o.Relas, madeRelas(&d, o, i+1)...)
	}
	if len(o.Relas) > api.MaxRelas {
		o.Relas = o.Relas[:api.MaxRelas]
	}
	for i := range o.Sections {
		switch n := d.below(6); {
		case n == 0:
			o.Groups = append(o.Groups, api.Group{Sign: numbered(i), Sections: []int{i + 1}})
		case n < 3 && len(o.Groups) > 0:
			g := &o.Groups[d.below(len(o.Groups))]
			g.Sections = append(g.Sections, i+1)
		}
	}
	return o
}

// madeSymbols are some of an object of sections.
func madeSymbols(d *dice, sections []api.Section) []api.Symbol {
	var all []api.Symbol
	many := d.below(20)
	for i := range many {
		s := api.Symbol{Name: numbered(i), Bind: api.BindGlobal}
		switch where := d.below(len(sections)+4) - 2; {
		case where > 0 && where <= len(sections):
			s.Where = where
			room := len(sections[where-1].Data) + sections[where-1].Size
			s.Value = d.below(room + 1)
			s.Size = d.below(room - s.Value + 1)
			s.Bind = uint8(d.below(3))
		case where == api.Absolute:
			s.Where, s.Value = where, d.below(1<<20)-1<<19
			s.Bind = uint8(d.below(3))
		case where == api.Common:
			s.Where, s.Value, s.Size = where, 1<<d.below(7), 1+d.below(4096)
		}
		if s.Bind == api.BindLocal {
			s.Name = numbered(d.below(many))
		} else {
			s.Hidden = d.below(2) == 0
		}
		all = append(all, s)
	}
	slices.SortStableFunc(all, func(a, b api.Symbol) int { return min(1, int(a.Bind)) - min(1, int(b.Bind)) })
	return all
}

// madeRelas are some of o's section of that number, apart; bytes of that section are filled up for them.
func madeRelas(d *dice, o api.Object, number int) []api.Rela {
	s := o.Sections[number-1]
	code := strings.HasPrefix(s.Name, ".text")
	types := []uint8{api.R32, api.R64, api.RAdd8, api.RAdd16, api.RAdd32, api.RAdd64}
	if code {
		types = append(types, api.RBranch, api.RJal, api.RCall, api.RPcHi, api.RPcLoI, api.RPcLoS, api.RHi, api.RLoI, api.RLoS, api.RAlign, api.RRelax, api.RRvcBranch, api.RRvcJump)
	}
	var all []api.Rela
	for at := 0; at <= len(s.Data); at += d.below(3) * 2 {
		r := api.Rela{Section: number, Offset: at, Type: types[d.below(len(types))], Symbol: none}
		size, _ := rela.Field(r.Type)
		switch r.Type {
		case api.RAlign:
			size = 2 * d.below(32)
			r.Addend = size
		case api.RRelax:
		default:
			if len(o.Symbols) == 0 {
				continue
			}
			r.Symbol = d.below(len(o.Symbols))
			if r.Type != api.RPcLoI && r.Type != api.RPcLoS {
				r.Addend = d.below(4096) - 2048
			}
		}
		if at+size > len(s.Data) || strings.HasPrefix(s.Name, ".bss") {
			continue
		}
		if r.Type == api.RAlign {
			copy(s.Data[at:], filled(size))
		}
		all = append(all, r)
		if r.Type >= api.RAdd8 && r.Type <= api.RAdd64 && d.below(2) == 0 {
			r.Type += api.RSub8 - api.RAdd8
			all = append(all, r)
		}
		if code && size%2 == 1 {
			size++
		}
		at += size
	}
	return all
}

// filled are the bytes that fill up an RAlign of that Addend, by the chapter's words.
func filled(addend int) []byte {
	b := bytes.Repeat([]byte{19, 0, 0, 0}, addend/4)
	if addend%4 == 2 {
		return append([]byte{1, 0}, b...)
	}
	return b
}

// samples are objects that may be.
func samples() []api.Object {
	all := []api.Object{
		{}, whole(),
		{Sections: []api.Section{text(nil)}},
		{Sections: []api.Section{bss(0)}, Groups: []api.Group{{Sign: "g", Sections: []int{1}}}},
		{Sections: []api.Section{text([]byte{1}), {Name: ".bss", Align: 64, Size: 4096}, {Name: ".data", Align: 1, Data: []byte{2}}, {Name: ".rodata", Align: 64}, {Name: ".rodata", Align: 2, Data: []byte{3}}}},
		{Symbols: []api.Symbol{{Name: "f", Bind: api.BindGlobal}}},
		{Symbols: []api.Symbol{{Name: "f", Where: api.Absolute}, {Name: "f", Where: api.Absolute}, {Name: "f", Bind: api.BindWeak}}},
		{Sections: []api.Section{text(nil)}, Relas: []api.Rela{{Section: 1, Type: api.RRelax, Symbol: none}, {Section: 1, Type: api.RRelax, Symbol: none}}},
	}
	for seed := range 120 {
		all = append(all, made(seed))
	}
	return all
}

// reach is how far a relocation goes.
func reach(r api.Rela) int {
	if r.Type == api.RAlign {
		return r.Addend
	}
	size, _ := rela.Field(r.Type)
	return size
}

// mayStandTogether tells whether relocations of types a and b may have just the same bytes, by the chapter's words.
func mayStandTogether(a, b uint8) bool {
	for _, pair := range [][2]uint8{{33, 37}, {34, 38}, {35, 39}, {36, 40}} {
		if pair == [2]uint8{a, b} || pair == [2]uint8{b, a} {
			return true
		}
	}
	return false
}

// areApart tells whether relas are, by whose each byte is.
func areApart(relas []api.Rela) bool {
	type place struct{ section, at int }
	owners := map[place][]api.Rela{}
	for _, r := range relas {
		for at := r.Offset; at < r.Offset+reach(r); at++ {
			for _, other := range owners[place{r.Section, at}] {
				if other.Offset != r.Offset || !mayStandTogether(r.Type, other.Type) {
					return false
				}
			}
			owners[place{r.Section, at}] = append(owners[place{r.Section, at}], r)
		}
	}
	return true
}

// mayBe tells whether o may be, by the chapter's words.
func mayBe(o api.Object) bool {
	if len(o.Sections) > 16 || len(o.Symbols) > 64 || len(o.Relas) > 256 || len(o.Groups) > 16 {
		return false
	}
	for _, s := range o.Sections {
		if sect.Check(s) != api.OK {
			return false
		}
	}
	known := map[string]bool{}
	for _, s := range o.Symbols {
		if sym.Check(s, len(o.Sections)) != api.OK || s.Bind == 0 && len(known) > 0 || s.Bind != 0 && known[s.Name] {
			return false
		}
		if s.Bind != 0 {
			known[s.Name] = true
		}
		if s.Where > 0 {
			in := o.Sections[s.Where-1]
			if s.Value+s.Size > len(in.Data)+in.Size {
				return false
			}
		}
	}
	return relasMayBe(o) && groupsMayBe(o)
}

// relasMayBe tells whether o's relocations may be.
func relasMayBe(o api.Object) bool {
	for i, r := range o.Relas {
		if rela.Check(r, o.Sections, len(o.Symbols)) != api.OK {
			return false
		}
		if i > 0 && (r.Section*10000+r.Offset < o.Relas[i-1].Section*10000+o.Relas[i-1].Offset) {
			return false
		}
		if r.Type == api.RAlign && !bytes.HasPrefix(o.Sections[r.Section-1].Data[r.Offset:], filled(r.Addend)) {
			return false
		}
	}
	return areApart(o.Relas)
}

// groupsMayBe tells whether o's groups may be.
func groupsMayBe(o api.Object) bool {
	signs, taken := map[string]bool{}, map[int]bool{}
	for _, g := range o.Groups {
		if len(g.Sign) < 1 || len(g.Sign) > 32 || strings.Trim(g.Sign, letters()) != "" || signs[g.Sign] || len(g.Sections) == 0 || !slices.IsSorted(g.Sections) {
			return false
		}
		signs[g.Sign] = true
		for _, n := range g.Sections {
			if n < 1 || n > len(o.Sections) || taken[n] {
				return false
			}
			taken[n] = true
		}
	}
	return true
}

// letters are all bytes of names.
func letters() string {
	var b []byte
	for c := byte(33); c <= 126; c++ {
		b = append(b, c)
	}
	return string(b)
}

// few are some of the samples, with parts of each kind.
func few() []api.Object {
	some := []api.Object{{}, whole(), roomy(whole())}
	for seed := 0; len(some) < 8; seed++ {
		o := made(seed)
		if len(o.Groups) > 0 && len(o.Symbols) > 2 && len(o.Relas) > 2 && len(o.Relas) < 30 {
			some = append(some, o)
		}
	}
	return some
}

// roomy is o with lists that have room to spare, in which something stands.
func roomy(o api.Object) api.Object {
	o = elfw.Twin(o)
	for i := range o.Sections {
		s := &o.Sections[i]
		s.Data = append(s.Data, mixed(9)...)[:len(s.Data)]
	}
	for i := range o.Groups {
		g := &o.Groups[i]
		g.Sections = append(g.Sections, 1, 2, 3)[:len(g.Sections)]
	}
	o.Sections = append(o.Sections, text(mixed(7)), data(nil))[:len(o.Sections)]
	o.Symbols = append(o.Symbols, local("spare"), global("room"))[:len(o.Symbols)]
	o.Relas = append(o.Relas, api.Rela{Section: 9, Offset: 9, Type: 9, Symbol: 9})[:len(o.Relas)]
	o.Groups = append(o.Groups, api.Group{Sign: "spare", Sections: []int{7}})[:len(o.Groups)]
	return o
}

// variants are objects each of which differs from o in one field, or in how many or which of a list there are.
func variants(o api.Object) []api.Object {
	all := slices.Concat(sectionVariants(o), symbolVariants(o), relaVariants(o), groupVariants(o))
	for _, f := range []func(o *api.Object){
		func(o *api.Object) { o.Sections = append(o.Sections, data(nil)) },
		func(o *api.Object) { o.Sections = o.Sections[:max(0, len(o.Sections)-1)] },
		func(o *api.Object) { slices.Reverse(o.Sections) },
		func(o *api.Object) { o.Symbols = append(o.Symbols, global("more")) },
		func(o *api.Object) {
			o.Symbols = append([]api.Symbol{{Name: "more", Where: api.Absolute}}, o.Symbols...)
		},
		func(o *api.Object) { o.Symbols = o.Symbols[:max(0, len(o.Symbols)-1)] },
		func(o *api.Object) { slices.Reverse(o.Symbols) },
		func(o *api.Object) {
			o.Relas = append(o.Relas, api.Rela{Section: len(o.Sections), Type: api.RRelax, Symbol: none})
		},
		func(o *api.Object) { o.Relas = o.Relas[:max(0, len(o.Relas)-1)] },
		func(o *api.Object) { slices.Reverse(o.Relas) },
		func(o *api.Object) {
			o.Groups = append(o.Groups, api.Group{Sign: "more", Sections: []int{len(o.Sections)}})
		},
		func(o *api.Object) { o.Groups = o.Groups[:max(0, len(o.Groups)-1)] },
		func(o *api.Object) { slices.Reverse(o.Groups) },
	} {
		all = append(all, turned(o, f))
	}
	return slices.DeleteFunc(all, func(v api.Object) bool { return isAlike(v, o) })
}

// sectionVariants are those in a section's field.
func sectionVariants(o api.Object) []api.Object {
	var all []api.Object
	for i, was := range o.Sections {
		for _, f := range []func(s *api.Section){
			func(s *api.Section) { s.Name += "." },
			func(s *api.Section) { s.Name = ".data.other" },
			func(s *api.Section) { s.Name = ".rodata" },
			func(s *api.Section) { s.Name = "" },
			func(s *api.Section) { s.Align *= 2 },
			func(s *api.Section) { s.Align /= 2 },
			func(s *api.Section) { s.Align += 128 },
			func(s *api.Section) { s.Data = append(s.Data, 0) },
			func(s *api.Section) { s.Data = s.Data[:max(0, len(s.Data)-1)] },
			func(s *api.Section) { s.Size++ },
			func(s *api.Section) { s.Size-- },
			func(s *api.Section) { s.Size = math.MaxInt },
			func(s *api.Section) { s.Size = math.MinInt },
		} {
			all = append(all, turned(o, func(o *api.Object) { f(&o.Sections[i]) }))
		}
		for j := range was.Data {
			all = append(all, turned(o, func(o *api.Object) { o.Sections[i].Data[j] ^= 1 }))
		}
	}
	return all
}

// symbolVariants are those in a symbol's field.
func symbolVariants(o api.Object) []api.Object {
	var all []api.Object
	for i := range o.Symbols {
		for _, f := range []func(s *api.Symbol){
			func(s *api.Symbol) { s.Name += "." },
			func(s *api.Symbol) { s.Name = "other" },
			func(s *api.Symbol) { s.Name = "" },
			func(s *api.Symbol) { s.Bind++ },
			func(s *api.Symbol) { s.Bind-- },
			func(s *api.Symbol) { s.Bind ^= 3 },
			func(s *api.Symbol) { s.Hidden = !s.Hidden },
			func(s *api.Symbol) { s.Where++ },
			func(s *api.Symbol) { s.Where-- },
			func(s *api.Symbol) { s.Where += 1 << 16 },
			func(s *api.Symbol) { s.Value++ },
			func(s *api.Symbol) { s.Value-- },
			func(s *api.Symbol) { s.Value = math.MaxInt },
			func(s *api.Symbol) { s.Size++ },
			func(s *api.Symbol) { s.Size-- },
			func(s *api.Symbol) { s.Size = math.MaxInt },
		} {
			all = append(all, turned(o, func(o *api.Object) { f(&o.Symbols[i]) }))
		}
	}
	return all
}

// relaVariants are those in a relocation's field.
func relaVariants(o api.Object) []api.Object {
	var all []api.Object
	for i := range o.Relas {
		for _, by := range []int{1, -1, 2, -2, 4, -4, 8, 1 << 32, math.MinInt} {
			for _, f := range []func(r *api.Rela) *int{
				func(r *api.Rela) *int { return &r.Section },
				func(r *api.Rela) *int { return &r.Offset },
				func(r *api.Rela) *int { return &r.Symbol },
				func(r *api.Rela) *int { return &r.Addend },
			} {
				all = append(all, turned(o, func(o *api.Object) { *f(&o.Relas[i]) += by }))
			}
		}
		for kind := range uint8(60) {
			all = append(all, turned(o, func(o *api.Object) { o.Relas[i].Type = kind }))
		}
	}
	return all
}

// groupVariants are those in a group's field.
func groupVariants(o api.Object) []api.Object {
	var all []api.Object
	for i, was := range o.Groups {
		for _, f := range []func(g *api.Group){
			func(g *api.Group) { g.Sign += "." },
			func(g *api.Group) { g.Sign = "" },
			func(g *api.Group) { g.Sections = nil },
			func(g *api.Group) { g.Sections = g.Sections[1:] },
			func(g *api.Group) { g.Sections = append(g.Sections, g.Sections[len(g.Sections)-1]+1) },
			func(g *api.Group) { slices.Reverse(g.Sections) },
		} {
			all = append(all, turned(o, func(o *api.Object) { f(&o.Groups[i]) }))
		}
		for j := range was.Sections {
			for _, by := range []int{1, -1, 16, math.MinInt} {
				all = append(all, turned(o, func(o *api.Object) { o.Groups[i].Sections[j] += by }))
			}
		}
	}
	return all
}

// fully is o in new memory, each list with what is in its spare room, and nil, if that is nothing.
func fully(o api.Object) api.Object {
	var all api.Object
	for _, s := range o.Sections[:cap(o.Sections)] {
		s.Data = append([]byte(nil), s.Data[:cap(s.Data)]...)
		all.Sections = append(all.Sections, s)
	}
	for _, g := range o.Groups[:cap(o.Groups)] {
		g.Sections = append([]int(nil), g.Sections[:cap(g.Sections)]...)
		all.Groups = append(all.Groups, g)
	}
	all.Symbols = append(all.Symbols, o.Symbols[:cap(o.Symbols)]...)
	all.Relas = append(all.Relas, o.Relas[:cap(o.Relas)]...)
	return all
}

// cut is o without room to spare.
func cut(o api.Object) api.Object {
	o.Sections = slices.Clone(slices.Clip(o.Sections))
	for i, s := range o.Sections {
		o.Sections[i].Data = slices.Clip(s.Data)
	}
	o.Groups = slices.Clone(slices.Clip(o.Groups))
	for i, g := range o.Groups {
		o.Groups[i].Sections = slices.Clip(g.Sections)
	}
	o.Sections, o.Symbols, o.Relas, o.Groups = slices.Clip(o.Sections), slices.Clip(o.Symbols), slices.Clip(o.Relas), slices.Clip(o.Groups)
	return o
}

// isAlike tells whether all fields of a and b are the same, by what the library makes of them.
func isAlike(a, b api.Object) bool {
	return reflect.DeepEqual(fully(cut(a)), fully(cut(b)))
}

// wantCheck holds Check's answer against whether o may be; what may not be is not written either.
func wantCheck(t *testing.T, what string, o api.Object, may bool) {
	t.Helper()
	want := api.OK
	if !may {
		want = api.ErrBad
		if b, e := elfw.Write(o); e != api.ErrBad || len(b) != 0 {
			t.Errorf("%s: Write = %d bytes, %d; want none, %d", what, len(b), int(e), int(api.ErrBad))
		}
	}
	if e := elfw.Check(o); e != want {
		t.Errorf("%s: Check = %d; want %d", what, int(e), int(want))
	}
}

// turned is o with a change.
func turned(o api.Object, turn func(o *api.Object)) api.Object {
	twin := elfw.Twin(o)
	turn(&twin)
	return twin
}

// P12.1: Same tells of objects that differ in one field, and of such as do not.
func TestSame(t *testing.T) {
	for _, o := range few() {
		if !elfw.Same(o, o) || !elfw.Same(o, fully(cut(o))) {
			t.Errorf("%+v is not the same", o)
		}
		for _, v := range variants(o) {
			if elfw.Same(o, v) || elfw.Same(v, o) || !elfw.Same(v, elfw.Twin(v)) {
				t.Fatalf("%+v\nand\n%+v", o, v)
			}
		}
	}
	all := samples()
	for i := range all {
		for j := range all {
			if elfw.Same(all[i], all[j]) != isAlike(all[i], all[j]) {
				t.Fatalf("%+v\nand\n%+v", all[i], all[j])
			}
		}
	}
}

// P12.1: a list without elements is the same, nil or not, in each place of an object.
func TestSameOfEmptyLists(t *testing.T) {
	for _, c := range [][2]api.Object{
		{{}, {Sections: []api.Section{}}},
		{{}, {Symbols: []api.Symbol{}}},
		{{}, {Relas: []api.Rela{}}},
		{{}, {Groups: []api.Group{}}},
		{{}, {Sections: []api.Section{}, Symbols: []api.Symbol{}, Relas: []api.Rela{}, Groups: []api.Group{}}},
		{{Sections: []api.Section{data(nil)}}, {Sections: []api.Section{data([]byte{})}}},
		{{Sections: []api.Section{bss(9)}}, {Sections: []api.Section{{Name: ".bss", Align: 16, Data: []byte{}, Size: 9}}}},
		{{Groups: []api.Group{{Sign: "g"}}}, {Groups: []api.Group{{Sign: "g", Sections: []int{}}}}},
	} {
		if !elfw.Same(c[0], c[1]) || !elfw.Same(c[1], c[0]) {
			t.Errorf("%#v\nand\n%#v", c[0], c[1])
		}
		if elfw.Check(c[0]) != elfw.Check(c[1]) {
			t.Errorf("Check tells two things of %#v\nand\n%#v", c[0], c[1])
		}
		a, _ := elfw.Write(c[0])
		b, _ := elfw.Write(c[1])
		if !bytes.Equal(a, b) {
			t.Errorf("Write of %#v\nand\n%#v", c[0], c[1])
		}
	}
}

// P12.1: Same looks at each field alone, written out.
func TestSameOfEachField(t *testing.T) {
	o := api.Object{
		Sections: []api.Section{{Name: "n", Align: 1, Data: []byte{1}, Size: 1}},
		Symbols:  []api.Symbol{{Name: "n", Bind: 1, Hidden: true, Where: 1, Value: 1, Size: 1}},
		Relas:    []api.Rela{{Section: 1, Offset: 1, Type: 1, Symbol: 1, Addend: 1}},
		Groups:   []api.Group{{Sign: "n", Sections: []int{1}}},
	}
	for i, turn := range []func(o *api.Object){
		func(o *api.Object) { o.Sections = nil }, func(o *api.Object) { o.Symbols = nil }, func(o *api.Object) { o.Relas = nil }, func(o *api.Object) { o.Groups = nil },
		func(o *api.Object) { o.Sections[0].Name = "m" }, func(o *api.Object) { o.Sections[0].Align = 2 }, func(o *api.Object) { o.Sections[0].Data[0] = 2 }, func(o *api.Object) { o.Sections[0].Data = nil }, func(o *api.Object) { o.Sections[0].Size = 2 },
		func(o *api.Object) { o.Symbols[0].Name = "m" }, func(o *api.Object) { o.Symbols[0].Bind = 2 }, func(o *api.Object) { o.Symbols[0].Hidden = false }, func(o *api.Object) { o.Symbols[0].Where = 2 }, func(o *api.Object) { o.Symbols[0].Value = 2 }, func(o *api.Object) { o.Symbols[0].Size = 2 },
		func(o *api.Object) { o.Relas[0].Section = 2 }, func(o *api.Object) { o.Relas[0].Offset = 2 }, func(o *api.Object) { o.Relas[0].Type = 2 }, func(o *api.Object) { o.Relas[0].Symbol = 2 }, func(o *api.Object) { o.Relas[0].Addend = 2 },
		func(o *api.Object) { o.Groups[0].Sign = "m" }, func(o *api.Object) { o.Groups[0].Sections[0] = 2 }, func(o *api.Object) { o.Groups[0].Sections = nil }, func(o *api.Object) { o.Groups[0].Sections = []int{1, 2} },
	} {
		other := turned(o, turn)
		if elfw.Same(o, other) || elfw.Same(other, o) || !elfw.Same(other, other) {
			t.Errorf("change %d: %+v", i, other)
		}
	}
}

// span is where a list's memory is, its spare room too.
type span struct{ from, to uintptr }

// spans are those of all of o's lists that have any.
func spans(o api.Object) []span {
	lists := []any{o.Sections, o.Symbols, o.Relas, o.Groups}
	for _, s := range o.Sections {
		lists = append(lists, s.Data)
	}
	for _, g := range o.Groups {
		lists = append(lists, g.Sections)
	}
	var all []span
	for _, list := range lists {
		v := reflect.ValueOf(list)
		if v.Cap() > 0 {
			all = append(all, span{v.Pointer(), v.Pointer() + uintptr(v.Cap())*v.Type().Elem().Size()})
		}
	}
	return all
}

// wantApart holds that no two of all have memory in common.
func wantApart(t *testing.T, all []span) {
	t.Helper()
	for i, a := range all {
		for _, b := range all[:i] {
			if max(a.from, b.from) < min(a.to, b.to) {
				t.Errorf("lists share memory: %v", all)
				return
			}
		}
	}
}

// P12.1, P12.3: a twin is the same, of objects that may not be too, and new memory in every part.
func TestTwin(t *testing.T) {
	shared := mixed(20)
	numbers := []int{3, 1, 2, 2, 9}
	wrong := api.Object{
		Sections: []api.Section{{}, {Name: "wrong", Align: -1, Data: shared[:10], Size: 7}, {Name: "wrong", Data: shared}, text(shared[5:])},
		Symbols:  []api.Symbol{{}, {Name: "s", Bind: 9, Hidden: true, Where: -9, Value: -1, Size: -1}},
		Relas:    []api.Rela{{}, {Section: -1, Offset: -1, Type: 255, Symbol: -9, Addend: math.MinInt}},
		Groups:   []api.Group{{}, {Sign: "", Sections: numbers}, {Sign: "g", Sections: numbers[1:3]}},
	}
	many := api.Object{Sections: slices.Repeat(wrong.Sections, 30), Symbols: slices.Repeat(wrong.Symbols, 300), Relas: slices.Repeat(wrong.Relas, 300), Groups: slices.Repeat(wrong.Groups, 30)}
	for _, o := range append(samples(), wrong, roomy(wrong), many, roomy(whole())) {
		before := fully(o)
		twin := elfw.Twin(o)
		if !isAlike(twin, o) {
			t.Fatalf("the twin of %+v is %+v", o, twin)
		}
		wantApart(t, spans(twin))
		for _, s := range spans(o) {
			wantApart(t, append(spans(twin), s))
		}
		spoil(twin)
		if !reflect.DeepEqual(fully(o), before) {
			t.Fatalf("a change of its twin has changed %+v", o)
		}
	}
}

// spoil changes all of o, its spare room too.
func spoil(o api.Object) {
	for _, s := range o.Sections[:cap(o.Sections)] {
		clear(s.Data[:cap(s.Data)])
	}
	for _, g := range o.Groups[:cap(o.Groups)] {
		clear(g.Sections[:cap(g.Sections)])
	}
	clear(o.Sections[:cap(o.Sections)])
	clear(o.Symbols[:cap(o.Symbols)])
	clear(o.Relas[:cap(o.Relas)])
	clear(o.Groups[:cap(o.Groups)])
}

// P12.3: objects, with their spare room, are as they were, whether they may be or not.
func TestObjectsAreOnlyRead(t *testing.T) {
	for _, some := range few() {
		for _, o := range append(variants(some), some) {
			o = roomy(o)
			before := fully(o)
			elfw.Check(o)
			elfw.Write(o)
			elfw.Same(o, o)
			elfw.Same(o, some)
			elfw.Twin(o)
			if !reflect.DeepEqual(fully(o), before) {
				t.Fatalf("%+v has changed to %+v", before, fully(o))
			}
		}
	}
}

// P12.3: a file is new memory: it shares none with its object, nor with another file.
func TestFilesAreNewMemory(t *testing.T) {
	for _, o := range few() {
		before := fully(o)
		kept, _ := elfw.Write(o)
		other, _ := elfw.Write(o)
		want := bytes.Clone(kept)
		clear(other[:cap(other)])
		if !bytes.Equal(kept, want) {
			t.Errorf("a change of one file has changed another")
		}
		if !reflect.DeepEqual(fully(o), before) {
			t.Errorf("a change of a file has changed its object")
		}
		spoil(o)
		if !bytes.Equal(kept, want) {
			t.Errorf("a change of an object has changed its file")
		}
	}
}

// Every row of the chapter's 'Examples'.
func TestExamples(t *testing.T) {
	b, e := elfw.Write(api.Object{})
	if e != api.OK || len(b) != 376 || number(b, 60, 2) != 4 {
		t.Error(len(b), int(e))
	}
	o := api.Object{Sections: []api.Section{text(make([]byte, 8))}, Symbols: []api.Symbol{global("f")}}
	o.Relas = []api.Rela{{Section: 1, Type: api.RCall}, {Section: 1, Offset: 4, Type: api.RJal}}
	wantCheck(t, "RCall and RJal", o, false)
	o.Relas = []api.Rela{{Section: 1, Type: api.RAdd32}, {Section: 1, Type: api.RSub32}}
	wantCheck(t, "RAdd32 and RSub32", o, true)
	o.Relas = nil
	o.Symbols = []api.Symbol{global("f"), local("l")}
	wantCheck(t, "a global ahead of a local", o, false)
	o.Symbols = []api.Symbol{global("f"), global("f")}
	wantCheck(t, "two globals f", o, false)
	if api.ErrBad != 8 || api.ErrFull != 9 {
		t.Error("the errors' numbers are not the chapter's", int(api.ErrBad), int(api.ErrFull))
	}
}
