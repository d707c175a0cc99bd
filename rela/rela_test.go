package rela_test

import (
	"bytes"
	"math"
	"math/big"
	"slices"
	"strings"
	"testing"

	"quoin/api"
	"quoin/rela"
)

// types are all that there are, by their numbers: how many bytes each is about, and whether it is about an instruction (so that it has to be at an even place of a .text).
var types = []struct {
	kind uint8
	size int
	code bool
}{
	{1, 4, false}, {2, 8, false},
	{16, 4, true}, {17, 4, true}, {18, 8, true},
	{23, 4, true}, {24, 4, true}, {25, 4, true}, {26, 4, true}, {27, 4, true}, {28, 4, true},
	{33, 1, false}, {34, 2, false}, {35, 4, false}, {36, 8, false},
	{37, 1, false}, {38, 2, false}, {39, 4, false}, {40, 8, false},
	{43, 0, true}, {44, 2, true}, {45, 2, true}, {51, 0, true},
}

// far are numbers that no Section, Offset or Symbol is, those among them that would be one, if they were cut.
var far = []int{math.MinInt, math.MinInt + 1, -1<<32 - 1, -1 << 32, -1<<32 + 2, -1 << 31, -1 << 16, -1 << 8, -256 + 2, 1<<16 + 2, 1 << 31, 1<<32 - 1, 1 << 32, 1<<32 + 1, 1<<32 + 2, 1 << 62, math.MaxInt - 7, math.MaxInt - 1, math.MaxInt}

// addends are at, below and above each end of what an Addend may be, of all types and of some, and such as wrap round.
var addends = []int{
	math.MinInt, math.MinInt + 1, -1<<32 - 1, -1 << 32, -1<<31 - 2, -1<<31 - 1, -1 << 31, -1<<31 + 1, -4096, -256, -64, -62, -3, -2, -1,
	0, 1, 2, 3, 4, 60, 61, 62, 63, 64, 65, 66, 128, 255, 256, 258, 4096, 1<<31 - 1, 1 << 31, 1<<31 + 1, 1<<32 - 2, 1<<32 - 1, 1 << 32, 1<<32 + 1, 1<<32 + 2, 1 << 62, math.MaxInt - 1, math.MaxInt,
}

// within tells whether n is from low to high.
func within(n, low, high int) bool {
	return n >= low && n <= high
}

// mayBe tells whether r may be in an object of sections (that may be) and so many symbols, by the chapter's words.
func mayBe(r api.Rela, sections []api.Section, symbols int) bool {
	at := slices.IndexFunc(types, func(row struct {
		kind uint8
		size int
		code bool
	}) bool {
		return row.kind == r.Type
	})
	if at < 0 || !within(r.Section, 1, len(sections)) || !within(r.Addend, -2147483648, 4294967295) {
		return false
	}
	s := sections[r.Section-1]
	if strings.HasPrefix(s.Name, ".bss") {
		return false
	}
	if types[at].code && (!strings.HasPrefix(s.Name, ".text") || r.Offset%2 != 0) {
		return false
	}
	last := len(s.Data) - types[at].size
	switch r.Type {
	case 43:
		last -= r.Addend
		return r.Symbol == -1 && r.Addend%2 == 0 && within(r.Addend, 0, 62) && within(r.Offset, 0, last)
	case 51:
		return r.Symbol == -1 && r.Addend == 0 && within(r.Offset, 0, last)
	case 24, 25:
		return r.Addend == 0 && within(r.Symbol, 0, symbols-1) && within(r.Offset, 0, last)
	}
	return within(r.Symbol, 0, symbols-1) && within(r.Offset, 0, last)
}

// hasBytes tells whether r has bytes, by the chapter's words.
func hasBytes(r api.Rela) bool {
	for _, row := range types {
		if row.kind == r.Type {
			return within(r.Offset, 0, 4096) && within(r.Symbol, -1, 63) && within(r.Addend, -2147483648, 4294967295)
		}
	}
	return false
}

// bytesOf are the size bytes of n, by division alone, so that the tests don't lean on what they test.
func bytesOf(n, size int) []byte {
	rest := big.NewInt(int64(n))
	if n < 0 {
		rest.Add(rest, new(big.Int).Lsh(big.NewInt(1), 64))
	}
	var b []byte
	for range size {
		lowest := new(big.Int)
		rest.DivMod(rest, big.NewInt(256), lowest)
		b = append(b, byte(lowest.Int64()))
	}
	return b
}

// bytesOfRela are the 24 bytes of r (that has some).
func bytesOfRela(r api.Rela) []byte {
	return slices.Concat(bytesOf(r.Offset, 8), []byte{r.Type, 0, 0, 0, byte(r.Symbol + 1), 0, 0, 0}, bytesOf(r.Addend, 8))
}

// long is the number of eight bytes, by sums of great numbers.
func long(b []byte) int {
	sum := new(big.Int)
	for i := 7; i >= 0; i-- {
		sum.Mul(sum, big.NewInt(256))
		sum.Add(sum, big.NewInt(int64(b[i])))
	}
	if b[7] > 127 {
		sum.Sub(sum, new(big.Int).Lsh(big.NewInt(1), 64))
	}
	return int(sum.Int64())
}

// relaOf is the relocation whose 24 bytes b are, and whether they are any's, by the chapter's words.
func relaOf(b []byte) (api.Rela, bool) {
	for _, at := range []int{9, 10, 11, 13, 14, 15} {
		if b[at] != 0 {
			return api.Rela{}, false
		}
	}
	r := api.Rela{Offset: long(b[:8]), Type: b[8], Symbol: int(b[12]) - 1, Addend: long(b[16:])}
	if !hasBytes(r) {
		return api.Rela{}, false
	}
	return r, true
}

// text, and the others, are sections of their kinds with so many bytes.
func text(size int) api.Section {
	return api.Section{Name: ".text", Align: 4, Data: make([]byte, size)}
}

func rodata(size int) api.Section {
	return api.Section{Name: ".rodata.r", Align: 1, Data: make([]byte, size)}
}

func data(size int) api.Section {
	return api.Section{Name: ".data", Align: 64, Data: make([]byte, size)}
}

func bss(size int) api.Section {
	return api.Section{Name: ".bss", Align: 8, Size: size}
}

// plain is a relocation of a type that may be at 0 of a section 1 that is a .text of some bytes, by symbol 0, if it has one.
func plain(kind uint8) api.Rela {
	r := api.Rela{Section: 1, Type: kind}
	if kind == 43 || kind == 51 {
		r.Symbol = -1
	}
	return r
}

// samples are relocations that have bytes, of every type, each at both ends of each field, and such as show bytes that are changed about.
func samples() []api.Rela {
	var all []api.Rela
	for _, row := range types {
		for _, offset := range []int{0, 1, 2, 255, 256, 258, 4095, 4096} {
			for _, symbol := range []int{-1, 0, 1, 2, 62, 63} {
				for _, addend := range []int{-1 << 31, -1<<31 + 1, -258, -2, -1, 0, 1, 258, 0x12345678, 1<<31 - 1, 1 << 31, 1<<32 - 2, 1<<32 - 1} {
					all = append(all, api.Rela{Offset: offset, Type: row.kind, Symbol: symbol, Addend: addend})
				}
			}
		}
	}
	return all
}

// few are some of them, unlike in each field.
func few() []api.Rela {
	return []api.Rela{{Type: 1}, {Offset: 4096, Type: 2, Symbol: 63, Addend: 1<<32 - 1}, {Offset: 258, Type: 18, Symbol: 2, Addend: -1 << 31}, {Offset: 7, Type: 43, Symbol: -1, Addend: 62}, {Type: 51, Symbol: -1}, {Offset: 255, Type: 45, Symbol: 9, Addend: -1}}
}

// wantError holds Check's answer against an error.
func wantError(t *testing.T, r api.Rela, sections []api.Section, symbols int, want api.Errno) {
	t.Helper()
	if e := rela.Check(r, sections, symbols); e != want {
		t.Errorf("Check(%+v, %d sections, %d) = %d; want %d", r, len(sections), symbols, int(e), int(want))
	}
}

// wantCheck holds Check's answer against whether r may be.
func wantCheck(t *testing.T, r api.Rela, sections []api.Section, symbols int, may bool) {
	t.Helper()
	want := api.OK
	if !may {
		want = api.ErrBad
	}
	wantError(t, r, sections, symbols, want)
}

// wantWrite holds Write's answer against bytes or an error.
func wantWrite(t *testing.T, r api.Rela, want []byte, wantErr api.Errno) {
	t.Helper()
	b, e := rela.Write(r)
	if e != wantErr || !bytes.Equal(b, want) {
		t.Errorf("Write(%+v) = %v, %d; want %v, %d", r, b, int(e), want, int(wantErr))
	}
}

// wantWriteRight holds Write's answer against what the chapter's words make of r.
func wantWriteRight(t *testing.T, r api.Rela) {
	t.Helper()
	if hasBytes(r) {
		wantWrite(t, r, bytesOfRela(r), api.OK)
	} else {
		wantWrite(t, r, nil, api.ErrBad)
	}
}

// wantRead holds Read's answer against a relocation or an error.
func wantRead(t *testing.T, b []byte, want api.Rela, wantErr api.Errno) {
	t.Helper()
	r, e := rela.Read(b)
	if e != wantErr || r != want {
		t.Errorf("Read(%v) = %+v, %d; want %+v, %d", b, r, int(e), want, int(wantErr))
	}
}

// wantReadRight holds Read's answer for 24 bytes against what the chapter's words make of them; what is read is written as just these.
func wantReadRight(t *testing.T, b []byte) {
	t.Helper()
	r, ok := relaOf(b)
	if !ok {
		wantRead(t, b, api.Rela{}, api.ErrBad)
		return
	}
	wantRead(t, b, r, api.OK)
	wantWrite(t, r, b, api.OK)
}

// P11.1: Field of every number.
func TestField(t *testing.T) {
	for kind := range 256 {
		want, wantErr := 0, api.ErrArg
		for _, row := range types {
			if int(row.kind) == kind {
				want, wantErr = row.size, api.OK
			}
		}
		if n, e := rela.Field(uint8(kind)); n != want || e != wantErr {
			t.Errorf("Field(%d) = %d, %d; want %d, %d", kind, n, int(e), want, int(wantErr))
		}
	}
}

// P11.1: Field by the types' names, as the chapter has them.
func TestFieldByNames(t *testing.T) {
	for want, kinds := range map[int][]uint8{
		0: {api.RAlign, api.RRelax},
		1: {api.RAdd8, api.RSub8},
		2: {api.RAdd16, api.RSub16, api.RRvcBranch, api.RRvcJump},
		4: {api.R32, api.RBranch, api.RJal, api.RPcHi, api.RPcLoI, api.RPcLoS, api.RHi, api.RLoI, api.RLoS, api.RAdd32, api.RSub32},
		8: {api.R64, api.RAdd64, api.RSub64, api.RCall},
	} {
		for _, kind := range kinds {
			if n, e := rela.Field(kind); n != want || e != api.OK {
				t.Errorf("Field(%d) = %d, %d; want %d", kind, n, int(e), want)
			}
		}
	}
}

// P11.1: every number of sections up to MaxSections, none, and more; the relocation in the last one.
func TestCheckNumbersOfSections(t *testing.T) {
	wantCheck(t, plain(1), nil, 1, false)
	wantCheck(t, plain(1), []api.Section{}, 1, false)
	var sections []api.Section
	for many := 1; many <= 40; many++ {
		sections = append(sections, text(8))
		r := plain(17)
		for _, r.Section = range []int{1, many} {
			if many <= 16 {
				wantCheck(t, r, sections, 1, true)
			} else {
				wantError(t, r, sections, 1, api.ErrMany)
			}
		}
	}
	wantError(t, plain(1), slices.Repeat([]api.Section{text(8)}, 256+1), 1, api.ErrMany)
}

// P11.1: sections that may not be, wherever they stand, though the relocation is in another one, or is none that may be.
func TestCheckSectionsThatMayNotBe(t *testing.T) {
	for _, wrong := range []api.Section{{}, {Name: ".text"}, {Name: ".texts", Align: 4}, {Name: ".text", Align: 3}, {Name: ".data", Align: 128}, {Name: ".bss", Align: 1, Size: 4097}, {Name: ".bss", Align: 1, Size: -1}, {Name: ".bss", Align: 1, Data: []byte{0}}, text(4097), {Name: ".text", Align: 1, Data: make([]byte, 8), Size: 8}, {Name: ".text." + strings.Repeat("x", 27), Align: 1}} {
		for at := range 4 {
			sections := slices.Insert([]api.Section{text(8), data(8), text(8)}, at, wrong)
			for number := range 6 {
				r := plain(1)
				r.Section = number
				wantCheck(t, r, sections, 1, false)
			}
			wantError(t, plain(1), sections, -1, api.ErrArg)
		}
		wantError(t, plain(1), slices.Repeat([]api.Section{wrong}, 17), 1, api.ErrMany)
		wantError(t, plain(1), slices.Repeat([]api.Section{wrong}, 16), 1, api.ErrBad)
		wantCheck(t, plain(1), []api.Section{wrong}, 1, false)
	}
	// The greatest of each kind may be.
	wantCheck(t, plain(1), []api.Section{text(4096), rodata(4096), data(4096), bss(4096)}, 1, true)
}

// P11.1: numbers of symbols below 0, to MaxSymbols and above, whatever the relocation.
func TestCheckNumbersOfSymbols(t *testing.T) {
	sections := []api.Section{text(8)}
	worst := api.Rela{Section: -1, Offset: -1, Type: 3, Symbol: -2, Addend: 1 << 40}
	for symbols := range 65 {
		wantCheck(t, plain(51), sections, symbols, true)
		wantCheck(t, plain(1), sections, symbols, symbols > 0)
		wantCheck(t, worst, sections, symbols, false)
	}
	for _, symbols := range append([]int{-65, -64, -2, -1, 65, 66, 128, 255, 256, 257}, far...) {
		for _, r := range []api.Rela{plain(51), plain(1), worst, {}} {
			wantError(t, r, sections, symbols, api.ErrArg)
			wantError(t, r, nil, symbols, api.ErrArg)
			wantError(t, r, slices.Repeat(sections, 16), symbols, api.ErrArg)
			wantError(t, r, slices.Repeat(sections, 17), symbols, api.ErrMany)
		}
	}
}

// P11.1: every number of a type, in a section of each kind.
func TestCheckTypes(t *testing.T) {
	for kind := range 256 {
		for _, s := range []api.Section{text(64), rodata(64), data(64), bss(64)} {
			for _, symbol := range []int{-1, 0} {
				r := api.Rela{Section: 1, Type: uint8(kind), Symbol: symbol}
				wantCheck(t, r, []api.Section{s}, 1, mayBe(r, []api.Section{s}, 1))
				r.Section = 5
				sections := []api.Section{text(64), text(64), text(64), text(64), s}
				wantCheck(t, r, sections, 1, mayBe(r, sections, 1))
			}
		}
	}
}

// P11.1: which type may be in which kind of section, and at odd places, written out, so that it does not hang on the tests' own reckoning.
func TestCheckKindsOfSections(t *testing.T) {
	sections := []api.Section{text(64), {Name: ".text.x", Align: 1, Data: make([]byte, 64)}, {Name: ".rodata", Align: 1, Data: make([]byte, 64)}, rodata(64), data(64), {Name: ".data.text", Align: 1, Data: make([]byte, 64)}, bss(64), {Name: ".bss.text", Align: 1, Size: 64}}
	for _, kind := range []uint8{api.R32, api.R64, api.RAdd8, api.RAdd16, api.RAdd32, api.RAdd64, api.RSub8, api.RSub16, api.RSub32, api.RSub64} {
		for number := 1; number <= 8; number++ {
			for offset := range 8 {
				wantCheck(t, api.Rela{Section: number, Offset: offset, Type: kind}, sections, 1, number <= 6)
			}
		}
	}
	for _, kind := range []uint8{api.RBranch, api.RJal, api.RCall, api.RPcHi, api.RPcLoI, api.RPcLoS, api.RHi, api.RLoI, api.RLoS, api.RAlign, api.RRvcBranch, api.RRvcJump, api.RRelax} {
		for number := 1; number <= 8; number++ {
			for offset := range 8 {
				r := plain(kind)
				r.Section, r.Offset = number, offset
				wantCheck(t, r, sections, 1, number <= 2 && offset%2 == 0)
			}
		}
	}
}

// P11.1: Section at 0, 1, the last and one more, and far from all, of every type.
func TestCheckSections(t *testing.T) {
	for many := 1; many <= 16; many++ {
		sections := slices.Repeat([]api.Section{text(8)}, many)
		for _, row := range types {
			r := plain(row.kind)
			for _, r.Section = range append([]int{-16, -2, -1, 0, 17, 18, many + 1}, far...) {
				wantCheck(t, r, sections, 1, within(r.Section, 1, many))
			}
			for _, r.Section = range []int{1, many} {
				wantCheck(t, r, sections, 1, true)
			}
		}
	}
}

// P11.1: every type at every place of sections of each kind and of every size up to some, below 0 and beyond the end.
func TestCheckOffsets(t *testing.T) {
	for size := range 20 {
		for _, s := range []api.Section{text(size), rodata(size), data(size), bss(size)} {
			sections := []api.Section{text(64), s, text(64)}
			for _, row := range types {
				r := plain(row.kind)
				r.Section = 2
				for offset := -20; offset <= 40; offset++ {
					r.Offset = offset
					wantCheck(t, r, sections, 1, mayBe(r, sections, 1))
				}
				for _, r.Offset = range far {
					wantCheck(t, r, sections, 1, false)
				}
			}
		}
	}
}

// P11.1: the last place where a type's bytes fit, and one beyond, written out, in a section of the greatest size too.
func TestCheckLastOffsets(t *testing.T) {
	for _, c := range []struct {
		kind    uint8
		offset  int
		may     bool
		greatly bool
	}{
		{api.R32, 12, true, true}, {api.R32, 13, false, false}, {api.R64, 8, true, true}, {api.R64, 9, false, false},
		{api.RAdd8, 15, true, true}, {api.RAdd8, 16, false, false}, {api.RSub16, 14, true, true}, {api.RSub16, 15, false, false},
		{api.RAdd32, 12, true, true}, {api.RAdd32, 13, false, false}, {api.RSub64, 8, true, true}, {api.RSub64, 9, false, false},
		{api.RCall, 8, true, true}, {api.RCall, 10, false, false}, {api.RJal, 12, true, true}, {api.RJal, 14, false, false},
		{api.RRvcJump, 14, true, true}, {api.RRvcJump, 16, false, false}, {api.RRvcBranch, 14, true, true}, {api.RRvcBranch, 16, false, false},
		{api.RRelax, 16, true, true}, {api.RRelax, 18, false, false}, {api.RAlign, 16, true, true}, {api.RAlign, 18, false, false},
	} {
		r := plain(c.kind)
		r.Offset = c.offset
		wantCheck(t, r, []api.Section{text(16)}, 1, c.may)
		r.Offset += 4096 - 16
		wantCheck(t, r, []api.Section{text(4096)}, 1, c.greatly)
		r.Offset = -2
		wantCheck(t, r, []api.Section{text(16)}, 1, false)
		r.Offset = -1
		wantCheck(t, r, []api.Section{text(16)}, 1, false)
	}
}

// P11.1: Addend at, below and above its ends, of every type.
func TestCheckAddends(t *testing.T) {
	sections := []api.Section{text(4096), data(4096)}
	for _, row := range types {
		for _, addend := range addends {
			for number := 1; number <= 2; number++ {
				r := plain(row.kind)
				r.Section, r.Addend = number, addend
				wantCheck(t, r, sections, 1, mayBe(r, sections, 1))
			}
		}
	}
}

// P11.1: the same ends, written out, so that they don't hang on the tests' own reckoning.
func TestCheckAddendsOfTypes(t *testing.T) {
	most := []uint8{api.R32, api.R64, api.RBranch, api.RJal, api.RCall, api.RPcHi, api.RHi, api.RLoI, api.RLoS, api.RAdd8, api.RAdd16, api.RAdd32, api.RAdd64, api.RSub8, api.RSub16, api.RSub32, api.RSub64, api.RRvcBranch, api.RRvcJump}
	strict := []uint8{api.RRelax, api.RPcLoI, api.RPcLoS, api.RAlign}
	sections := []api.Section{text(4096)}
	for _, c := range []struct {
		kinds  []uint8
		addend int
		may    bool
	}{
		{most, -2147483649, false},
		{most, -2147483648, true},
		{most, 4294967295, true},
		{most, 4294967296, false},
		{strict, 0, true},
		{strict, 1, false},
		{strict, -1, false},
		{strict, -2, false},
		{[]uint8{api.RRelax, api.RPcLoI, api.RPcLoS}, 2, false},
		{[]uint8{api.RRelax, api.RPcLoI, api.RPcLoS}, 4, false},
		{[]uint8{api.RAlign}, 2, true}, {[]uint8{api.RAlign}, 3, false}, {[]uint8{api.RAlign}, 60, true}, {[]uint8{api.RAlign}, 61, false},
		{[]uint8{api.RAlign}, 62, true}, {[]uint8{api.RAlign}, 63, false}, {[]uint8{api.RAlign}, 64, false},
	} {
		for _, kind := range c.kinds {
			r := plain(kind)
			r.Addend = c.addend
			wantCheck(t, r, sections, 1, c.may)
		}
	}
}

// P11.1: of RAlign every Addend at every even place of sections of some sizes: so many bytes have to be from there on.
func TestCheckAddendsOfAlign(t *testing.T) {
	for _, size := range []int{0, 1, 2, 3, 61, 62, 63, 64, 100} {
		sections := []api.Section{text(size)}
		for offset := -2; offset <= size+4; offset++ {
			for addend := -4; addend <= 70; addend++ {
				r := api.Rela{Section: 1, Offset: offset, Type: 43, Symbol: -1, Addend: addend}
				may := offset >= 0 && offset%2 == 0 && addend%2 == 0 && within(addend, 0, 62) && offset+addend <= size
				wantCheck(t, r, sections, 0, may)
			}
		}
	}
}

// P11.1: Symbol at NoSymbol, below it, 0, the last and one more, of every type, in objects of every number of symbols.
func TestCheckSymbols(t *testing.T) {
	sections := []api.Section{text(8)}
	for symbols := range 65 {
		for _, row := range types {
			alone := row.kind == api.RAlign || row.kind == api.RRelax
			r := plain(row.kind)
			for _, r.Symbol = range append([]int{-65, -3, -2, -1, 0, 1, symbols - 1, symbols, symbols + 1, 62, 63, 64, 65}, far...) {
				wantCheck(t, r, sections, symbols, alone && r.Symbol == -1 || !alone && r.Symbol >= 0 && r.Symbol < symbols)
			}
		}
	}
}

// P11.2: relocations at each end of Offset, Symbol and Addend, of each type, whatever their Section.
func TestWriteOfAllThatMayBe(t *testing.T) {
	for _, r := range samples() {
		want := bytesOfRela(r)
		for _, r.Section = range []int{0, 1, -1, 16, 17, math.MinInt, math.MaxInt} {
			wantWrite(t, r, want, api.OK)
		}
	}
}

// P11.2: each field beyond its ends, alone.
func TestWriteBeyondTheEnds(t *testing.T) {
	for _, ground := range few() {
		for kind := range 256 {
			r := ground
			r.Type = uint8(kind)
			wantWriteRight(t, r)
		}
		for _, n := range append([]int{-2, -1, 0, 1, 4095, 4096, 4097, 4098, 8192}, far...) {
			r := ground
			r.Offset = n
			wantWriteRight(t, r)
		}
		for _, n := range append([]int{-3, -2, -1, 0, 1, 62, 63, 64, 65, 254, 255, 256}, far...) {
			r := ground
			r.Symbol = n
			wantWriteRight(t, r)
		}
		for _, n := range addends {
			r := ground
			r.Addend = n
			wantWriteRight(t, r)
		}
	}
}

// P11.2: each field's bytes, and its ends, written out, so that they don't hang on the tests' own reckoning.
func TestWriteEachField(t *testing.T) {
	for _, c := range []struct {
		r    api.Rela
		want []byte
	}{
		{api.Rela{Type: 1, Symbol: -1}, []byte{0, 0, 0, 0, 0, 0, 0, 0, 1, 0, 0, 0, 0, 0, 0, 0, 0, 0, 0, 0, 0, 0, 0, 0}},
		{api.Rela{Type: 51}, []byte{0, 0, 0, 0, 0, 0, 0, 0, 51, 0, 0, 0, 1, 0, 0, 0, 0, 0, 0, 0, 0, 0, 0, 0}},
		{api.Rela{Offset: 4096, Type: 2, Symbol: 63}, []byte{0, 16, 0, 0, 0, 0, 0, 0, 2, 0, 0, 0, 64, 0, 0, 0, 0, 0, 0, 0, 0, 0, 0, 0}},
		{api.Rela{Offset: 258, Type: 40, Symbol: 9, Addend: 0x89abcdef}, []byte{2, 1, 0, 0, 0, 0, 0, 0, 40, 0, 0, 0, 10, 0, 0, 0, 0xef, 0xcd, 0xab, 0x89, 0, 0, 0, 0}},
		{api.Rela{Type: 18, Addend: 1<<32 - 1}, []byte{0, 0, 0, 0, 0, 0, 0, 0, 18, 0, 0, 0, 1, 0, 0, 0, 255, 255, 255, 255, 0, 0, 0, 0}},
		{api.Rela{Type: 18, Addend: -1 << 31}, []byte{0, 0, 0, 0, 0, 0, 0, 0, 18, 0, 0, 0, 1, 0, 0, 0, 0, 0, 0, 128, 255, 255, 255, 255}},
		{api.Rela{Offset: 1, Type: 43, Symbol: 5, Addend: -2}, []byte{1, 0, 0, 0, 0, 0, 0, 0, 43, 0, 0, 0, 6, 0, 0, 0, 254, 255, 255, 255, 255, 255, 255, 255}},
	} {
		wantWrite(t, c.r, c.want, api.OK)
		wantRead(t, c.want, c.r, api.OK)
	}
	for _, r := range []api.Rela{{}, {Type: 3}, {Type: 255}, {Offset: -1, Type: 1}, {Offset: 4097, Type: 1}, {Type: 1, Symbol: -2}, {Type: 1, Symbol: 64}, {Type: 1, Addend: -2147483649}, {Type: 1, Addend: 4294967296}} {
		wantWrite(t, r, nil, api.ErrBad)
	}
}

// P11.2: every number of bytes but 24, whatever they are.
func TestReadOfOtherLengths(t *testing.T) {
	wantRead(t, nil, api.Rela{}, api.ErrText)
	wantRead(t, []byte{}, api.Rela{}, api.ErrText)
	want := api.Rela{Offset: 2, Type: 17, Symbol: 3, Addend: -4}
	right := bytesOfRela(want)
	for size := range 100 {
		if size == 24 {
			continue
		}
		wantRead(t, make([]byte, size), api.Rela{}, api.ErrText)
		wantRead(t, bytes.Repeat([]byte{255}, size), api.Rela{}, api.ErrText)
		wantRead(t, append(bytes.Clone(right), make([]byte, 100)...)[:size], api.Rela{}, api.ErrText)
	}
	wantRead(t, make([]byte, 1<<16), api.Rela{}, api.ErrText)
	wantRead(t, right, want, api.OK)
	// Spare room is none of the bytes.
	wantRead(t, right[:23], api.Rela{}, api.ErrText)
	wantRead(t, append(bytes.Clone(right), 1)[:24], want, api.OK)
}

// P11.2: 24 bytes in which each one alone has each of its values, in noughts, in ones, and in relocations'.
func TestReadOfEachByte(t *testing.T) {
	grounds := [][]byte{make([]byte, 24), bytes.Repeat([]byte{255}, 24)}
	for _, r := range few() {
		grounds = append(grounds, bytesOfRela(r))
	}
	for _, ground := range grounds {
		wantReadRight(t, ground)
		for at := range ground {
			for c := range 256 {
				b := bytes.Clone(ground)
				b[at] = byte(c)
				wantReadRight(t, b)
			}
		}
	}
}

// P11.2: numbers beyond their ends, as bytes.
func TestReadOfNumbersBeyondTheirEnds(t *testing.T) {
	for _, r := range few() {
		for _, n := range append([]int{-1, 0, 4095, 4096, 4097, 65536}, far...) {
			b := bytesOfRela(r)
			copy(b, bytesOf(n, 8))
			wantReadRight(t, b)
		}
		for _, n := range addends {
			b := bytesOfRela(r)
			copy(b[16:], bytesOf(n, 8))
			wantReadRight(t, b)
		}
		for _, n := range []int{0, 1, 63, 64, 65, 255, 256, 257, 1 << 16, 1<<16 + 1, 1 << 24, 1<<31 + 1, 1<<32 - 1} {
			for _, at := range []int{8, 12} {
				b := bytesOfRela(r)
				copy(b[at:], bytesOf(n, 4))
				wantReadRight(t, b)
			}
		}
	}
}

// P11.3: sections, with their spare room, are as they were, whatever Check tells of them.
func TestSectionsAreOnlyRead(t *testing.T) {
	for _, row := range types {
		whole := bytes.Repeat([]byte{171}, 64)
		room := []api.Section{{Name: ".text", Align: 4, Data: whole[:32]}, {Name: ".data", Align: 8, Data: whole[32:40]}, {Name: ".bss", Align: 1, Size: 7}, {Name: "spare", Align: -1, Data: whole[50:], Size: 9}}
		before := slices.Clone(room)
		for number := range 5 {
			r := plain(row.kind)
			r.Section = number
			rela.Check(r, room[:3], 1)
			rela.Check(r, room, 1)
			rela.Check(r, room[:3], -1)
		}
		if !bytes.Equal(whole, bytes.Repeat([]byte{171}, 64)) {
			t.Errorf("type %d: bytes of sections have changed", row.kind)
		}
		for i, s := range room {
			was := before[i]
			if s.Name != was.Name || s.Align != was.Align || s.Size != was.Size || len(s.Data) != len(was.Data) || cap(s.Data) != cap(was.Data) || len(s.Data) > 0 && &s.Data[0] != &was.Data[0] {
				t.Errorf("type %d: section %d has changed", row.kind, i)
			}
		}
	}
}

// P11.3: bytes that are read, their spare room too, are as they were.
func TestBytesAreOnlyRead(t *testing.T) {
	for _, r := range few() {
		whole := append(bytesOfRela(r), bytes.Repeat([]byte{171}, 40)...)
		before := bytes.Clone(whole)
		for size := range len(whole) {
			rela.Read(whole[:size])
		}
		if !bytes.Equal(whole, before) {
			t.Errorf("%+v: the bytes that were handed in have changed", r)
		}
	}
}

// P11.3: no two answers share memory, nor do they with what was read.
func TestAnswersAreNewMemory(t *testing.T) {
	for _, r := range few() {
		kept, _ := rela.Write(r)
		other, _ := rela.Write(r)
		clear(other[:cap(other)])
		if !bytes.Equal(kept, bytesOfRela(r)) {
			t.Errorf("%+v: a change of one answer has changed another", r)
		}
		again, e := rela.Read(kept)
		clear(kept[:cap(kept)])
		if again != r || e != api.OK {
			t.Errorf("%+v has become %+v, %d", r, again, int(e))
		}
		wantWrite(t, r, bytesOfRela(r), api.OK)
	}
}

// P11.4: but for the section, a relocation is its bytes, read again, and unlike ones have unlike bytes.
func TestRelasAndBack(t *testing.T) {
	seen := map[string]api.Rela{}
	for _, r := range samples() {
		b, e := rela.Write(r)
		if e != api.OK || len(b) != 24 {
			t.Fatal(r, len(b), int(e))
		}
		wantRead(t, b, r, api.OK)
		if first, ok := seen[string(b)]; ok {
			t.Errorf("%+v and %+v have the same bytes", first, r)
		}
		seen[string(b)] = r
		other := r
		other.Section = 9
		wantWrite(t, other, b, api.OK)
	}
}

// P11.4: bytes that are read are written as just these; those that are not are no relocation's. Two bytes are changed at once.
func TestBytesAndBack(t *testing.T) {
	values := []byte{0, 1, 2, 3, 15, 16, 17, 43, 51, 63, 64, 65, 127, 128, 255}
	for _, r := range few() {
		ground := bytesOfRela(r)
		for i := range ground {
			for k := range i {
				for _, c := range values {
					for _, d := range values {
						b := bytes.Clone(ground)
						b[i], b[k] = c, d
						wantReadRight(t, b)
					}
				}
			}
		}
	}
}

// P11.4: what may be in an object has bytes, whatever its type, and is had back of them but for its section.
func TestWhatMayBeHasBytes(t *testing.T) {
	sections := []api.Section{text(4096), data(4096)}
	for _, row := range types {
		for number := 1; number <= 2; number++ {
			for _, offset := range []int{0, 1, 2, 4088, 4092, 4094, 4095, 4096} {
				for _, symbol := range []int{-1, 0, 63} {
					for _, addend := range []int{-1 << 31, -1, 0, 2, 62, 1<<32 - 1} {
						r := api.Rela{Section: number, Offset: offset, Type: row.kind, Symbol: symbol, Addend: addend}
						if rela.Check(r, sections, 64) != api.OK {
							continue
						}
						wantWrite(t, r, bytesOfRela(r), api.OK)
						want := r
						want.Section = 0
						wantRead(t, bytesOfRela(r), want, api.OK)
					}
				}
			}
		}
	}
}

// Every row of the chapter's 'Examples'.
func TestExamples(t *testing.T) {
	for _, c := range []struct {
		kind uint8
		size int
		e    api.Errno
	}{{api.RCall, 8, api.OK}, {api.RRelax, 0, api.OK}, {3, 0, api.ErrArg}} {
		if n, e := rela.Field(c.kind); n != c.size || e != c.e {
			t.Errorf("Field(%d) = %d, %d", c.kind, n, int(e))
		}
	}
	sections := []api.Section{{Name: ".text", Align: 4, Data: make([]byte, 8)}}
	wantCheck(t, api.Rela{Section: 1, Type: api.RCall}, sections, 1, true)
	wantCheck(t, api.Rela{Section: 1, Offset: 6, Type: api.RJal}, sections, 1, false)
	wantCheck(t, api.Rela{Section: 1, Type: api.R64, Symbol: 1}, sections, 1, false)
	r := api.Rela{Offset: 4, Type: api.RBranch, Symbol: 2, Addend: -1}
	b := []byte{4, 0, 0, 0, 0, 0, 0, 0, 16, 0, 0, 0, 3, 0, 0, 0, 255, 255, 255, 255, 255, 255, 255, 255}
	wantWrite(t, r, b, api.OK)
	wantRead(t, b, r, api.OK)
	if api.ErrArg != 2 || api.ErrText != 3 || api.ErrMany != 4 || api.ErrBad != 8 {
		t.Error("the errors' numbers are not the chapter's", int(api.ErrArg), int(api.ErrText), int(api.ErrMany), int(api.ErrBad))
	}
	if api.NoSymbol != -1 {
		t.Error("the number of no symbol is not the chapter's")
	}
}
