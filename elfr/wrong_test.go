package elfr_test

import (
	"bytes"
	"encoding/binary"
	"fmt"
	"math"
	"slices"
	"strings"
	"testing"

	"quoin/api"
	"quoin/elfr"
	"quoin/elfw"
)

// P13.1: none, and every beginning of a file, is refused; so is each end of one.
func TestReadOfBeginnings(t *testing.T) {
	wantBad(t, "none", nil)
	wantBad(t, "none", []byte{})
	for _, o := range append(few(), greatest()) {
		b := mustWrite(t, o)
		for n := range b {
			wantBad(t, "a beginning", b[:n])
			// What a reader may not see stands behind it still; now it does not.
			wantBad(t, "a beginning", b[:n:n])
		}
		for n := 1; n < len(b); n++ {
			wantBad(t, "an end", b[n:])
		}
	}
}

// P13.1: a file and one byte more, or more of them, is refused; so is one with a byte ahead of it.
func TestReadOfMore(t *testing.T) {
	for _, o := range few() {
		b := mustWrite(t, o)
		for c := range 256 {
			wantBad(t, "a file and a byte", append(slices.Clone(b), byte(c)))
			wantBad(t, "a byte and a file", append([]byte{byte(c)}, b...))
		}
		for _, n := range []int{7, 8, 63, 64, 128} {
			wantBad(t, "a file and noughts", append(slices.Clone(b), make([]byte, n)...))
			wantBad(t, "noughts and a file", append(make([]byte, n), b...))
		}
		wantBad(t, "a file twice", append(slices.Clone(b), b...))
		wantBad(t, "a file and another one", append(slices.Clone(b), mustWrite(t, api.Object{})...))
	}
}

// everyBit are all ways to turn a byte; singleBits are those by one bit, and by all of them.
func everyBit() []byte {
	var all []byte
	for c := 1; c < 256; c++ {
		all = append(all, byte(c))
	}
	return all
}

func singleBits() []byte {
	return []byte{1, 2, 4, 8, 16, 32, 64, 128, 255}
}

// P13.1: each byte of files, turned: it is the file of another object, or none.
func TestReadOfTurnedBytes(t *testing.T) {
	t.Parallel()
	ok, bad := 0, 0
	for i, o := range few() {
		b := mustWrite(t, o)
		bits := []byte{1, 128}
		if i < 2 {
			bits = singleBits()
		}
		for at := range b {
			for _, bit := range bits {
				b[at] ^= bit
				if wantRead(t, fmt.Sprintf("file %d with the byte at %d turned", i, at), b) {
					ok++
				} else {
					bad++
				}
				b[at] ^= bit
			}
		}
	}
	if ok < 500 || bad < 20000 {
		t.Errorf("%d are files, %d are not", ok, bad)
	}
}

// P13.1: bytes of sections, turned, but for those that fill up, are those of the object that is read.
func TestReadOfTurnedData(t *testing.T) {
	t.Parallel()
	for _, o := range few() {
		b := mustWrite(t, o)
		heads := headsOf(b)
		for i, s := range o.Sections {
			for at := range s.Data {
				fills := slices.ContainsFunc(o.Relas, func(r api.Rela) bool {
					return r.Type == api.RAlign && r.Section == i+1 && at >= r.Offset && at < r.Offset+r.Addend
				})
				for _, bit := range singleBits() {
					b[int(heads[i+1].Off)+at] ^= bit
					if fills {
						wantBad(t, "bytes that do not fill up", b)
					} else {
						want := turned(o, func(o *api.Object) { o.Sections[i].Data[at] ^= bit })
						if got, e := elfr.Read(b); e != api.OK || !elfw.Same(got, want) {
							t.Fatalf("Read = %+v, %d; want %+v", got, int(e), want)
						}
					}
					b[int(heads[i+1].Off)+at] ^= bit
				}
			}
		}
	}
}

// P13.1: noughts between parts are noughts; so are those of the first head, and of the first symbol.
func TestReadOfTurnedNoughts(t *testing.T) {
	t.Parallel()
	seen := 0
	for _, o := range few() {
		b := mustWrite(t, o)
		free := slices.Repeat([]bool{true}, len(b))
		heads := headsOf(b)
		for _, h := range heads[1:] {
			if h.Type != 8 {
				for at := h.Off; at < h.Off+h.Size; at++ {
					free[at] = false
				}
			}
		}
		for at := range 64 {
			free[at] = false
		}
		for at := len(b) - 64*len(heads) + 64; at < len(b); at++ {
			free[at] = false
		}
		for at := range 24 {
			free[int(heads[len(heads)-3].Off)+at] = true
		}
		for at := range b {
			if !free[at] {
				continue
			}
			seen++
			for _, bit := range singleBits() {
				if b[at] != 0 {
					t.Fatalf("%d at %d", b[at], at)
				}
				b[at] = bit
				wantBad(t, "a file with a nought turned", b)
				b[at] = 0
			}
		}
	}
	if seen < 9*88 {
		t.Error("no more than", seen, "noughts")
	}
}

// P13.1: each byte of the file's head is as the chapter says.
func TestReadOfTurnedFileHead(t *testing.T) {
	t.Parallel()
	for i, o := range few() {
		b := mustWrite(t, o)
		bits := singleBits()
		if i < 2 {
			bits = everyBit()
		}
		for at := range 64 {
			for _, bit := range bits {
				b[at] ^= bit
				wantBad(t, fmt.Sprint("the head's byte at ", at), b)
				b[at] ^= bit
			}
		}
	}
}

// field is one of a head: its place in it, and how many bytes it has.
type field struct{ at, size int }

// Those of the file's head, and of a head.
func fileHeadFields() []field {
	return []field{{0, 4}, {4, 4}, {8, 8}, {16, 2}, {18, 2}, {20, 4}, {24, 8}, {32, 8}, {40, 8}, {48, 4}, {52, 2}, {54, 2}, {56, 2}, {58, 2}, {60, 2}, {62, 2}}
}

func headFields() []field {
	return []field{{0, 4}, {4, 4}, {8, 8}, {16, 8}, {24, 8}, {32, 8}, {40, 4}, {44, 4}, {48, 8}, {56, 8}}
}

// numberAt is that of f in b, a head standing at the place head.
func numberAt(b []byte, head int, f field) uint64 {
	var eight [8]byte
	copy(eight[:], b[head+f.at:head+f.at+f.size])
	return binary.LittleEndian.Uint64(eight[:])
}

// putAt puts n, cut, as f of b, a head standing at the place head.
func putAt(b []byte, head int, f field, n uint64) {
	copy(b[head+f.at:head+f.at+f.size], binary.LittleEndian.AppendUint64(nil, n))
}

// wild are numbers to be put for one of b's that was another one: near it, near ends, beyond the file, below 0, such that sums with it wrap round, and all that tell where parts are.
func wild(b []byte, was uint64) []uint64 {
	size := uint64(len(b))
	all := []uint64{size - 1, size, size + 1, size - was, size + was, size - 64, 1<<31 - 1, 1 << 31, 1<<32 - 1, 1 << 32, 1<<32 + was, 1 << 48, 1 << 62, 1<<63 - 1, 1 << 63, 1<<63 + was, 1<<63 - was, -was, -size, math.MaxUint64}
	for n := range uint64(20) {
		all = append(all, n, was+n, was-n, -n)
	}
	for _, n := range []uint64{24, 32, 48, 64, 128, 512, 4096} {
		all = append(all, n, was+n, was-n, -n, was^n)
	}
	for _, h := range headsOf(b) {
		all = append(all, h.Off, h.Off+h.Size, h.Off+h.Size-was, h.Size, -h.Off, -h.Size, uint64(h.Name))
	}
	slices.Sort(all)
	return slices.Compact(all)
}

// P13.1: each field of the file's head, and of each head, changed to places and sizes and numbers that may not be there.
func TestReadOfWildFields(t *testing.T) {
	t.Parallel()
	ok := 0
	some := few()
	for _, o := range slices.Concat(some[:3], some[len(some)-1:]) {
		b := mustWrite(t, o)
		heads := headsOf(b)
		for _, f := range fileHeadFields() {
			was := numberAt(b, 0, f)
			for _, n := range wild(b, was) {
				putAt(b, 0, f, n)
				if numberAt(b, 0, f) != was {
					wantBad(t, fmt.Sprintf("the head's number at %d being %#x", f.at, n), b)
				}
				putAt(b, 0, f, was)
			}
		}
		first := len(b) - 64*len(heads)
		for i, h := range heads {
			for _, f := range headFields() {
				was := numberAt(b, first+64*i, f)
				for _, n := range wild(b, was) {
					putAt(b, first+64*i, f, n)
					what := fmt.Sprintf("head %d's number at %d being %#x", i, f.at, n)
					// Of a section the name, the alignment, and how many bytes there are may be others', if all else is right for these; and relocations may be another section's of the same name.
					isOthers := i > 0 && i <= len(o.Sections) && (f.at == 0 || f.at == 48 || f.at == 32 && (h.Type == 8 || n <= uint64(len(b))-h.Off)) || h.Type == 4 && f.at == 44
					switch {
					case numberAt(b, first+64*i, f) == was:
					case !isOthers:
						wantBad(t, what, b)
					case wantRead(t, what, b):
						ok++
					}
					putAt(b, first+64*i, f, was)
				}
			}
		}
	}
	if ok < 20 {
		t.Error("no more than", ok, "are files")
	}
}

// P13.1: places and sizes of parts, changed together, so that sums of them wrap round to what they were, or meet other parts.
func TestReadOfWildPlaces(t *testing.T) {
	o := whole()
	b := mustWrite(t, o)
	heads := headsOf(b)
	first := len(b) - 64*len(heads)
	place, size := field{24, 8}, field{32, 8}
	for i, h := range heads {
		end := h.Off + h.Size
		for _, at := range wild(b, h.Off) {
			if at == h.Off {
				continue
			}
			for _, n := range []uint64{0, 1, h.Size, end - at, -at, 1<<63 - at, 1<<63 - 1 - at, uint64(len(b)) - at, 1<<63 - 1, 1 << 63, math.MaxUint64} {
				putAt(b, first+64*i, place, at)
				putAt(b, first+64*i, size, n)
				wantBad(t, fmt.Sprintf("part %d at %#x, of %#x", i, at, n), b)
			}
			putAt(b, first+64*i, place, h.Off)
			putAt(b, first+64*i, size, h.Size)
		}
	}
	// The heads' own place, and how many there are.
	for _, at := range wild(b, uint64(first)) {
		for many := range 20 {
			putAt(b, 0, field{40, 8}, at)
			putAt(b, 0, field{60, 2}, uint64(many))
			putAt(b, 0, field{62, 2}, uint64(many-1))
			if int(at) != first || many != len(heads) {
				wantBad(t, fmt.Sprintf("%d heads at %#x", many, at), b)
			}
		}
	}
}

// P13.1: heads of which there are fewer or more than there should be, with as many bytes as they ask for, or not.
func TestReadOfOtherManyHeads(t *testing.T) {
	for _, o := range few() {
		file := mustWrite(t, o)
		had := len(headsOf(file))
		for _, many := range []int{0, 1, 2, 3, 4, had - 1, had + 1, had + 2, 53, 100, 1000, 65535} {
			for _, index := range []int{0, many - 1, had - 1} {
				b := slices.Clone(file)
				putAt(b, 0, field{60, 2}, uint64(many))
				putAt(b, 0, field{62, 2}, uint64(index))
				if many == had && index == had-1 {
					continue
				}
				wantBad(t, fmt.Sprint(many, " heads"), b)
				if many < had {
					wantBad(t, fmt.Sprint(many, " heads"), b[:len(b)-64*(had-many)])
				} else if room := 64 * (many - had); room < 10000 {
					wantBad(t, fmt.Sprint(many, " heads"), append(b, make([]byte, room)...))
					wantBad(t, fmt.Sprint(many, " heads"), append(b, bytes.Repeat(file[len(file)-64:], many-had)...))
				}
			}
		}
	}
}

// P13.1: a part twice, by a head in another one's stead, or by one more; and a part not at all.
func TestReadOfPartsTwice(t *testing.T) {
	for _, o := range few() {
		b := mustWrite(t, o)
		heads := headsOf(b)
		first := len(b) - 64*len(heads)
		headAt := func(b []byte, i int) []byte { return b[first+64*i:][:64] }
		for i := range heads {
			for j := range heads {
				if heads[i] == heads[j] {
					continue
				}
				twice := slices.Clone(b)
				copy(headAt(twice, j), headAt(b, i))
				wantRead(t, fmt.Sprintf("head %d in the stead of %d", i, j), twice)
				if j == 0 || j > len(o.Sections) {
					wantBad(t, fmt.Sprintf("head %d in the stead of %d", i, j), twice)
				}
				swapped := slices.Clone(twice)
				copy(headAt(swapped, i), headAt(b, j))
				wantRead(t, fmt.Sprintf("heads %d and %d swapped", i, j), swapped)
			}
		}
		for i, h := range heads {
			for _, change := range []int{1, -1} {
				other := slices.Clone(b[:first+64*i])
				if change == 1 {
					other = append(other, headAt(b, i)...)
					other = append(other, headAt(b, i)...)
				}
				other = append(other, b[first+64*i+64:]...)
				putAt(other, 0, field{60, 2}, uint64(len(heads)+change))
				putAt(other, 0, field{62, 2}, uint64(len(heads)+change-1))
				wantBad(t, fmt.Sprintf("head %d", i), other)
				// Those that tell the symbols' head, or their names', tell them again.
				for k := range len(heads) + change {
					link := field{40, 4}
					if n := numberAt(other, first+64*k, link); n > 0 {
						putAt(other, first+64*k, link, n+uint64(change))
					}
				}
				wantRead(t, fmt.Sprintf("head %d", i), other)
				if i == 0 || i > len(o.Sections) || change == 1 && h.Type == 1 && h.Size > 0 {
					wantBad(t, fmt.Sprintf("head %d", i), other)
				}
			}
		}
	}
}

// P13.1: a file of each object that may not be, though its parts be written as the chapter asks, is none.
func TestReadOfVariants(t *testing.T) {
	t.Parallel()
	ok, bad := 0, 0
	for _, o := range few() {
		for _, v := range variants(o) {
			if v.Sections != nil && slices.ContainsFunc(v.Sections, func(s api.Section) bool { return s.Align < 0 }) {
				continue
			}
			is := wantRead(t, fmt.Sprintf("%+v", v), planOf(v, house).file())
			if elfw.Check(v) == api.OK && !is {
				t.Fatalf("%+v is refused", v)
			}
			if is {
				ok++
			} else {
				bad++
			}
		}
	}
	if ok < 1000 || bad < 1000 {
		t.Errorf("%d are files, %d are not", ok, bad)
	}
}

// base is an object to which what may not be is done.
func base() api.Object {
	return api.Object{
		Sections: []api.Section{
			{Name: ".text", Align: 4, Data: append([]byte{0x97, 0, 0, 0, 0xe7, 0x80, 0, 0}, filled(14)...)},
			{Name: ".data", Align: 8, Data: mixed(16)},
			{Name: ".bss", Align: 16, Size: 100},
		},
		Symbols: []api.Symbol{{Name: "l", Where: 1}, {Name: "f", Bind: api.BindGlobal, Where: 2, Value: 8, Size: 8}, {Name: "g", Bind: api.BindWeak, Where: 3, Value: 50, Size: 50}, {Name: "u", Bind: api.BindGlobal}},
		Relas: []api.Rela{
			{Section: 1, Type: api.RCall, Symbol: 3}, {Section: 1, Type: api.RRelax, Symbol: none}, {Section: 1, Offset: 8, Type: api.RAlign, Symbol: none, Addend: 14},
			{Section: 2, Type: api.RAdd32, Symbol: 1}, {Section: 2, Type: api.RSub32, Symbol: 2}, {Section: 2, Offset: 8, Type: api.R64, Symbol: 0},
		},
		Groups: []api.Group{{Sign: "x", Sections: []int{1, 3}}, {Sign: "y", Sections: []int{2}}},
	}
}

// wrongSymbols are changes of base by which its symbols or its relocations may not be; wrongSections those by which its sections or its groups may not.
func wrongSymbols() map[string]func(o *api.Object) {
	return map[string]func(o *api.Object){
		"a global ahead of a local":         func(o *api.Object) { o.Symbols[0], o.Symbols[1] = o.Symbols[1], o.Symbols[0] },
		"two globals of a name":             func(o *api.Object) { o.Symbols[3].Name = "f" },
		"a global and a weak one of a name": func(o *api.Object) { o.Symbols[2].Name = "u" },
		"a symbol beyond its section":       func(o *api.Object) { o.Symbols[1].Size = 9 },
		"a place beyond its section":        func(o *api.Object) { o.Symbols[0].Value = 23 },
		"a symbol beyond noughts":           func(o *api.Object) { o.Symbols[2].Value = 51 },
		"a symbol of a section beyond all":  func(o *api.Object) { o.Symbols[0].Where = 4 },
		"a symbol of the last section":      func(o *api.Object) { o.Symbols[0].Where = 16 },
		"a local one that is nowhere":       func(o *api.Object) { o.Symbols[0].Where = 0 },
		"no name":                           func(o *api.Object) { o.Symbols[1].Name = "" },
		"a blank":                           func(o *api.Object) { o.Symbols[1].Name = "f f" },
		"a long name":                       func(o *api.Object) { o.Symbols[1].Name = long("x", 0) + "x" },
		"a byte in common":                  func(o *api.Object) { o.Relas[1] = api.Rela{Section: 1, Type: api.RJal, Symbol: 3} },
		"one place, but no pair":            func(o *api.Object) { o.Relas[4].Type = api.RAdd32 },
		"a pair of unlike sizes":            func(o *api.Object) { o.Relas[4].Type = api.RSub16 },
		"falling places":                    func(o *api.Object) { o.Relas[3], o.Relas[5] = o.Relas[5], o.Relas[3] },
		"a relocation without its symbol":   func(o *api.Object) { o.Relas[0].Symbol = none },
		"a relocation's symbol beyond all":  func(o *api.Object) { o.Relas[0].Symbol = 4 },
		"a relocation beyond its section":   func(o *api.Object) { o.Relas[5].Offset = 9 },
		"a relocation of noughts":           func(o *api.Object) { o.Relas = append(o.Relas, api.Rela{Section: 3, Type: api.RAdd8}) },
		"a relocation of no section":        func(o *api.Object) { o.Relas = append(o.Relas, api.Rela{Section: 4, Type: api.RAdd8}) },
		"a relocation of section 0":         func(o *api.Object) { o.Relas = append([]api.Rela{{Type: api.RAdd8}}, o.Relas...) },
		"an instruction's in data":          func(o *api.Object) { o.Relas[5].Type = api.RJal },
		"an odd place": func(o *api.Object) {
			o.Relas = append([]api.Rela{{Section: 1, Offset: 1, Type: api.RJal}}, o.Relas[3:]...)
		},
		"a low part with a number":             func(o *api.Object) { o.Relas[0].Type, o.Relas[0].Addend = api.RPcLoI, 1 },
		"relaxed with a symbol":                func(o *api.Object) { o.Relas[1].Symbol = 0 },
		"relaxed with a number":                func(o *api.Object) { o.Relas[1].Addend = 2 },
		"aligned with a symbol":                func(o *api.Object) { o.Relas[2].Symbol = 0 },
		"aligned by an odd number":             func(o *api.Object) { o.Relas[2].Addend = 13 },
		"aligned by other bytes":               func(o *api.Object) { o.Relas[2].Addend = 12 },
		"aligned by bytes that do not fill up": func(o *api.Object) { o.Sections[0].Data[21] = 1 },
		"aligned beyond the end":               func(o *api.Object) { o.Relas[2].Offset = 10 },
		"too many symbols":                     func(o *api.Object) { o.Symbols = append(slices.Repeat(o.Symbols[:1], 61), o.Symbols...) },
		"too many relocations":                 func(o *api.Object) { o.Relas = append(slices.Repeat(o.Relas[1:2], 251), o.Relas...) },
	}
}

func wrongSections() map[string]func(o *api.Object) {
	return map[string]func(o *api.Object){
		"groups of one sign":            func(o *api.Object) { o.Groups[1].Sign = "x" },
		"a group of no sign":            func(o *api.Object) { o.Groups[1].Sign = "" },
		"a group of a long sign":        func(o *api.Object) { o.Groups[1].Sign = long("x", 0) + "x" },
		"a section in two groups":       func(o *api.Object) { o.Groups[1].Sections = []int{2, 3} },
		"a section in a group twice":    func(o *api.Object) { o.Groups[1].Sections = []int{2, 2} },
		"a group's sections falling":    func(o *api.Object) { o.Groups[0].Sections = []int{3, 1} },
		"a group's section 0":           func(o *api.Object) { o.Groups[0].Sections = []int{0, 1, 3} },
		"a group's section beyond all":  func(o *api.Object) { o.Groups[0].Sections = []int{1, 3, 4} },
		"a group without sections":      func(o *api.Object) { o.Groups = append(o.Groups, api.Group{Sign: "z"}) },
		"a section of no kind":          func(o *api.Object) { o.Sections[1].Name = ".datax" },
		"a section of no name":          func(o *api.Object) { o.Sections[1].Name = "" },
		"a section of a long name":      func(o *api.Object) { o.Sections[1].Name = long(".data.", 0) + "x" },
		"a section's name with a blank": func(o *api.Object) { o.Sections[1].Name = ".data. " },
		"no alignment":                  func(o *api.Object) { o.Sections[1].Align = 0 },
		"alignment by three":            func(o *api.Object) { o.Sections[1].Align = 3 },
		"too great alignment":           func(o *api.Object) { o.Sections[1].Align = 128 },
		"too many bytes":                func(o *api.Object) { o.Sections[1].Data = mixed(4097) },
		"too many noughts":              func(o *api.Object) { o.Sections[2].Size = 4097 },
		"noughts with bytes":            func(o *api.Object) { o.Sections[2].Data = mixed(1) },
		"too many sections": func(o *api.Object) {
			o.Sections = append(o.Sections, slices.Repeat([]api.Section{section(".bss", 1, 0)}, 14)...)
		},
		"too many groups": func(o *api.Object) { o.Groups = slices.Repeat(o.Groups, 9) },
	}
}

// P13.1: files whose parts are right by themselves, but whose object may not be.
func TestReadOfObjectsThatMayNotBe(t *testing.T) {
	if got, e := elfr.Read(planOf(base(), house).file()); e != api.OK || !elfw.Same(got, base()) {
		t.Fatalf("%+v, %d", got, int(e))
	}
	for _, changes := range []map[string]func(o *api.Object){wrongSymbols(), wrongSections()} {
		for what, turn := range changes {
			o := turned(base(), turn)
			if e := elfw.Check(o); e != api.ErrBad {
				t.Errorf("%s: Check = %d", what, int(e))
			}
			wantBad(t, what, planOf(o, house).file())
		}
	}
}

// P13.1: just as many of each thing as there may be are read, by the same plans by which one more is refused.
func TestReadOfJustAsMany(t *testing.T) {
	for what, turn := range map[string]func(o *api.Object){
		"sections": func(o *api.Object) {
			o.Sections = append(o.Sections, slices.Repeat([]api.Section{section(".bss", 1, 0)}, 13)...)
		},
		"symbols":     func(o *api.Object) { o.Symbols = append(slices.Repeat(o.Symbols[:1], 60), o.Symbols...); o.Relas = nil },
		"relocations": func(o *api.Object) { o.Relas = append(slices.Repeat(o.Relas[1:2], 250), o.Relas...) },
		"bytes":       func(o *api.Object) { o.Sections[1].Data = mixed(4096) },
		"noughts":     func(o *api.Object) { o.Sections[2].Size = 4096 },
	} {
		o := turned(base(), turn)
		if !wantRead(t, what, planOf(o, house).file()) {
			t.Errorf("%s: refused", what)
		}
	}
}

// P13.1: tables of names as others may make them: in another order, with more in them, with names twice, or with names that end others.
func TestReadOfOthersNames(t *testing.T) {
	byPlace := func(turn func(names []string) []string) namer {
		return namer{func(names []string) string { return nameTable(turn(slices.Clone(names))) }, placeOf}
	}
	ways := map[string]namer{
		"falling":        byPlace(func(names []string) []string { slices.Reverse(names); return names }),
		"in order":       byPlace(func(names []string) []string { slices.Sort(names); return names }),
		"more":           byPlace(func(names []string) []string { return append(names, "more") }),
		"more ahead":     byPlace(func(names []string) []string { return append([]string{"more"}, names...) }),
		"a nought more":  {func(names []string) string { return nameTable(names) + "\x00" }, placeOf},
		"a nought ahead": {func(names []string) string { return "\x00" + nameTable(names) }, placeOf},
		"no nought behind": {func(names []string) string { return strings.TrimRight(nameTable(names), "\x00") }, func(table, name string) uint32 {
			return uint32(max(0, strings.Index(table+"\x00", "\x00"+name+"\x00")+1))
		}},
		"no nought ahead": {func(names []string) string { return "x" + nameTable(names)[1:] }, func(table, name string) uint32 {
			return uint32(max(0, strings.Index("\x00"+table[1:], "\x00"+name+"\x00")+1))
		}},
		"twice": {func(names []string) string { return nameTable(names) + nameTable(names)[1:] }, placeOf},
		"told by the second": {func(names []string) string { return nameTable(names) + nameTable(names)[1:] }, func(table, name string) uint32 {
			return uint32(strings.LastIndex(table, "\x00"+name+"\x00") + 1)
		}},
		"each": {func(names []string) string { return "\x00" + strings.Join(names, "\x00") + "\x00" }, placeOf},
		"ends of others": {tailTable, func(table, name string) uint32 {
			return uint32(strings.Index(table, name+"\x00"))
		}},
	}
	tried := map[string]int{}
	for _, o := range append(few(), base()) {
		own := planOf(o, house)
		if !bytes.Equal(own.file(), mustWrite(t, o)) {
			t.Fatal("the plan is not this house's")
		}
		for what, way := range ways {
			p := planOf(o, house)
			p.names = way
			for _, b := range [][]byte{planOf(o, way).file(), p.file()} {
				if !bytes.Equal(b, own.file()) {
					tried[what]++
					wantBad(t, "names "+what, b)
				}
			}
		}
	}
	for what := range ways {
		if tried[what] < 2 {
			t.Errorf("names %s were not tried", what)
		}
	}
}

// tailTable is a table of names in which those that end others have no bytes of their own.
func tailTable(names []string) string {
	names = slices.Clone(names)
	slices.SortStableFunc(names, func(a, b string) int { return len(b) - len(a) })
	table := "\x00"
	for _, name := range names {
		if !strings.Contains(table, name+"\x00") {
			table += name + "\x00"
		}
	}
	return table
}

// P13.1: more noughts between parts than need be, and fewer.
func TestReadOfOthersNoughts(t *testing.T) {
	for _, o := range append(few(), base()) {
		own := planOf(o, house).file()
		for _, extra := range []int{1, 2, 4, 8, 16, 32, 64, 128} {
			for i := range planOf(o, house).parts {
				p := planOf(o, house)
				p.parts[i].extra = extra
				wantBad(t, "noughts ahead of a part", p.file())
				// Behind it, that is, as if they were its own, though its head does not say so.
				p = planOf(o, house)
				p.parts[i].body = append(slices.Clone(p.parts[i].body), make([]byte, extra)...)
				p.parts[i].head.Size -= uint64(extra)
				if b := p.file(); !bytes.Equal(b, own) {
					wantBad(t, "noughts behind a part", b)
				}
			}
			p := planOf(o, house)
			p.extra = extra
			wantBad(t, "noughts ahead of the heads", p.file())
		}
		for i := range planOf(o, house).parts {
			p := planOf(o, house)
			was := p.parts[i].head.Addralign
			p.parts[i].head.Addralign = 1
			b := p.file()
			putAt(b, len(b)-64*(len(p.parts)-i), field{48, 8}, was)
			if !bytes.Equal(b, own) {
				wantBad(t, "a part that is not aligned", b)
			}
		}
	}
}

// P13.1: parts in another order, by their bytes alone, or with their heads.
func TestReadOfOthersOrder(t *testing.T) {
	ok, bad := 0, 0
	for _, o := range append(few(), base()) {
		own := planOf(o, house)
		many := len(own.parts)
		for i := range many {
			for j := range i {
				p := planOf(o, house)
				for k := range many {
					p.order = append(p.order, k)
				}
				p.order[i], p.order[j] = j, i
				if b := p.file(); !bytes.Equal(b, own.file()) {
					wantBad(t, "bytes in another order", b)
				}
				p = planOf(o, house)
				p.parts[i], p.parts[j] = p.parts[j], p.parts[i]
				b := p.file()
				if wantRead(t, "parts in another order", b) {
					ok++
				} else {
					bad++
				}
				// Two sections, or two groups, may change their places, if nothing tells these.
				if kind := partKind(p.parts[i].head.Type); kind != partKind(p.parts[j].head.Type) || kind > 2 {
					wantBad(t, "parts in another order", b)
				}
			}
		}
		p := planOf(o, house)
		slices.Reverse(p.parts)
		wantBad(t, "parts in falling order", p.file())
	}
	if ok < 3 || bad < 100 {
		t.Errorf("%d are files, %d are not", ok, bad)
	}
}

// partKind is 1 of sections, 2 of groups, and some other number of all others.
func partKind(kind uint32) int {
	switch kind {
	case 1, 8:
		return 1
	case 17:
		return 2
	}
	return 3
}

// P13.1: parts of which one is not there, or one is more than there should be.
func TestReadOfOthersParts(t *testing.T) {
	t.Parallel()
	for _, o := range append(few(), base()) {
		for i, gone := range planOf(o, house).parts {
			p := planOf(o, house)
			p.parts = slices.Delete(p.parts, i, i+1)
			b := p.file()
			wantRead(t, "without "+gone.name, b)
			if partKind(gone.head.Type) == 3 && gone.head.Type != 4 {
				wantBad(t, "without "+gone.name, b)
			}
		}
		for _, more := range []part{
			{name: ".comment", body: mixed(4)}, {name: ".data", body: mixed(4)}, {name: ".more"}, {name: ".data"}, {name: ".rela.text", link: ".symtab"}, {name: ".group.more", link: ".symtab", body: []byte{1, 0, 0, 0}}, {name: ".strtab", body: []byte{0}},
		} {
			for kind := range uint32(20) {
				more.head.Type = kind
				more.head.Addralign = 1
				for i := range len(planOf(o, house).parts) + 1 {
					p := planOf(o, house)
					p.parts = slices.Insert(p.parts, i, more)
					b := p.file()
					wantRead(t, fmt.Sprint("one more, of type ", kind), b)
					if kind != 1 && kind != 8 && kind != 17 || i > len(o.Sections)+len(o.Groups) {
						wantBad(t, fmt.Sprint("one more, of type ", kind), b)
					}
				}
			}
		}
	}
}

// R1: Read ends, and does not panic, whatever parts of files are moved, doubled, dropped or written over.
func TestReadOfBrokenFiles(t *testing.T) {
	t.Parallel()
	d := dice(13)
	files := few()
	for range 20000 {
		b := mustWrite(t, files[d.below(len(files))])
		for range 1 + d.below(3) {
			at := d.below(len(b))
			n := min(1<<d.below(9), len(b)-at)
			to := d.below(len(b))
			switch d.below(6) {
			case 0:
				b = slices.Delete(b, at, at+n)
			case 1:
				b = slices.Insert(b, to, slices.Clone(b[at:at+n])...)
			case 2:
				copy(b[to:], slices.Clone(b[at:at+n]))
			case 3:
				b[at] = byte(d.below(256))
			case 4:
				clear(b[at : at+n])
			case 5:
				copy(b[at&^7:], binary.LittleEndian.AppendUint64(nil, uint64(d.below(len(b)+64))))
			}
			if len(b) == 0 {
				break
			}
		}
		wantRead(t, "a broken file", b)
	}
}

// R1: Read ends in few steps, though each of very many heads asks for nearly all of a file: no byte is read for more than one of them.
func TestReadOfGreedyHeads(t *testing.T) {
	for _, kind := range []uint64{1, 2, 3, 4, 8, 17} {
		for _, many := range []int{4, 50, 500, 1000} {
			b := append(mustWrite(t, api.Object{})[:64], make([]byte, 65536-64)...)
			first := len(b) - 64*many
			// Relocations that there may be, and a table of names, too.
			for at := 64; at+24 <= first; at += 24 {
				b[at+8] = api.RRelax
			}
			putAt(b, 0, field{40, 8}, uint64(first))
			putAt(b, 0, field{60, 2}, uint64(many))
			putAt(b, 0, field{62, 2}, uint64(many-1))
			for i := range many {
				putAt(b, first+64*i, field{4, 4}, kind)
				putAt(b, first+64*i, field{24, 8}, 64)
				putAt(b, first+64*i, field{32, 8}, uint64(first-64)/24*24)
			}
			wantBad(t, "greedy heads", b)
			if pieces := testing.AllocsPerRun(1, func() { elfr.Read(b) }); pieces > 65536 {
				t.Errorf("%d heads of type %d: %v pieces of memory", many, kind, pieces)
			}
		}
	}
}
