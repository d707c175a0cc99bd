package sect_test

import (
	"bytes"
	"math"
	"math/big"
	"strings"
	"testing"

	"quoin/api"
	"quoin/sect"
)

// kinds are the four, by the beginnings of names.
var kinds = []struct {
	beginning string
	kind      uint8
}{{".text", 1}, {".rodata", 2}, {".data", 3}, {".bss", 4}}

// places are a head's fields: where each one's bytes begin, how many they are, and the field itself.
var places = []struct {
	name     string
	at, size int
	of       func(h *api.Head) *int
}{
	{"Name", 0, 4, func(h *api.Head) *int { return &h.Name }},
	{"Type", 4, 4, func(h *api.Head) *int { return &h.Type }},
	{"Flags", 8, 8, func(h *api.Head) *int { return &h.Flags }},
	{"Addr", 16, 8, func(h *api.Head) *int { return &h.Addr }},
	{"Offset", 24, 8, func(h *api.Head) *int { return &h.Offset }},
	{"Size", 32, 8, func(h *api.Head) *int { return &h.Size }},
	{"Link", 40, 4, func(h *api.Head) *int { return &h.Link }},
	{"Info", 44, 4, func(h *api.Head) *int { return &h.Info }},
	{"Align", 48, 8, func(h *api.Head) *int { return &h.Align }},
	{"Entry", 56, 8, func(h *api.Head) *int { return &h.Entry }},
}

// greatest is the greatest number of a field of size bytes.
func greatest(size int) int {
	if size == 4 {
		return 1<<32 - 1
	}
	return math.MaxInt
}

// bytesOf are the size bytes of n (from 0 on), by division alone, so that the tests don't lean on what they test.
func bytesOf(n, size int) []byte {
	var b []byte
	for range size {
		b = append(b, byte(n%256))
		n /= 256
	}
	return b
}

// bytesOfHead are the 64 bytes of h (that may be), by the table of places.
func bytesOfHead(h api.Head) []byte {
	b := make([]byte, 64)
	for _, p := range places {
		copy(b[p.at:], bytesOf(*p.of(&h), p.size))
	}
	return b
}

// headOf is the head whose bytes b are, and whether it may be, by sums of great numbers.
func headOf(b []byte) (api.Head, bool) {
	var h api.Head
	for _, p := range places {
		sum := new(big.Int)
		for i := p.size - 1; i >= 0; i-- {
			sum.Mul(sum, big.NewInt(256))
			sum.Add(sum, big.NewInt(int64(b[p.at+i])))
		}
		if sum.Cmp(big.NewInt(math.MaxInt)) > 0 {
			return api.Head{}, false
		}
		*p.of(&h) = int(sum.Int64())
	}
	return h, true
}

// fullHead is a head whose fields are all different, and none of whose bytes are alike.
func fullHead() api.Head {
	return api.Head{
		Name: 0x81828384, Type: 0x85868788,
		Flags: 0x0102030405060708, Addr: 0x1112131415161718,
		Offset: 0x2122232425262728, Size: 0x3132333435363738,
		Link: 0xf1f2f3f4, Info: 0xf5f6f7f8,
		Align: 0x4142434445464748, Entry: 0x7172737475767778,
	}
}

// mixed are n bytes no two of which beside each other are alike.
func mixed(n int) []byte {
	b := make([]byte, n)
	for i := range b {
		b[i] = byte(i*167 + 131)
	}
	return b
}

// wantKind holds Kind's answer against a kind; 0 is none, with ErrText.
func wantKind(t *testing.T, name string, want uint8) {
	t.Helper()
	wantErr := api.OK
	if want == 0 {
		wantErr = api.ErrText
	}
	if k, e := sect.Kind(name); k != want || e != wantErr {
		t.Errorf("Kind(%q) = %d, %v; want %d, %v", name, k, int(e), want, int(wantErr))
	}
}

// wantCheck holds Check's answer against whether s may be.
func wantCheck(t *testing.T, s api.Section, may bool) {
	t.Helper()
	want := api.OK
	if !may {
		want = api.ErrBad
	}
	if e := sect.Check(s); e != want {
		t.Errorf("Check(%q, Align %d, %d bytes, Size %d) = %d; want %d", s.Name, s.Align, len(s.Data), s.Size, int(e), int(want))
	}
}

// wantSame holds Same against whether, from both sides.
func wantSame(t *testing.T, a, b api.Section, want bool) {
	t.Helper()
	if sect.Same(a, b) != want || sect.Same(b, a) != want {
		t.Errorf("Same(%.100v, %.100v) = %v, %v the other way; want %v", a, b, sect.Same(a, b), sect.Same(b, a), want)
	}
}

// wantWrite holds Write's answer against bytes or an error.
func wantWrite(t *testing.T, h api.Head, want []byte, wantErr api.Errno) {
	t.Helper()
	b, e := sect.Write(h)
	if e != wantErr || !bytes.Equal(b, want) {
		t.Errorf("Write(%+v) = %v, %d; want %v, %d", h, b, int(e), want, int(wantErr))
	}
}

// wantRead holds Read's answer against a head or an error.
func wantRead(t *testing.T, b []byte, want api.Head, wantErr api.Errno) {
	t.Helper()
	h, e := sect.Read(b)
	if e != wantErr || h != want {
		t.Errorf("Read(%v) = %+v, %d; want %+v, %d", b, h, int(e), want, int(wantErr))
	}
}

// P9.1: the four names, alone, and with a point, points, and more behind it.
func TestKindOfEachName(t *testing.T) {
	for _, k := range kinds {
		for _, behind := range []string{"", ".", "..", ".x", ".main", ".x.y", ".text", ".rodata", ".data", ".bss", ".~", ".!"} {
			wantKind(t, k.beginning+behind, k.kind)
		}
	}
}

// P9.1: any byte but a point behind a kind's name, alone and ahead of a point, makes it a name of no kind.
func TestKindOfNamesWithAnotherByteBehind(t *testing.T) {
	for _, k := range kinds {
		for c := range 256 {
			want := uint8(0)
			if c == '.' {
				want = k.kind
			}
			name := k.beginning + string([]byte{byte(c)})
			wantKind(t, name, want)
			wantKind(t, name+".x", want)
		}
	}
}

// P9.1: what only begins as a kind's name does, what has more ahead of it, and what has other letters, is of no kind.
func TestKindOfOtherNames(t *testing.T) {
	wantKind(t, "", 0)
	for _, k := range kinds {
		for size := range len(k.beginning) {
			wantKind(t, k.beginning[:size], 0)
			wantKind(t, k.beginning[:size]+".", 0)
			wantKind(t, k.beginning[:size]+".x", 0)
		}
		for _, name := range []string{k.beginning[1:], "." + k.beginning, "x" + k.beginning, " " + k.beginning, strings.ToUpper(k.beginning), k.beginning + "s", k.beginning + "_x", k.beginning + k.beginning[1:], ".rela" + k.beginning, k.beginning + "\x00", k.beginning + "\x00.x"} {
			wantKind(t, name, 0)
		}
	}
	for _, name := range []string{".", "..", "x", "main", ".group", ".symtab", ".strtab", ".ro.data", ".sbss", ".sdata", ".rodata1", ".data1", ".text1"} {
		wantKind(t, name, 0)
	}
}

// P9.1: each name's longest, and one byte more.
func TestKindOfLongNames(t *testing.T) {
	for _, k := range kinds {
		for size := len(k.beginning) + 1; size <= 40; size++ {
			want := k.kind
			if size > 32 {
				want = 0
			}
			wantKind(t, k.beginning+"."+strings.Repeat("x", size-len(k.beginning)-1), want)
		}
		wantKind(t, k.beginning+"."+strings.Repeat("x", 256), 0)
		wantKind(t, k.beginning+"."+strings.Repeat("x", 1<<16), 0)
	}
	wantKind(t, strings.Repeat("x", 32), 0)
	wantKind(t, strings.Repeat("x", 33), 0)
}

// P9.1: every byte behind the point, at the first place there, amid others, and as a name's last one.
func TestKindOfNamesWithEveryByte(t *testing.T) {
	for _, k := range kinds {
		for c := range 256 {
			want := uint8(0)
			if c >= 33 && c <= 126 {
				want = k.kind
			}
			odd := string([]byte{byte(c)})
			for _, name := range []string{"." + odd, "." + odd + "xy", ".x" + odd + "y", ".xy" + odd} {
				wantKind(t, k.beginning+name, want)
			}
			wantKind(t, odd+k.beginning, 0)
			filled := k.beginning + "." + strings.Repeat("x", 32-len(k.beginning)-2)
			wantKind(t, filled+odd, want)
		}
		// Letters of more than one byte are no bytes from 33 to 126.
		wantKind(t, k.beginning+".\u00e9", 0)
		wantKind(t, k.beginning+".\u2200", 0)
	}
}

// P9.1: bytes 32, 33, 126 and 127 at a name's beginning, in it and at its end.
func TestKindOfNamesWithBytesAtTheEdges(t *testing.T) {
	for _, k := range kinds {
		for _, c := range []struct {
			odd string
			may bool
		}{{" ", false}, {"!", true}, {"~", true}, {"\x7f", false}} {
			want := uint8(0)
			if c.may {
				want = k.kind
			}
			wantKind(t, c.odd+k.beginning, 0)
			wantKind(t, c.odd+k.beginning[1:], 0)
			wantKind(t, k.beginning[:2]+c.odd+k.beginning[2:], 0)
			wantKind(t, k.beginning+c.odd, 0)
			wantKind(t, k.beginning+"."+c.odd+"x", want)
			wantKind(t, k.beginning+".x"+c.odd, want)
		}
	}
}

// P9.1: a section's name has to be of a kind.
func TestCheckNames(t *testing.T) {
	for _, k := range kinds {
		wantCheck(t, api.Section{Name: k.beginning, Align: 1}, true)
		wantCheck(t, api.Section{Name: k.beginning + ".", Align: 1}, true)
		wantCheck(t, api.Section{Name: k.beginning + ".x", Align: 1}, true)
		wantCheck(t, api.Section{Name: k.beginning + "x", Align: 1}, false)
		wantCheck(t, api.Section{Name: k.beginning + ". x", Align: 1}, false)
		wantCheck(t, api.Section{Name: k.beginning + ".\x7f", Align: 1}, false)
		wantCheck(t, api.Section{Name: k.beginning[1:], Align: 1}, false)
		long := k.beginning + "." + strings.Repeat("x", 32-len(k.beginning)-1)
		wantCheck(t, api.Section{Name: long, Align: 1}, true)
		wantCheck(t, api.Section{Name: long + "x", Align: 1}, false)
	}
	for _, name := range []string{"", ".", "x", ".tex", "\x00", " "} {
		wantCheck(t, api.Section{Name: name, Align: 1}, false)
	}
}

// P9.1: every alignment from below 0 to above MaxAlign, and far ones.
func TestCheckAligns(t *testing.T) {
	may := map[int]bool{1: true, 2: true, 4: true, 8: true, 16: true, 32: true, 64: true}
	aligns := []int{math.MinInt, math.MinInt + 1, math.MinInt32, -1 << 32, 256, 512, 1024, 4096, math.MaxInt32, 1 << 31, 1 << 32, 1<<32 + 1, 1 << 62, math.MaxInt}
	for align := -130; align <= 130; align++ {
		aligns = append(aligns, align)
	}
	for _, align := range aligns {
		wantCheck(t, api.Section{Name: ".bss", Align: align, Size: 9}, may[align])
		for _, name := range []string{".text", ".rodata.x", ".data."} {
			wantCheck(t, api.Section{Name: name, Align: align, Data: mixed(3)}, may[align])
		}
	}
}

// P9.1: bytes from none to beyond MaxData, with sizes, of each kind: one of .bss has only a size, the others only bytes.
func TestCheckBytesAndSizes(t *testing.T) {
	for _, k := range kinds {
		for _, many := range []int{0, 1, 2, 3, 4095, 4096, 4097, 8192} {
			for _, size := range []int{math.MinInt, math.MinInt32, -4096, -1, 0, 1, 2, 3, many, 4095, 4096, 4097, 8192, 1 << 32, math.MaxInt} {
				may := many <= 4096 && size == 0
				if k.kind == 4 {
					may = many == 0 && size >= 0 && size <= 4096
				}
				for _, name := range []string{k.beginning, k.beginning + ".x"} {
					wantCheck(t, api.Section{Name: name, Align: 64, Data: mixed(many), Size: size}, may)
				}
			}
		}
	}
}

// P9.1: a list without bytes may be nil or not, and spare room is none of its bytes.
func TestCheckSpareRoom(t *testing.T) {
	for _, none := range [][]byte{nil, {}, mixed(5000)[:0]} {
		wantCheck(t, api.Section{Name: ".bss", Align: 1, Data: none, Size: 4096}, true)
		wantCheck(t, api.Section{Name: ".data", Align: 1, Data: none}, true)
	}
	wantCheck(t, api.Section{Name: ".data", Align: 1, Data: mixed(5000)[:4096]}, true)
}

// P9.1: sections that differ in one field alone are not the same; else they are, whether they may be or not.
func TestSame(t *testing.T) {
	first := func() api.Section {
		return api.Section{Name: ".data.x", Align: 4, Data: []byte{1, 2, 3}, Size: 7}
	}
	wantSame(t, first(), first(), true)
	wantSame(t, api.Section{}, api.Section{}, true)
	for _, change := range []func(s *api.Section){
		func(s *api.Section) { s.Name = ".data.y" },
		func(s *api.Section) { s.Name = ".data.x." },
		func(s *api.Section) { s.Name = ".data." },
		func(s *api.Section) { s.Name = "" },
		func(s *api.Section) { s.Align = 8 },
		func(s *api.Section) { s.Align = -4 },
		func(s *api.Section) { s.Align = 4 + 1<<32 },
		func(s *api.Section) { s.Data[0] = 0 },
		func(s *api.Section) { s.Data[2] = 131 },
		func(s *api.Section) { s.Data = s.Data[:2] },
		func(s *api.Section) { s.Data = append(s.Data, 0) },
		func(s *api.Section) { s.Data = nil },
		func(s *api.Section) { s.Size = 0 },
		func(s *api.Section) { s.Size = -7 },
		func(s *api.Section) { s.Size = 7 + 1<<32 },
	} {
		other := first()
		change(&other)
		wantSame(t, first(), other, false)
		wantSame(t, other, other, true)
	}
}

// P9.1: no bytes are no bytes, be the list nil or not; and a list's spare room is not held against another's.
func TestSameOfListsWithoutBytes(t *testing.T) {
	lists := [][]byte{nil, {}, mixed(3)[:0], mixed(9)[4:4]}
	for _, a := range lists {
		for _, b := range lists {
			wantSame(t, api.Section{Name: ".bss", Align: 1, Data: a, Size: 4}, api.Section{Name: ".bss", Align: 1, Data: b, Size: 4}, true)
		}
		wantSame(t, api.Section{Data: a}, api.Section{Data: []byte{0}}, false)
	}
	wantSame(t, api.Section{Data: []byte{1, 2, 3}[:2]}, api.Section{Data: []byte{1, 2}}, true)
	long := mixed(5000)
	other := bytes.Clone(long)
	wantSame(t, api.Section{Data: long}, api.Section{Data: other}, true)
	other[4999]++
	wantSame(t, api.Section{Data: long}, api.Section{Data: other}, false)
}

// sections are some that may be, and some that may not.
func sections() []api.Section {
	return []api.Section{
		{}, {Name: ".text", Align: 2, Data: []byte{1, 0}}, {Name: ".rodata.x", Align: 64, Data: mixed(4096)},
		{Name: ".data", Align: 1, Data: mixed(9)[:4]}, {Name: ".data", Align: 1, Data: []byte{}}, {Name: ".bss", Align: 8, Size: 4096}, {Name: ".bss", Align: 8, Data: mixed(4)[:0], Size: 3},
		{Name: "\x00\xff", Align: -3, Data: mixed(5000), Size: -1}, {Name: strings.Repeat("x", 99), Align: math.MinInt, Data: []byte{7}, Size: math.MaxInt},
		{Align: 3}, {Size: 5}, {Name: ".bss", Data: []byte{1}, Size: 4097},
	}
}

// P9.1: a twin is the same, of sections that may be and of others.
func TestTwin(t *testing.T) {
	for _, s := range sections() {
		twin := sect.Twin(s)
		wantSame(t, s, twin, true)
		if twin.Name != s.Name || twin.Align != s.Align || twin.Size != s.Size || !bytes.Equal(twin.Data, s.Data) {
			t.Errorf("Twin(%.100v) = %.100v", s, twin)
		}
	}
}

// P9.3: a change of the one's bytes, spare room too, leaves the other as it was.
func TestTwinIsNewMemory(t *testing.T) {
	fill := func(b []byte) {
		b = b[:cap(b)]
		for i := range b {
			b[i] = ^b[i]
		}
	}
	for _, s := range sections() {
		whole := bytes.Clone(s.Data[:cap(s.Data)])
		twin, second := sect.Twin(s), sect.Twin(s)
		fill(twin.Data)
		if !bytes.Equal(s.Data[:cap(s.Data)], whole) || !bytes.Equal(second.Data, whole[:len(s.Data)]) {
			t.Errorf("%q: a change of its twin has changed it, or its other twin", s.Name)
		}
		fill(s.Data)
		if !bytes.Equal(second.Data, whole[:len(s.Data)]) {
			t.Errorf("%q: a change of it has changed its twin", s.Name)
		}
	}
}

// P9.2: each field alone, and which bytes it has.
func TestWriteEachField(t *testing.T) {
	for _, p := range places {
		most := greatest(p.size)
		for _, n := range []int{0, 1, 2, 127, 128, 255, 256, 258, 65535, 65536, 0x123456, math.MaxInt32, 1 << 31, 1<<32 - 2, 1<<32 - 1, 1 << 32, 1<<32 + 1, 1 << 40, 1<<56 + 1, 0x0123456789abcdef, 1 << 62, math.MaxInt - 1, math.MaxInt} {
			var h api.Head
			*p.of(&h) = n
			if n > most {
				wantWrite(t, h, nil, api.ErrArg)
				continue
			}
			want := append(make([]byte, p.at), bytesOf(n, p.size)...)
			want = append(want, make([]byte, 64-len(want))...)
			wantWrite(t, h, want, api.OK)
		}
	}
}

// P9.2: each field alone beyond its ends, in a head of noughts and in a full one.
func TestWriteOfHeadsThatMayNotBe(t *testing.T) {
	for _, p := range places {
		// One more than the greatest of eight bytes wraps round, and is below 0.
		for _, n := range []int{-1, -2, -256, -1 << 31, -1 << 32, -1<<32 + 1, math.MinInt + 1, math.MinInt, greatest(p.size) + 1} {
			for _, h := range []api.Head{{}, fullHead()} {
				*p.of(&h) = n
				wantWrite(t, h, nil, api.ErrArg)
			}
		}
	}
	wantWrite(t, api.Head{Name: -1, Type: 1 << 32, Flags: -1, Addr: -1, Offset: -1, Size: -1, Link: -1, Info: -1, Align: -1, Entry: -1}, nil, api.ErrArg)
}

// P9.2: each field's bytes, written out, so that they don't hang on the tests' own reckoning.
func TestWriteOfAFullHead(t *testing.T) {
	wantWrite(t, fullHead(), []byte{
		0x84, 0x83, 0x82, 0x81, 0x88, 0x87, 0x86, 0x85,
		0x08, 0x07, 0x06, 0x05, 0x04, 0x03, 0x02, 0x01,
		0x18, 0x17, 0x16, 0x15, 0x14, 0x13, 0x12, 0x11,
		0x28, 0x27, 0x26, 0x25, 0x24, 0x23, 0x22, 0x21,
		0x38, 0x37, 0x36, 0x35, 0x34, 0x33, 0x32, 0x31,
		0xf4, 0xf3, 0xf2, 0xf1, 0xf8, 0xf7, 0xf6, 0xf5,
		0x48, 0x47, 0x46, 0x45, 0x44, 0x43, 0x42, 0x41,
		0x78, 0x77, 0x76, 0x75, 0x74, 0x73, 0x72, 0x71,
	}, api.OK)
	wantWrite(t, api.Head{}, make([]byte, 64), api.OK)
}

// P9.2: every number of bytes but 64, whatever they are.
func TestReadOfOtherLengths(t *testing.T) {
	wantRead(t, nil, api.Head{}, api.ErrText)
	wantRead(t, []byte{}, api.Head{}, api.ErrText)
	for size := range 200 {
		if size == 64 {
			continue
		}
		wantRead(t, make([]byte, size), api.Head{}, api.ErrText)
		wantRead(t, bytes.Repeat([]byte{255}, size), api.Head{}, api.ErrText)
	}
	wantRead(t, make([]byte, 1<<16), api.Head{}, api.ErrText)
	wantRead(t, make([]byte, 64), api.Head{}, api.OK)
	// Spare room is none of the bytes.
	wantRead(t, make([]byte, 64)[:63], api.Head{}, api.ErrText)
	wantRead(t, make([]byte, 65)[:64], api.Head{}, api.OK)
}

// P9.2: the highest bit of each field alone: of eight bytes no head has it, of four it is a number's.
func TestReadOfHighestBits(t *testing.T) {
	full, e := sect.Write(fullHead())
	if e != api.OK {
		t.Fatal(e)
	}
	for _, p := range places {
		for _, b := range [][]byte{make([]byte, 64), bytes.Clone(full)} {
			b[p.at+p.size-1] |= 128
			if p.size == 8 {
				wantRead(t, b, api.Head{}, api.ErrBad)
				continue
			}
			want, _ := headOf(b)
			wantRead(t, b, want, api.OK)
		}
		ones := make([]byte, 64)
		copy(ones[p.at:], bytes.Repeat([]byte{255}, p.size))
		if p.size == 8 {
			wantRead(t, ones, api.Head{}, api.ErrBad)
			ones[p.at+7] = 127
		}
		var want api.Head
		*p.of(&want) = greatest(p.size)
		wantRead(t, ones, want, api.OK)
	}
}

// P9.2: every one of the 512 bits alone.
func TestReadOfEachBit(t *testing.T) {
	for bit := range 512 {
		b := make([]byte, 64)
		b[bit/8] = 1 << (bit % 8)
		want, ok := headOf(b)
		if ok {
			wantRead(t, b, want, api.OK)
		} else {
			wantRead(t, b, api.Head{}, api.ErrBad)
		}
	}
}

// P9.3: what is handed in, its spare room too, is as it was.
func TestArgumentsAreOnlyRead(t *testing.T) {
	whole := mixed(100)
	before := bytes.Clone(whole)
	for size := range len(whole) {
		sect.Read(whole[:size])
		s := api.Section{Name: ".data", Align: 4, Data: whole[:size]}
		sect.Check(s)
		sect.Same(s, api.Section{Name: ".data", Align: 4, Data: whole[:size/2]})
		sect.Twin(s)
	}
	if !bytes.Equal(whole, before) {
		t.Error("the bytes that were handed in have changed")
	}
}

// P9.3: no two answers share memory, nor do they with what was read.
func TestAnswersAreNewMemory(t *testing.T) {
	kept, _ := sect.Write(fullHead())
	other, _ := sect.Write(fullHead())
	clear(other[:cap(other)])
	if !bytes.Equal(kept, bytesOfHead(fullHead())) {
		t.Error("a change of one answer has changed another")
	}
	h, e := sect.Read(kept)
	clear(kept)
	if h != fullHead() || e != api.OK {
		t.Errorf("the head has become %+v, %d", h, int(e))
	}
	wantWrite(t, fullHead(), bytesOfHead(fullHead()), api.OK)
}

// P9.4: a head is its bytes, read again.
func TestHeadsAndBack(t *testing.T) {
	heads := []api.Head{{}, fullHead()}
	most := api.Head{}
	for _, p := range places {
		*p.of(&most) = greatest(p.size)
		for _, n := range []int{1, 255, 256, 1 << 31, greatest(4) - 1, greatest(p.size)} {
			var h api.Head
			*p.of(&h) = n
			heads = append(heads, h)
			h = fullHead()
			*p.of(&h) = n
			heads = append(heads, h)
		}
	}
	for _, h := range append(heads, most) {
		b, e := sect.Write(h)
		if e != api.OK || len(b) != 64 {
			t.Errorf("Write(%+v): %d bytes, %d", h, len(b), int(e))
			continue
		}
		wantRead(t, b, h, api.OK)
	}
}

// P9.4: bytes that are read are written as just these; those that are not may be no head's.
func TestBytesAndBack(t *testing.T) {
	for step := range 256 {
		b := make([]byte, 64)
		for i := range b {
			b[i] = byte(i*step + step*step + 7)
		}
		want, ok := headOf(b)
		if !ok {
			wantRead(t, b, api.Head{}, api.ErrBad)
			for _, p := range places {
				b[p.at+p.size-1] &= 127
			}
			want, _ = headOf(b)
		}
		wantRead(t, b, want, api.OK)
		wantWrite(t, want, b, api.OK)
	}
}

// P9.4: a name is of one kind at most: that whose beginning it has, and of no other one.
func TestNamesAreOfOneKind(t *testing.T) {
	for _, k := range kinds {
		for _, behind := range []string{"", ".", ".x", ".text.rodata.data.bss"} {
			many := 0
			for _, other := range kinds {
				name := k.beginning + behind
				if name == other.beginning || strings.HasPrefix(name, other.beginning+".") {
					many++
					wantKind(t, name, other.kind)
				}
			}
			if many != 1 {
				t.Errorf("%q: %d kinds", k.beginning+behind, many)
			}
		}
	}
	if api.KindText != 1 || api.KindRodata != 2 || api.KindData != 3 || api.KindBss != 4 {
		t.Error("the kinds' numbers are not the chapter's")
	}
}

// Every row of the chapter's 'Examples'.
func TestExamples(t *testing.T) {
	wantKind(t, ".text", 1)
	wantKind(t, ".data.x", 3)
	wantKind(t, ".bssx", 0)
	wantKind(t, ".text.", 1)
	wantCheck(t, api.Section{Name: ".data", Align: 4, Data: []byte{1, 2, 3}}, true)
	wantCheck(t, api.Section{Name: ".bss", Align: 1, Size: 9}, true)
	wantCheck(t, api.Section{Name: ".text", Align: 3}, false)
	wantCheck(t, api.Section{Name: ".bss", Align: 1, Data: []byte{1}}, false)
	b, e := sect.Write(api.Head{Size: 1})
	if e != api.OK || len(b) != 64 || !bytes.Equal(b[32:40], []byte{1, 0, 0, 0, 0, 0, 0, 0}) {
		t.Error(b, int(e))
	}
	wantRead(t, nil, api.Head{}, api.ErrText)
	wantRead(t, bytes.Repeat([]byte{255}, 64), api.Head{}, api.ErrBad)
	if api.ErrArg != 2 || api.ErrText != 3 || api.ErrBad != 8 {
		t.Error("the errors' numbers are not the chapter's", int(api.ErrArg), int(api.ErrText), int(api.ErrBad))
	}
}
