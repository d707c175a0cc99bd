package sym_test

import (
	"bytes"
	"fmt"
	"math"
	"math/big"
	"strings"
	"testing"

	"quoin/api"
	"quoin/sym"
)

// numbers are near the ends of what Value and Size may be anywhere, with a step to both sides, and such as wrap round.
var numbers = []int{
	math.MinInt, math.MinInt + 1, -1<<32 - 1, -1 << 32, -1<<32 + 1, -1<<31 - 1, -1 << 31, -1<<31 + 1, -4097, -4096, -256, -65, -64, -8, -2, -1,
	0, 1, 2, 3, 4, 7, 8, 16, 32, 63, 64, 65, 127, 128, 255, 256, 300, 4095, 4096, 4097, 8192, 65535, 65536,
	1<<31 - 1, 1 << 31, 1<<31 + 1, 1<<32 - 2, 1<<32 - 1, 1 << 32, 1<<32 + 1, 1<<32 + 8, 1 << 62, math.MaxInt - 1, math.MaxInt,
}

// wheres are every section's number with some beyond, all that are no section's, and others below 0, those among them that the two bytes of some place would be, if they had a sign.
var wheres = []int{
	math.MinInt, math.MinInt + 1, -1<<32 - 1, -1 << 32, -1<<16 - 1, -1 << 16, -1<<15 - 1, -1 << 15, -256, -32, -18, -17, -16, -15, -14, -13, -12, -5, -4, -3, -2, -1,
	0, 1, 2, 3, 4, 5, 6, 7, 8, 9, 10, 11, 12, 13, 14, 15, 16, 17, 18, 32, 255, 256, 257, 4096, 32767, 32768,
	0xffef, 0xfff0, 0xfff1, 0xfff2, 0xfff3, 0xffff, 1 << 16, 1<<16 + 1, 1 << 32, 1<<32 + 1, math.MaxInt - 1, math.MaxInt,
}

// noPlaces are no place of a name.
var noPlaces = []int{math.MinInt, math.MinInt + 1, -1 << 32, -1 << 31, -65536, -65535, -2, -1, 65536, 65537, 131072, 1<<31 - 1, 1 << 31, 1<<32 - 1, 1 << 32, 1<<32 + 7, math.MaxInt - 1, math.MaxInt}

// places are some of a name: both ends, and such as show bytes that are changed about.
var places = []int{0, 1, 7, 127, 128, 255, 256, 258, 1000, 32767, 32768, 65534, 65535}

// within tells whether n is from low to high.
func within(n, low, high int) bool {
	return n >= low && n <= high
}

// mayBe tells whether s, its name left aside, may be in an object of so many sections, by the chapter's words.
func mayBe(s api.Symbol, sections int) bool {
	if s.Bind > 2 || s.Hidden && s.Bind == 0 {
		return false
	}
	if s.Where == 0 {
		return s.Value == 0 && s.Size == 0 && s.Bind != 0
	}
	if s.Where == -1 {
		return within(s.Value, -2147483648, 4294967295) && s.Size == 0
	}
	if s.Where == -2 {
		for _, multiple := range []int{1, 2, 4, 8, 16, 32, 64} {
			if s.Value == multiple {
				return within(s.Size, 1, 4096) && s.Bind == 1
			}
		}
		return false
	}
	return within(s.Where, 1, sections) && within(s.Value, 0, 4096) && within(s.Size, 0, 4096)
}

// bytesOf are the size bytes of n, by division alone, so that the tests don't lean on what they test.
func bytesOf(n, size int) []byte {
	rest := big.NewInt(int64(n))
	if n < 0 {
		rest.Add(rest, new(big.Int).Lsh(big.NewInt(1), 64))
	}
	var b []byte
	for range size {
		lowest := new(big.Int)
		rest.DivMod(rest, big.NewInt(256), lowest)
		b = append(b, byte(lowest.Int64()))
	}
	return b
}

// bytesOfSymbol are the 24 bytes of s (that may be), its name being at a place.
func bytesOfSymbol(s api.Symbol, name int) []byte {
	b := append(bytesOf(name, 4), []byte{0, 16, 32}[s.Bind], 0)
	if s.Hidden {
		b[5] = 2
	}
	switch s.Where {
	case -1:
		b = append(b, 241, 255)
	case -2:
		b = append(b, 242, 255)
	default:
		b = append(b, byte(s.Where), 0)
	}
	return append(append(b, bytesOf(s.Value, 8)...), bytesOf(s.Size, 8)...)
}

// long is the number of eight bytes, by sums of great numbers.
func long(b []byte) int {
	sum := new(big.Int)
	for i := 7; i >= 0; i-- {
		sum.Mul(sum, big.NewInt(256))
		sum.Add(sum, big.NewInt(int64(b[i])))
	}
	if b[7] > 127 {
		sum.Sub(sum, new(big.Int).Lsh(big.NewInt(1), 64))
	}
	return int(sum.Int64())
}

// symbolOf is the symbol and the place whose 24 bytes b are, and whether they are any's, by the chapter's words.
func symbolOf(b []byte) (s api.Symbol, name int, ok bool) {
	if b[2] != 0 || b[3] != 0 || b[4]%16 != 0 || b[5] != 0 && b[5] != 2 {
		return api.Symbol{}, 0, false
	}
	s = api.Symbol{Bind: b[4] / 16, Hidden: b[5] == 2, Value: long(b[8:16]), Size: long(b[16:24])}
	switch {
	case b[6] == 241 && b[7] == 255:
		s.Where = -1
	case b[6] == 242 && b[7] == 255:
		s.Where = -2
	case b[6] <= 16 && b[7] == 0:
		s.Where = int(b[6])
	default:
		return api.Symbol{}, 0, false
	}
	if !mayBe(s, 16) {
		return api.Symbol{}, 0, false
	}
	return s, int(b[0]) + 256*int(b[1]), true
}

// samples are symbols that may be, of each place, each at ends of its own.
func samples() []api.Symbol {
	var all []api.Symbol
	for _, where := range []int{1, 2, 15, 16} {
		for _, n := range []int{0, 1, 255, 256, 258, 4095, 4096} {
			all = append(all, api.Symbol{Where: where, Value: n}, api.Symbol{Where: where, Size: n}, api.Symbol{Where: where, Bind: 1, Value: n, Size: 4096 - n}, api.Symbol{Where: where, Bind: 2, Hidden: true, Value: n, Size: n})
		}
	}
	for _, bind := range []uint8{1, 2} {
		all = append(all, api.Symbol{Bind: bind}, api.Symbol{Bind: bind, Hidden: true})
	}
	for _, n := range []int{-1 << 31, -1<<31 + 1, -256, -7, -1, 0, 1, 0x1234567, 1<<31 - 1, 1 << 31, 1<<32 - 2, 1<<32 - 1} {
		all = append(all, api.Symbol{Where: -1, Value: n}, api.Symbol{Where: -1, Bind: 1, Value: n}, api.Symbol{Where: -1, Bind: 1, Hidden: true, Value: n}, api.Symbol{Where: -1, Bind: 2, Value: n}, api.Symbol{Where: -1, Bind: 2, Hidden: true, Value: n})
	}
	for _, n := range []int{1, 2, 4, 8, 16, 32, 64} {
		for _, size := range []int{1, 2, 255, 256, 4095, 4096} {
			all = append(all, api.Symbol{Where: -2, Bind: 1, Value: n, Size: size}, api.Symbol{Where: -2, Bind: 1, Hidden: true, Value: n, Size: size})
		}
	}
	for i := range all {
		all[i].Name = "f"
	}
	return all
}

// nameless is s without its name.
func nameless(s api.Symbol) api.Symbol {
	s.Name = ""
	return s
}

// told is s with its name in quotes, cut, since that may have any bytes, and any number of them.
func told(s api.Symbol) string {
	return fmt.Sprintf("%.40q%+v", s.Name, nameless(s))
}

// wantError holds Check's answer against an error.
func wantError(t *testing.T, s api.Symbol, sections int, want api.Errno) {
	t.Helper()
	if e := sym.Check(s, sections); e != want {
		t.Errorf("Check(%s, %d) = %d; want %d", told(s), sections, int(e), int(want))
	}
}

// wantCheck holds Check's answer against whether s may be.
func wantCheck(t *testing.T, s api.Symbol, sections int, may bool) {
	t.Helper()
	want := api.OK
	if !may {
		want = api.ErrBad
	}
	wantError(t, s, sections, want)
}

// wantWrite holds Write's answer against bytes or an error.
func wantWrite(t *testing.T, s api.Symbol, name int, want []byte, wantErr api.Errno) {
	t.Helper()
	b, e := sym.Write(s, name)
	if e != wantErr || !bytes.Equal(b, want) {
		t.Errorf("Write(%s, %d) = %v, %d; want %v, %d", told(s), name, b, int(e), want, int(wantErr))
	}
}

// wantRead holds Read's answer against a symbol and a place, or an error.
func wantRead(t *testing.T, b []byte, want api.Symbol, wantName int, wantErr api.Errno) {
	t.Helper()
	s, name, e := sym.Read(b)
	if e != wantErr || s != want || name != wantName {
		t.Errorf("Read(%v) = %+v, %d, %d; want %+v, %d, %d", b, s, name, int(e), want, wantName, int(wantErr))
	}
}

// wantReadRight holds Read's answer for 24 bytes against what the chapter's words make of them; what is read is written as just these.
func wantReadRight(t *testing.T, b []byte) {
	t.Helper()
	s, name, ok := symbolOf(b)
	if !ok {
		wantRead(t, b, api.Symbol{}, 0, api.ErrBad)
		return
	}
	wantRead(t, b, s, name, api.OK)
	s.Name = "f"
	wantWrite(t, s, name, b, api.OK)
}

// P10.1: every number of sections near the ends, whatever the symbol: ErrArg is told ahead of ErrBad.
func TestCheckNumbersOfSections(t *testing.T) {
	none := api.Symbol{Name: "f", Bind: 1}
	worst := api.Symbol{Bind: 3, Where: -9, Value: -1, Size: -1}
	for sections := range 17 {
		wantCheck(t, none, sections, true)
		wantCheck(t, worst, sections, false)
	}
	for _, sections := range []int{math.MinInt, math.MinInt + 1, -1 << 32, -17, -16, -2, -1, 17, 18, 32, 255, 256, 257, 1<<16 + 1, 1 << 32, 1<<32 + 1, math.MaxInt - 1, math.MaxInt} {
		wantError(t, none, sections, api.ErrArg)
		wantError(t, worst, sections, api.ErrArg)
		wantError(t, api.Symbol{}, sections, api.ErrArg)
		wantError(t, api.Symbol{Name: "f", Where: 1}, sections, api.ErrArg)
		wantError(t, api.Symbol{Name: "f", Where: sections}, sections, api.ErrArg)
	}
}

// P10.1: names of every length, of each place.
func TestCheckLengthsOfNames(t *testing.T) {
	for _, s := range samples() {
		for _, size := range []int{0, 1, 2, 31, 32, 33, 34, 64, 256, 288} {
			s.Name = strings.Repeat("x", size)
			may := size >= 1 && size <= 32
			wantCheck(t, s, 16, may)
			if may {
				wantWrite(t, s, 7, bytesOfSymbol(s, 7), api.OK)
			} else {
				wantWrite(t, s, 7, nil, api.ErrBad)
			}
		}
	}
}

// P10.1: every byte at a name's beginning, in it and at its end, alone, and in the longest name.
func TestCheckBytesOfNames(t *testing.T) {
	for c := range 256 {
		odd := string([]byte{byte(c)})
		for _, name := range []string{odd, odd + "xy", "x" + odd + "y", "xy" + odd, odd + odd, strings.Repeat("x", 31) + odd, odd + strings.Repeat("x", 31)} {
			s := api.Symbol{Name: name, Where: 1}
			may := c >= 33 && c <= 126
			wantCheck(t, s, 1, may)
			wantCheck(t, api.Symbol{Name: name, Bind: 2}, 0, may)
			if !may {
				wantWrite(t, s, 0, nil, api.ErrBad)
			}
		}
	}
	for _, c := range []struct {
		name string
		may  bool
	}{{" f", false}, {"f f", false}, {"f ", false}, {"!f", true}, {"f!f", true}, {"f!", true}, {"~f", true}, {"f~f", true}, {"f~", true}, {"\x7ff", false}, {"f\x7ff", false}, {"f\x7f", false}, {"\u00e9", false}, {"f\u2200", false}, {"f\x00", false}, {".text", true}, {".L1", true}, {"1", true}, {"a/b", true}} {
		wantCheck(t, api.Symbol{Name: c.name, Where: 1}, 1, c.may)
	}
}

// P10.1: every Bind, hidden and not, of each place.
func TestCheckBinds(t *testing.T) {
	for _, s := range []api.Symbol{{Where: 1}, {}, {Where: -1}, {Where: -2, Value: 8, Size: 1}, {Where: -3}} {
		for bind := range 256 {
			for _, hidden := range []bool{false, true} {
				s.Name, s.Bind, s.Hidden = "f", uint8(bind), hidden
				wantCheck(t, s, 1, mayBe(s, 1))
			}
		}
	}
}

// P10.1: which Bind goes where, hidden and not, written out, so that it does not hang on the tests' own reckoning.
func TestCheckBindsByPlace(t *testing.T) {
	for _, c := range []struct {
		s             api.Symbol
		shown, hidden [4]bool
	}{
		{api.Symbol{Where: 1}, [4]bool{true, true, true, false}, [4]bool{false, true, true, false}},
		{api.Symbol{}, [4]bool{false, true, true, false}, [4]bool{false, true, true, false}},
		{api.Symbol{Where: -1}, [4]bool{true, true, true, false}, [4]bool{false, true, true, false}},
		{api.Symbol{Where: -2, Value: 8, Size: 1}, [4]bool{false, true, false, false}, [4]bool{false, true, false, false}},
		{api.Symbol{Where: -3}, [4]bool{}, [4]bool{}},
	} {
		for bind := range 4 {
			c.s.Name, c.s.Bind, c.s.Hidden = "f", uint8(bind), false
			wantCheck(t, c.s, 1, c.shown[bind])
			c.s.Hidden = true
			wantCheck(t, c.s, 1, c.hidden[bind])
		}
	}
}

// P10.1: every section's number, one more than there are, and other numbers, in objects of every number of sections.
func TestCheckWheres(t *testing.T) {
	for sections := range 17 {
		for _, where := range wheres {
			wantCheck(t, api.Symbol{Name: "f", Where: where}, sections, where == -1 || where >= 1 && where <= sections)
			wantCheck(t, api.Symbol{Name: "f", Bind: 1, Where: where}, sections, where == -1 || where >= 0 && where <= sections)
			wantCheck(t, api.Symbol{Name: "f", Bind: 1, Where: where, Value: 8, Size: 1}, sections, where == -2 || where >= 1 && where <= sections)
			wantCheck(t, api.Symbol{Name: "f", Bind: 2, Where: where, Value: -1}, sections, where == -1)
		}
	}
}

// P10.1: Value and Size at, below and above each end, together and of each place.
func TestCheckValuesAndSizes(t *testing.T) {
	for _, where := range []int{-3, -2, -1, 0, 1, 2, 3} {
		for _, bind := range []uint8{0, 1, 2} {
			for _, value := range numbers {
				for _, size := range numbers {
					s := api.Symbol{Name: "f", Bind: bind, Where: where, Value: value, Size: size}
					wantCheck(t, s, 2, mayBe(s, 2))
				}
			}
		}
	}
}

// P10.1: the same ends, written out, so that they don't hang on the tests' own reckoning.
func TestCheckEnds(t *testing.T) {
	for _, c := range []struct {
		where, value, size int
		may                bool
	}{
		{1, -1, 0, false}, {1, 0, 0, true}, {1, 4096, 0, true}, {1, 4097, 0, false},
		{1, 0, -1, false}, {1, 0, 4096, true}, {1, 0, 4097, false}, {1, 4096, 4096, true},
		{0, -1, 0, false}, {0, 0, 0, true}, {0, 1, 0, false}, {0, 0, -1, false}, {0, 0, 1, false},
		{-1, -2147483649, 0, false}, {-1, -2147483648, 0, true}, {-1, 4294967295, 0, true}, {-1, 4294967296, 0, false},
		{-1, 0, -1, false}, {-1, 0, 1, false}, {-1, 5, 5, false},
		{-2, 1, 0, false}, {-2, 1, 1, true}, {-2, 1, 4096, true}, {-2, 1, 4097, false}, {-2, 1, -1, false},
		{-2, 64, 1, true}, {-2, 64, 4096, true}, {-2, 128, 1, false}, {-2, 0, 1, false}, {-2, -1, 1, false},
	} {
		wantCheck(t, api.Symbol{Name: "f", Bind: 1, Where: c.where, Value: c.value, Size: c.size}, 1, c.may)
	}
}

// P10.1: of Common every Value from below 0 to above 64, and far ones.
func TestCheckValuesOfCommon(t *testing.T) {
	for value := -130; value <= 260; value++ {
		may := value == 1 || value == 2 || value == 4 || value == 8 || value == 16 || value == 32 || value == 64
		wantCheck(t, api.Symbol{Name: "f", Bind: 1, Where: -2, Value: value, Size: 1}, 0, may)
		wantCheck(t, api.Symbol{Name: "f", Bind: 1, Hidden: true, Where: -2, Value: value, Size: 4096}, 16, may)
	}
	for shift := 7; shift < 64; shift++ {
		wantCheck(t, api.Symbol{Name: "f", Bind: 1, Where: -2, Value: 1 << shift, Size: 1}, 0, false)
	}
}

// P10.2: what may be is written at every place of a name; what may not is not, ErrBad being told ahead of ErrArg.
func TestWriteByPlacesOfNames(t *testing.T) {
	for _, s := range samples() {
		for _, name := range places {
			wantWrite(t, s, name, bytesOfSymbol(s, name), api.OK)
		}
		for _, name := range noPlaces {
			wantWrite(t, s, name, nil, api.ErrArg)
			wantWrite(t, nameless(s), name, nil, api.ErrBad)
		}
		wantWrite(t, nameless(s), 0, nil, api.ErrBad)
	}
}

// P10.2: a symbol may be written if it may be in an object of MaxSections, whatever its Where, Value and Size.
func TestWriteOfAllThatMayBe(t *testing.T) {
	for _, where := range wheres {
		for _, value := range numbers {
			for _, size := range []int{-1, 0, 1, 4096, 4097} {
				for bind := range uint8(4) {
					s := api.Symbol{Name: "f", Bind: bind, Where: where, Value: value, Size: size}
					if mayBe(s, 16) {
						wantWrite(t, s, 258, bytesOfSymbol(s, 258), api.OK)
					} else {
						wantWrite(t, s, 258, nil, api.ErrBad)
						wantWrite(t, s, -1, nil, api.ErrBad)
					}
				}
			}
		}
	}
}

// P10.2: each field's bytes, written out, so that they don't hang on the tests' own reckoning.
func TestWriteEachField(t *testing.T) {
	for _, c := range []struct {
		s    api.Symbol
		name int
		want []byte
	}{
		{api.Symbol{Name: "f", Where: 1}, 0, []byte{0, 0, 0, 0, 0, 0, 1, 0, 0, 0, 0, 0, 0, 0, 0, 0, 0, 0, 0, 0, 0, 0, 0, 0}},
		{api.Symbol{Name: "f", Bind: 1}, 65535, []byte{255, 255, 0, 0, 16, 0, 0, 0, 0, 0, 0, 0, 0, 0, 0, 0, 0, 0, 0, 0, 0, 0, 0, 0}},
		{api.Symbol{Name: "f", Bind: 2, Hidden: true}, 256, []byte{0, 1, 0, 0, 32, 2, 0, 0, 0, 0, 0, 0, 0, 0, 0, 0, 0, 0, 0, 0, 0, 0, 0, 0}},
		{api.Symbol{Name: "f", Bind: 1, Hidden: true, Where: 16, Value: 258, Size: 0x304}, 0x5678, []byte{0x78, 0x56, 0, 0, 16, 2, 16, 0, 2, 1, 0, 0, 0, 0, 0, 0, 4, 3, 0, 0, 0, 0, 0, 0}},
		{api.Symbol{Name: "f", Where: 9, Value: 4096, Size: 4096}, 1, []byte{1, 0, 0, 0, 0, 0, 9, 0, 0, 16, 0, 0, 0, 0, 0, 0, 0, 16, 0, 0, 0, 0, 0, 0}},
		{api.Symbol{Name: "f", Where: -1, Value: 0x89abcdef}, 2, []byte{2, 0, 0, 0, 0, 0, 0xf1, 0xff, 0xef, 0xcd, 0xab, 0x89, 0, 0, 0, 0, 0, 0, 0, 0, 0, 0, 0, 0}},
		{api.Symbol{Name: "f", Where: -1, Value: -1 << 31}, 2, []byte{2, 0, 0, 0, 0, 0, 0xf1, 0xff, 0, 0, 0, 128, 255, 255, 255, 255, 0, 0, 0, 0, 0, 0, 0, 0}},
		{api.Symbol{Name: "f", Bind: 1, Where: -2, Value: 64, Size: 7}, 3, []byte{3, 0, 0, 0, 16, 0, 0xf2, 0xff, 64, 0, 0, 0, 0, 0, 0, 0, 7, 0, 0, 0, 0, 0, 0, 0}},
	} {
		wantWrite(t, c.s, c.name, c.want, api.OK)
		wantRead(t, c.want, nameless(c.s), c.name, api.OK)
	}
}

// P10.2: every number of bytes but 24, whatever they are.
func TestReadOfOtherLengths(t *testing.T) {
	wantRead(t, nil, api.Symbol{}, 0, api.ErrText)
	wantRead(t, []byte{}, api.Symbol{}, 0, api.ErrText)
	right := bytesOfSymbol(api.Symbol{Bind: 1}, 7)
	for size := range 100 {
		if size == 24 {
			continue
		}
		wantRead(t, make([]byte, size), api.Symbol{}, 0, api.ErrText)
		wantRead(t, bytes.Repeat([]byte{255}, size), api.Symbol{}, 0, api.ErrText)
		wantRead(t, append(bytes.Clone(right), make([]byte, 100)...)[:size], api.Symbol{}, 0, api.ErrText)
	}
	wantRead(t, make([]byte, 1<<16), api.Symbol{}, 0, api.ErrText)
	wantRead(t, right, api.Symbol{Bind: 1}, 7, api.OK)
	// Spare room is none of the bytes.
	wantRead(t, right[:23], api.Symbol{}, 0, api.ErrText)
	wantRead(t, append(bytes.Clone(right), 1)[:24], api.Symbol{Bind: 1}, 7, api.OK)
}

// P10.2: 24 bytes in which each one alone has each of its values, in noughts, in ones, and in symbols' of each place.
func TestReadOfEachByte(t *testing.T) {
	grounds := [][]byte{make([]byte, 24), bytes.Repeat([]byte{255}, 24)}
	for _, s := range samples() {
		grounds = append(grounds, bytesOfSymbol(s, 258))
	}
	for _, ground := range grounds {
		wantReadRight(t, ground)
		for at := range ground {
			for c := range 256 {
				b := bytes.Clone(ground)
				b[at] = byte(c)
				wantReadRight(t, b)
			}
		}
	}
}

// P10.2: all that the two bytes of Where may be, and all that the two ahead of them may be, in symbols' of each place.
func TestReadOfEachTwoBytes(t *testing.T) {
	for _, s := range []api.Symbol{{Where: 1}, {Bind: 1}, {Bind: 2, Where: -1, Value: -1}, {Bind: 1, Hidden: true, Where: -2, Value: 8, Size: 1}} {
		for _, at := range []int{4, 6} {
			for n := range 1 << 16 {
				b := bytesOfSymbol(s, 65535)
				b[at], b[at+1] = byte(n), byte(n>>8)
				wantReadRight(t, b)
			}
		}
	}
}

// P10.2: places of names that are none's, Values and Sizes beyond their ends, as bytes.
func TestReadOfNumbersBeyondTheirEnds(t *testing.T) {
	for _, s := range samples() {
		for _, name := range []int{65535, 65536, 65537, 1 << 24, 1<<31 - 1, 1 << 31, 1<<32 - 1} {
			b := bytesOfSymbol(s, 0)
			copy(b, bytesOf(name, 4))
			if name == 65535 {
				wantRead(t, b, nameless(s), name, api.OK)
			} else {
				wantRead(t, b, api.Symbol{}, 0, api.ErrBad)
			}
		}
		for _, n := range numbers {
			for _, at := range []int{8, 16} {
				b := bytesOfSymbol(s, 0)
				copy(b[at:], bytesOf(n, 8))
				wantReadRight(t, b)
			}
		}
	}
}

// P10.3: what is handed in, its spare room too, is as it was.
func TestArgumentsAreOnlyRead(t *testing.T) {
	for _, s := range samples() {
		whole := append(bytesOfSymbol(s, 300), bytes.Repeat([]byte{171}, 40)...)
		before := bytes.Clone(whole)
		for size := range len(whole) {
			sym.Read(whole[:size])
		}
		if !bytes.Equal(whole, before) {
			t.Errorf("%+v: the bytes that were handed in have changed", s)
		}
	}
}

// P10.3: no two answers share memory, nor do they with what was read.
func TestAnswersAreNewMemory(t *testing.T) {
	for _, s := range samples() {
		kept, _ := sym.Write(s, 300)
		other, _ := sym.Write(s, 300)
		clear(other[:cap(other)])
		if !bytes.Equal(kept, bytesOfSymbol(s, 300)) {
			t.Errorf("%+v: a change of one answer has changed another", s)
		}
		r, name, e := sym.Read(kept)
		clear(kept[:cap(kept)])
		if r != nameless(s) || name != 300 || e != api.OK {
			t.Errorf("%+v has become %+v, %d, %d", s, r, name, int(e))
		}
		wantWrite(t, s, 300, bytesOfSymbol(s, 300), api.OK)
	}
}

// P10.4: but for the name, a symbol is its bytes, read again, and unlike ones have unlike bytes.
func TestSymbolsAndBack(t *testing.T) {
	type placed struct {
		s    api.Symbol
		name int
	}
	seen := map[string]placed{}
	for _, s := range samples() {
		for _, name := range places {
			b, e := sym.Write(s, name)
			if e != api.OK || len(b) != 24 {
				t.Fatal(s, name, len(b), int(e))
			}
			wantRead(t, b, nameless(s), name, api.OK)
			if first, ok := seen[string(b)]; ok && first != (placed{s, name}) {
				t.Errorf("%+v and %+v, %d have the same bytes", first, s, name)
			}
			seen[string(b)] = placed{s, name}
			other := s
			other.Name = "another!"
			wantWrite(t, other, name, b, api.OK)
		}
	}
}

// P10.4: bytes that are read are written as just these; those that are not may be no symbol's. Two bytes are changed at once.
func TestBytesAndBack(t *testing.T) {
	for _, s := range []api.Symbol{{Where: 16, Value: 300, Size: 4}, {Bind: 1}, {Bind: 2, Hidden: true, Where: -1, Value: -7}, {Bind: 1, Where: -2, Value: 16, Size: 7}} {
		ground := bytesOfSymbol(s, 1000)
		for i := range ground {
			for k := range i {
				for _, c := range []byte{0, 1, 2, 3, 8, 16, 17, 32, 48, 127, 128, 241, 242, 255} {
					for _, d := range []byte{0, 1, 2, 3, 8, 16, 17, 32, 48, 127, 128, 241, 242, 255} {
						b := bytes.Clone(ground)
						b[i], b[k] = c, d
						wantReadRight(t, b)
					}
				}
			}
		}
	}
}

// Every row of the chapter's 'Examples'.
func TestExamples(t *testing.T) {
	wantCheck(t, api.Symbol{Name: "f", Bind: api.BindGlobal, Where: 1, Value: 8}, 1, true)
	wantCheck(t, api.Symbol{Name: "f", Bind: api.BindGlobal, Where: 2, Value: 8}, 1, false)
	wantCheck(t, api.Symbol{Name: "f", Bind: api.BindLocal, Where: api.Undefined}, 3, false)
	wantCheck(t, api.Symbol{Name: "f", Bind: api.BindLocal, Hidden: true, Where: 1}, 3, false)
	b := []byte{7, 0, 0, 0, 32, 2, 241, 255, 255, 255, 255, 255, 255, 255, 255, 255, 0, 0, 0, 0, 0, 0, 0, 0}
	s := api.Symbol{Name: "f", Bind: api.BindWeak, Hidden: true, Where: api.Absolute, Value: -1}
	wantWrite(t, s, 7, b, api.OK)
	wantRead(t, b, nameless(s), 7, api.OK)
	wantRead(t, nil, api.Symbol{}, 0, api.ErrText)
	if api.ErrArg != 2 || api.ErrText != 3 || api.ErrBad != 8 {
		t.Error("the errors' numbers are not the chapter's", int(api.ErrArg), int(api.ErrText), int(api.ErrBad))
	}
	if api.BindLocal != 0 || api.BindGlobal != 1 || api.BindWeak != 2 || api.Undefined != 0 || api.Absolute != -1 || api.Common != -2 {
		t.Error("the binds' and places' numbers are not the chapter's")
	}
}
