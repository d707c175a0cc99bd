package strtab_test

import (
	"bytes"
	"math"
	"slices"
	"strconv"
	"strings"
	"testing"

	"quoin/api"
	"quoin/strtab"
)

// wantBuild holds Build's answer against a table and places, or an error with nothing beside it.
func wantBuild(t *testing.T, names []string, want string, wantPlaces []int, wantErr api.Errno) {
	t.Helper()
	table, places, e := strtab.Build(names)
	if e != wantErr || string(table) != want || !slices.Equal(places, wantPlaces) {
		t.Errorf("Build(%.200q) = %.200q, %v, %v; want %.200q, %v, %v", names, table, places, e, want, wantPlaces, wantErr)
	}
}

// wantGet holds Get's answer against a name or an error.
func wantGet(t *testing.T, table []byte, at int, want string, wantErr api.Errno) {
	t.Helper()
	name, e := strtab.Get(table, at)
	if e != wantErr || name != want {
		t.Errorf("Get(%.200q, %d) = %q, %v; want %q, %v", table, at, name, e, want, wantErr)
	}
}

// wantCheck holds Check's answer against an error.
func wantCheck(t *testing.T, table []byte, want api.Errno) {
	t.Helper()
	if e := strtab.Check(table); e != want {
		t.Errorf("Check(%d bytes: %.200q) = %v; want %v", len(table), table, e, want)
	}
}

// plainTable is the table of names and their places by the chapter's words, without a map, so that the tests don't lean on what they test.
func plainTable(names []string) (string, []int) {
	table := "\x00"
	var places []int
	for i, name := range names {
		switch before := slices.Index(names[:i], name); {
		case name == "":
			places = append(places, 0)
		case before >= 0:
			places = append(places, places[before])
		default:
			places = append(places, len(table))
			table += name + "\x00"
		}
	}
	return table, places
}

// namesOf are all names of a table, in order: what stands ahead of each 0 but the first one, since the empty name there would be the 1,025th of a table with 1,024.
func namesOf(table []byte) []string {
	all := strings.Split(string(table), "\x00")
	return all[1 : len(all)-1]
}

// numbered are many names of length bytes, each another.
func numbered(many, length int) []string {
	names := make([]string, many)
	for i := range names {
		digits := strconv.Itoa(10000 + i)
		names[i] = strings.Repeat("x", length-len(digits)) + digits
	}
	return names
}

// filling are names whose table has just MaxFile bytes: 1 and 1,008 times 65, and 15 are as many.
func filling() []string {
	return append(numbered(1008, 64), strings.Repeat("y", 14))
}

// wantBuiltOf builds the table of names and holds it, its names and their places against the chapter's words.
func wantBuiltOf(t *testing.T, names []string) {
	t.Helper()
	table, places := plainTable(names)
	wantBuild(t, names, table, places, api.OK)
	wantThereAndBack(t, names)
}

// wantThereAndBack holds P8.3 against a list of names whose table may be.
func wantThereAndBack(t *testing.T, names []string) {
	t.Helper()
	table, places, e := strtab.Build(names)
	if e != api.OK || len(places) != len(names) {
		t.Fatalf("Build(%.200q): %d places, %v", names, len(places), e)
	}
	wantCheck(t, table, api.OK)
	for i, name := range names {
		wantGet(t, table, places[i], name, api.OK)
	}
	all := namesOf(table)
	again, _, e := strtab.Build(all)
	if e != api.OK || !bytes.Equal(again, table) {
		t.Errorf("the table of all names of %.200q is %.200q, %v", table, again, e)
	}
	if len(all) < 1024 {
		again, _, e = strtab.Build(append([]string{""}, all...))
		if e != api.OK || !bytes.Equal(again, table) {
			t.Errorf("the table of all names of %.200q, and the empty one, is %.200q, %v", table, again, e)
		}
	}
}

// P8.1: no names have a table, of one 0.
func TestBuildNone(t *testing.T) {
	wantBuild(t, nil, "\x00", nil, api.OK)
	wantBuild(t, []string{}, "\x00", nil, api.OK)
}

// P8.1: empty names have a place, and no bytes of their own.
func TestBuildEmptyNames(t *testing.T) {
	wantBuild(t, []string{""}, "\x00", []int{0}, api.OK)
	wantBuild(t, []string{"", "", ""}, "\x00", []int{0, 0, 0}, api.OK)
	wantBuild(t, []string{"", "a", "", "b", ""}, "\x00a\x00b\x00", []int{0, 1, 0, 3, 0}, api.OK)
}

// P8.1: a name told twice stands once, where it was told first.
func TestBuildNamesToldTwice(t *testing.T) {
	wantBuild(t, []string{"a", "a"}, "\x00a\x00", []int{1, 1}, api.OK)
	wantBuild(t, []string{"bb", "a", "bb", "c", "a", "bb"}, "\x00bb\x00a\x00c\x00", []int{1, 4, 1, 6, 4, 1}, api.OK)
	wantBuild(t, slices.Repeat([]string{"main"}, 1024), "\x00main\x00", slices.Repeat([]int{1}, 1024), api.OK)
}

// P8.1: names that are other names' ends, or beginnings, stand for themselves: nothing is shared.
func TestBuildNamesThatAreOthersEnds(t *testing.T) {
	wantBuild(t, []string{".rela.text", ".text", "text", "t"}, "\x00.rela.text\x00.text\x00text\x00t\x00", []int{1, 12, 18, 23}, api.OK)
	wantBuild(t, []string{"t", "text", ".text", ".rela.text"}, "\x00t\x00text\x00.text\x00.rela.text\x00", []int{1, 3, 8, 14}, api.OK)
	wantBuild(t, []string{"ab", "abc", "a", "b", "bc"}, "\x00ab\x00abc\x00a\x00b\x00bc\x00", []int{1, 4, 8, 10, 12}, api.OK)
}

// P8.1: names stay in the order in which they are told, and may have every byte but 0.
func TestBuildOrderAndBytes(t *testing.T) {
	wantBuild(t, []string{"z", "a", "m"}, "\x00z\x00a\x00m\x00", []int{1, 3, 5}, api.OK)
	var singles []string
	for c := 255; c > 0; c-- {
		singles = append(singles, string([]byte{byte(c)}))
	}
	wantBuiltOf(t, singles)
	wantBuiltOf(t, []string{"\xff\xfe", "\xff", "é", "e\u0301", "\xc3", " ", "0", "A", "a"})
}

// P8.1: every list of up to five names out of a few that are empty, the same, and each other's parts.
func TestBuildEveryList(t *testing.T) {
	pool := []string{"", "a", "b", "ab", "ba", "aab"}
	lists := [][]string{{}}
	for range 5 {
		var longer [][]string
		for _, list := range lists {
			wantBuiltOf(t, list)
			for _, name := range pool {
				longer = append(longer, append(slices.Clone(list), name))
			}
		}
		lists = longer
	}
	for _, list := range lists {
		wantBuiltOf(t, list)
	}
}

// P8.1: 1,024 names may be, 1,025 not, be they empty, told twice or each another.
func TestBuildHowMany(t *testing.T) {
	for _, names := range [][]string{make([]string, 1025), slices.Repeat([]string{"ab", ""}, 513)[:1025], numbered(1025, 5), slices.Repeat([]string{"ab"}, 1025)} {
		wantBuiltOf(t, names[:1023])
		wantBuiltOf(t, names[:1024])
		wantBuild(t, names, "", nil, api.ErrMany)
		wantBuild(t, slices.Repeat(names, 3), "", nil, api.ErrMany)
	}
}

// P8.1: names of every length up to 64 bytes may be, of 65 and more not, wherever they are told.
func TestBuildHowLong(t *testing.T) {
	for length := range 65 {
		wantBuiltOf(t, []string{"a", strings.Repeat("x", length), "b"})
	}
	for _, length := range []int{65, 66, 128, 255, 256, 320, 65535, 65536, 65537} {
		long := strings.Repeat("x", length)
		wantBuild(t, []string{long}, "", nil, api.ErrText)
		wantBuild(t, []string{long, "a"}, "", nil, api.ErrText)
		wantBuild(t, []string{"a", "", long}, "", nil, api.ErrText)
	}
	// Bytes are counted, not letters.
	wantBuiltOf(t, []string{strings.Repeat("é", 32)})
	wantBuild(t, []string{strings.Repeat("é", 33)}, "", nil, api.ErrText)
}

// P8.1: a 0 at a name's beginning, in it and at its end.
func TestBuildNoughtInNames(t *testing.T) {
	for _, name := range []string{"\x00", "\x00a", "a\x00b", "a\x00", "\x00\x00", strings.Repeat("x", 63) + "\x00", "\x00" + strings.Repeat("x", 63)} {
		wantBuild(t, []string{name}, "", nil, api.ErrText)
		wantBuild(t, []string{name, "a"}, "", nil, api.ErrText)
		wantBuild(t, []string{"a", "a", "", name}, "", nil, api.ErrText)
	}
	for at := range 64 {
		name := bytes.Repeat([]byte{'x'}, 64)
		name[at] = 0
		wantBuild(t, []string{string(name)}, "", nil, api.ErrText)
	}
}

// P8.1: a table of just MaxFile bytes may be, one byte more not; names that take no bytes don't count.
func TestBuildHowGreat(t *testing.T) {
	names := filling()
	table, _, e := strtab.Build(names)
	if e != api.OK || len(table) != api.MaxFile {
		t.Fatal(len(table), e)
	}
	wantBuiltOf(t, names)
	wantBuiltOf(t, append(filling(), "", names[0], names[1008], "", names[500]))
	fewer := filling()
	fewer[1008] = fewer[1008][1:]
	wantBuiltOf(t, fewer)
	more := filling()
	more[1008] += "y"
	wantBuild(t, more, "", nil, api.ErrFull)
	wantBuild(t, append(filling(), "z"), "", nil, api.ErrFull)
	wantBuild(t, append([]string{"z"}, filling()...), "", nil, api.ErrFull)
	wantBuild(t, numbered(1024, 64), "", nil, api.ErrFull)
}

// P8.1: of several errors that are due, the length of the list goes first, then its names, then their table.
func TestBuildErrorsInOrder(t *testing.T) {
	long := strings.Repeat("x", 65)
	great := numbered(1024, 64)
	wantBuild(t, append(slices.Clone(great), "z"), "", nil, api.ErrMany)
	wantBuild(t, slices.Repeat([]string{"\x00"}, 1025), "", nil, api.ErrMany)
	wantBuild(t, slices.Repeat([]string{long}, 1025), "", nil, api.ErrMany)
	wantBuild(t, append(slices.Clone(great), "\x00"), "", nil, api.ErrMany)
	for _, wrong := range []string{"\x00", "a\x00", long} {
		for _, at := range []int{0, 1, 500, 1023} {
			names := slices.Clone(great)
			names[at] = wrong
			wantBuild(t, names, "", nil, api.ErrText)
		}
	}
	wantBuild(t, slices.Repeat([]string{long}, 1024), "", nil, api.ErrText)
}

// P8.1: tables that may be, and such as may not by their first byte or their last one.
func TestCheckEnds(t *testing.T) {
	for _, table := range []string{"\x00", "\x00\x00", "\x00\x00\x00", "\x00a\x00", "\x00a\x00\x00b\x00", "\x00\x01\x00", "\x00" + strings.Repeat("x", 1000) + "\x00"} {
		wantCheck(t, []byte(table), api.OK)
	}
	wantCheck(t, nil, api.ErrBad)
	wantCheck(t, []byte{}, api.ErrBad)
	for c := 1; c < 256; c++ {
		b := byte(c)
		for _, table := range [][]byte{{b}, {0, b}, {b, 0}, {b, b}, {b, 0, 0}, {0, 0, b}, {b, 0, b}, {0, 'a', 0, b}, {b, 'a', 0}} {
			wantCheck(t, table, api.ErrBad)
		}
	}
}

// P8.1: tables of just MaxFile bytes may be, of one more not.
func TestCheckHowGreat(t *testing.T) {
	noughts := make([]byte, 2*65536+1)
	for _, size := range []int{1, 2, 65535, 65536} {
		wantCheck(t, noughts[:size], api.OK)
	}
	for _, size := range []int{65537, 65538, 2 * 65536, 2*65536 + 1} {
		wantCheck(t, noughts[:size], api.ErrBad)
		wantGet(t, noughts[:size], 0, "", api.ErrBad)
	}
	letters := bytes.Repeat([]byte{'x'}, 65537)
	letters[0], letters[65535], letters[65536] = 0, 0, 0
	wantCheck(t, letters[:65536], api.OK)
	wantGet(t, letters[:65536], 1, strings.Repeat("x", 65534), api.OK)
	wantGet(t, letters[:65536], 65535, "", api.OK)
	wantGet(t, letters[:65536], 65536, "", api.ErrBad)
	wantCheck(t, letters, api.ErrBad)
	letters[65535] = 'x'
	wantCheck(t, letters[:65536], api.ErrBad)
}

// P8.1: what stands in a slice's spare room is no byte of the table.
func TestSpareRoom(t *testing.T) {
	whole := []byte("\x00ab\x00c\x00")
	wantCheck(t, whole[:0], api.ErrBad)
	wantCheck(t, whole[:3], api.ErrBad)
	wantGet(t, whole[:3], 1, "", api.ErrBad)
	wantCheck(t, whole[:4], api.OK)
	wantGet(t, whole[:4], 4, "", api.ErrBad)
	wantGet(t, whole[:4], 5, "", api.ErrBad)
}

// P8.1: the name at each place of tables, those that Build did not make among them.
func TestGetEveryPlace(t *testing.T) {
	for _, table := range []string{"\x00", "\x00\x00", "\x00ab\x00c\x00", "\x00\x00\x00abc\x00\x00\xff\x01\x00\x00", "\x00.rela.text\x00main\x00main\x00", "\x00" + strings.Repeat("x", 300) + "\x00"} {
		for at := range len(table) {
			want, _, _ := strings.Cut(table[at:], "\x00")
			wantGet(t, []byte(table), at, want, api.OK)
		}
	}
}

// P8.1: places that are in no table: below 0, at its length, and very great ones.
func TestGetFarPlaces(t *testing.T) {
	for _, table := range []string{"\x00", "\x00\x00", "\x00ab\x00c\x00", string(make([]byte, 65536))} {
		size := len(table)
		for _, at := range []int{math.MinInt, math.MinInt + 1, math.MinInt32, -1 << 32, -size, -2, -1, size, size + 1, 2 * size, 65536, 65537, math.MaxInt32, 1 << 32, 1<<32 + 1, math.MaxInt - 1, math.MaxInt} {
			if at < 0 || at >= size {
				wantGet(t, []byte(table), at, "", api.ErrBad)
			}
		}
	}
}

// P8.1: tables that may not be have a name at no place.
func TestGetOfTablesThatMayNotBe(t *testing.T) {
	for _, table := range [][]byte{nil, {}, {1}, {0, 1}, {1, 0}, []byte("\x00ab"), []byte("ab\x00"), []byte("ab"), make([]byte, 65537)} {
		for _, at := range []int{math.MinInt, -1, 0, 1, 2, 3, 65536, 65537, math.MaxInt} {
			wantGet(t, table, at, "", api.ErrBad)
		}
	}
}

// P8.2: what is handed in, its spare room too, is as it was, whatever is answered.
func TestArgumentsAreOnlyRead(t *testing.T) {
	whole := append(filling(), "", "b", "b", "\x00", strings.Repeat("x", 65))
	before := slices.Clone(whole)
	for _, many := range []int{0, 1, 2, 1009, 1010, 1011, 1012, 1013, 1014} {
		strtab.Build(whole[:many])
	}
	strtab.Build(slices.Repeat(whole, 2))
	if !slices.Equal(whole, before) {
		t.Error("the names that were handed in have changed")
	}
	wholeTable := []byte("\x00ab\x00c\x00de\x00f")
	tableBefore := bytes.Clone(wholeTable)
	for size := range len(wholeTable) + 1 {
		strtab.Check(wholeTable[:size])
		for at := -1; at <= size; at++ {
			strtab.Get(wholeTable[:size], at)
		}
	}
	if !bytes.Equal(wholeTable, tableBefore) {
		t.Error("the table that was handed in has changed")
	}
}

// P8.2: no two answers of Build share memory, nor does one hang on the names.
func TestBuildIsNewMemory(t *testing.T) {
	for _, list := range [][]string{nil, {""}, {"ab", "", "c", "ab"}, filling()} {
		names := slices.Clone(list)
		want, wantPlaces := plainTable(list)
		kept, keptPlaces, _ := strtab.Build(names)
		other, otherPlaces, _ := strtab.Build(names)
		other, otherPlaces = other[:cap(other)], otherPlaces[:cap(otherPlaces)]
		for i := range other {
			other[i] = 'z'
		}
		for i := range otherPlaces {
			otherPlaces[i] = -1
		}
		for i := range names {
			names[i] = "changed"
		}
		if string(kept) != want || !slices.Equal(keptPlaces, wantPlaces) {
			t.Errorf("Build(%.200q): its answer has changed behind it", list)
		}
		wantBuild(t, list, want, wantPlaces, api.OK)
	}
}

// P8.2: a name that Get answered stays, whatever becomes of the table.
func TestGetIsNewMemory(t *testing.T) {
	table := []byte("\x00ab\x00c\x00")
	name, e := strtab.Get(table, 1)
	clear(table)
	if name != "ab" || e != api.OK {
		t.Errorf("the name has become %q, %v", name, e)
	}
	wantGet(t, table, 1, "", api.OK)
}

// P8.3: there and back, of names as files have them, and of as many as may be.
func TestThereAndBack(t *testing.T) {
	for _, names := range [][]string{
		nil, {""}, {"a"}, {"a", "a", ""},
		{".text", ".rela.text", ".data", ".bss", ".symtab", ".strtab", ".shstrtab", ".text.main", ".text"},
		{"text", ".text", ".rela.text", "rela", ""},
		numbered(1024, 5), numbered(1024, 62), slices.Repeat(numbered(512, 64), 2), filling(),
	} {
		wantThereAndBack(t, names)
	}
}

// P8.3: every name of a table that Build made is at its own place there.
func TestNamesOfTablesAreThere(t *testing.T) {
	table, _, e := strtab.Build(filling())
	if e != api.OK {
		t.Fatal(e)
	}
	at := 1
	for _, name := range namesOf(table) {
		wantGet(t, table, at, name, api.OK)
		at += len(name) + 1
	}
	if at != len(table) {
		t.Error(at, len(table))
	}
}

// Every row of the chapter's 'Examples'.
func TestExamples(t *testing.T) {
	that := []byte{0, 97, 98, 0, 99, 0}
	wantBuild(t, []string{"ab", "", "c", "ab"}, string(that), []int{1, 0, 4, 1}, api.OK)
	wantGet(t, that, 2, "b", api.OK)
	wantGet(t, that, 3, "", api.OK)
	wantGet(t, that, 6, "", api.ErrBad)
	wantCheck(t, nil, api.ErrBad)
	wantCheck(t, []byte{0}, api.OK)
	wantCheck(t, []byte{0, 1}, api.ErrBad)
	if api.ErrText != 3 || api.ErrMany != 4 || api.ErrBad != 8 || api.ErrFull != 9 {
		t.Error("the errors' numbers are not the chapter's", int(api.ErrText), int(api.ErrMany), int(api.ErrBad), int(api.ErrFull))
	}
}
