package elfr_test

import (
	"bytes"
	"math"
	"slices"
	"strings"
	"testing"

	"quoin/api"
	"quoin/elfr"
	"quoin/elfw"
)

// wantBack holds that o's file is read as o, and that this is written as just these bytes.
func wantBack(t *testing.T, o api.Object) {
	t.Helper()
	b := mustWrite(t, o)
	got, e := elfr.Read(b)
	if e != api.OK || !elfw.Same(got, o) || told(got) != told(o) {
		t.Fatalf("Read of the file of %+v = %+v, %d", o, got, int(e))
	}
	if again := mustWrite(t, got); !bytes.Equal(again, b) {
		t.Fatalf("what is read of the file of %+v has another file", o)
	}
	if again, e := elfr.Read(b); e != api.OK || told(again) != told(got) {
		t.Fatalf("the file of %+v is read as two objects", o)
	}
	if !elfr.Is(b) {
		t.Fatalf("the file of %+v is none", o)
	}
}

// P13.1, P13.3: what is written is read as it was; what is read is written as just these bytes.
func TestRead(t *testing.T) {
	for _, o := range samples() {
		wantBack(t, o)
	}
}

// P13.1: the samples have each thing that there is.
func TestSamples(t *testing.T) {
	seen := map[any]int{}
	type section struct {
		kind  string
		align int
		has   bool
	}
	type symbol struct {
		bind   uint8
		hidden bool
		where  int
	}
	type rela struct {
		kind   uint8
		addend int
	}
	for _, o := range samples() {
		for _, s := range o.Sections {
			kind := "." + strings.Split(s.Name, ".")[1]
			seen[section{kind, s.Align, len(s.Data)+s.Size > 0}]++
		}
		for _, s := range o.Symbols {
			seen[symbol{s.Bind, s.Hidden, min(s.Where, 1)}]++
		}
		for _, r := range o.Relas {
			seen[rela{r.Type, r.Addend}]++
		}
		seen[[2]int{1, len(o.Sections)}]++
		seen[[2]int{2, len(o.Symbols)}]++
		seen[[2]int{3, len(o.Relas)}]++
		seen[[2]int{4, len(o.Groups)}]++
	}
	var want []any
	for _, kind := range kinds() {
		for align := 1; align <= 64; align *= 2 {
			want = append(want, section{kind, align, false}, section{kind, align, true})
		}
	}
	for _, bind := range []uint8{1, 2} {
		for _, hidden := range []bool{false, true} {
			want = append(want, symbol{bind, hidden, 1}, symbol{bind, hidden, 0}, symbol{bind, hidden, -1})
		}
	}
	want = append(want, symbol{0, false, 1}, symbol{0, false, -1}, symbol{1, false, -2}, symbol{1, true, -2})
	for _, kind := range []uint8{1, 2, 16, 17, 18, 23, 26, 27, 28, 33, 34, 35, 36, 37, 38, 39, 40, 44, 45} {
		want = append(want, rela{kind, -1 << 31}, rela{kind, -1}, rela{kind, 0}, rela{kind, 1<<32 - 1})
	}
	want = append(want, rela{24, 0}, rela{25, 0}, rela{51, 0}, rela{43, 0}, rela{43, 2}, rela{43, 62})
	for i, most := range []int{16, 64, 256, 16} {
		want = append(want, [2]int{i + 1, 0}, [2]int{i + 1, 1}, [2]int{i + 1, most})
	}
	for _, w := range want {
		if seen[w] == 0 {
			t.Errorf("no sample has %+v", w)
		}
	}
}

// P13.1: a file of no sections, and its object, byte by byte, so that they do not hang on the tests' own reckoning.
func TestReadOfNoSections(t *testing.T) {
	noughts := func(n int) string { return strings.Repeat("\x00", n) }
	b := "\x7fELF\x02\x01\x01\x00" + noughts(8) + "\x01\x00\xf3\x00" + "\x01\x00\x00\x00" + noughts(16) + "\x78" + noughts(7) + "\x01\x00\x00\x00" + "\x40\x00" + noughts(4) + "\x40\x00" + "\x04\x00\x03\x00" +
		noughts(24) +
		"\x00" +
		"\x00.symtab\x00.strtab\x00.shstrtab\x00" + noughts(4) +
		noughts(64) +
		"\x01\x00\x00\x00\x02\x00\x00\x00" + noughts(16) + "\x40" + noughts(7) + "\x18" + noughts(7) + "\x02\x00\x00\x00\x01\x00\x00\x00" + "\x08" + noughts(7) + "\x18" + noughts(7) +
		"\x09\x00\x00\x00\x03\x00\x00\x00" + noughts(16) + "\x58" + noughts(7) + "\x01" + noughts(7) + noughts(8) + "\x01" + noughts(7) + noughts(8) +
		"\x11\x00\x00\x00\x03\x00\x00\x00" + noughts(16) + "\x59" + noughts(7) + "\x1b" + noughts(7) + noughts(8) + "\x01" + noughts(7) + noughts(8)
	o, e := elfr.Read([]byte(b))
	if e != api.OK || len(o.Sections)+len(o.Symbols)+len(o.Relas)+len(o.Groups) > 0 {
		t.Errorf("%+v, %d", o, int(e))
	}
}

// P13.1: a file with one thing of each kind, by the test's own plan, and each field of its object, written out.
func TestReadOfTheWhole(t *testing.T) {
	b := planOf(whole(), house).file()
	o, e := elfr.Read(b)
	if e != api.OK {
		t.Fatal(int(e))
	}
	want := api.Object{
		Sections: []api.Section{
			{Name: ".text", Align: 4, Data: []byte("\x97\x00\x00\x00\xe7\x80\x00\x00\x01\x00\x13\x00\x00\x00")},
			{Name: ".data.x", Align: 8, Data: []byte("\x01\x02\x03\x04\x05\x06\x07\x08\x09")},
			{Name: ".bss", Align: 16, Size: 100},
			{Name: ".text", Align: 2, Data: []byte("o\x00\x00\x00")},
			{Name: ".rodata", Align: 32},
		},
		Symbols: []api.Symbol{
			{Name: "a", Where: 1}, {Name: "a", Where: 2, Value: 9}, {Name: "main", Bind: 1, Where: 1, Size: 14}, {Name: "w", Bind: 2, Hidden: true, Where: 3, Value: 4, Size: 96},
			{Name: "buf", Bind: 1, Where: -2, Value: 8, Size: 64}, {Name: "f", Bind: 1}, {Name: "k", Bind: 1, Where: -1, Value: -7},
		},
		Relas: []api.Rela{
			{Section: 1, Type: 18, Symbol: 5, Addend: -1}, {Section: 1, Type: 51, Symbol: -1}, {Section: 1, Offset: 8, Type: 43, Symbol: -1, Addend: 6},
			{Section: 2, Type: 35, Symbol: 1, Addend: 4}, {Section: 2, Type: 39}, {Section: 2, Offset: 4, Type: 1, Symbol: 4, Addend: 4294967295}, {Section: 4, Type: 17, Symbol: 2},
		},
		Groups: []api.Group{{Sign: "x", Sections: []int{2, 4}}, {Sign: "y", Sections: []int{3}}},
	}
	if told(o) != told(want) {
		t.Errorf("%+v\nis not\n%+v", o, want)
	}
}

// P13.1: files by the test's own plan are read, so that what is read does not hang on elfw alone.
func TestReadOfPlans(t *testing.T) {
	for _, o := range samples() {
		got, e := elfr.Read(planOf(o, house).file())
		if e != api.OK || told(got) != told(o) {
			t.Fatalf("%+v\nis read as\n%+v, %d", o, got, int(e))
		}
	}
}

// P13.1: files of just MaxFile bytes are read, and no longer ones, though they be as the chapter asks.
func TestReadOfGreatFiles(t *testing.T) {
	seen := map[int]int{}
	for last := range 4097 {
		o := great(last)
		b, e := elfw.Write(o)
		if len(b) < 65520 && e == api.OK {
			continue
		}
		if e == api.OK {
			seen[len(b)]++
			wantBack(t, o)
			continue
		}
		b = planOf(o, house).file()
		seen[len(b)]++
		wantBad(t, "a file that is too long", b)
		if seen[len(b)] == 8 && len(b) > 65600 {
			break
		}
	}
	if seen[65520] == 0 || seen[65528] != 8 || seen[65536] != 8 || seen[65544] != 8 {
		t.Error("the ends were not tried:", seen)
	}
	for _, n := range []int{65535, 65536, 65537, 70000, 1 << 20} {
		wantBad(t, "noughts", make([]byte, n))
		wantBad(t, "a file and noughts", append(mustWrite(t, whole()), make([]byte, n)...))
	}
}

// P13.1: Is looks at four bytes alone.
func TestIs(t *testing.T) {
	for _, c := range []struct {
		b  string
		is bool
	}{
		{"", false}, {"\x7f", false}, {"\x7fE", false}, {"\x7fEL", false}, {"\x7fELF", true}, {"\x7fELFx", true}, {"\x7fELF\x7fELF", true},
		{"ELF\x7f", false}, {"\x00\x7fELF", false}, {" \x7fELF", false}, {"\x7felf", false}, {"!<arch>\n", false}, {"\x7fELG", false}, {"\x7fEMF", false}, {"\xffELF", false},
		{"\x7fELF" + strings.Repeat("\x00", 70000), true}, {strings.Repeat("\x00", 70000), false},
	} {
		if elfr.Is([]byte(c.b)) != c.is {
			t.Errorf("Is(%.20q) = %v", c.b, !c.is)
		}
	}
	if elfr.Is(nil) {
		t.Error("Is(none)")
	}
	for at := range 4 {
		for c := range 256 {
			b := []byte("\x7fELF and more")
			was := b[at]
			b[at] = byte(c)
			if elfr.Is(b) != (byte(c) == was) {
				t.Errorf("Is(%q)", b)
			}
			if elfr.Is(b[:4]) != (byte(c) == was) {
				t.Errorf("Is(%q)", b[:4])
			}
		}
	}
}

// P13.1: Is tells true of the beginnings of files from the fourth byte on, though Read refuses them.
func TestIsOfBeginnings(t *testing.T) {
	b := mustWrite(t, whole())
	for n := range b {
		if elfr.Is(b[:n]) != (n >= 4) {
			t.Errorf("Is of %d bytes", n)
		}
	}
}

// P13.2: bytes are as they were, their spare room too, whether they are a file or not; and what is answered is new memory in every part.
func TestBytesAreOnlyRead(t *testing.T) {
	for _, o := range samples() {
		file := mustWrite(t, o)
		for _, size := range []int{len(file), len(file) - 1, len(file) / 2} {
			room := append(slices.Clone(file), mixed(100)...)
			before := slices.Clone(room)
			b := room[:size]
			got, e := elfr.Read(b)
			elfr.Is(b)
			if !bytes.Equal(room, before) {
				t.Fatalf("Read of %d bytes has changed them", size)
			}
			if e != api.OK {
				continue
			}
			was := told(got)
			all := spansOf(got)
			wantApart(t, append(all, spanOf(room)))
			other, _ := elfr.Read(b)
			wantApart(t, append(all, spansOf(other)...))
			for i := range room {
				room[i] ^= 255
			}
			if told(got) != was {
				t.Fatalf("%+v hangs on bytes that were read", got)
			}
			copy(room, before)
			spoil(other)
			if !bytes.Equal(room, before) || told(got) != was {
				t.Fatalf("a change of what is answered has changed bytes that were read, or what else was answered")
			}
		}
	}
}

// P13.2: what is appended to a list of an answer is in no other list of it.
func TestListsEndWhereTheyEnd(t *testing.T) {
	for _, o := range few() {
		got, e := elfr.Read(mustWrite(t, o))
		if e != api.OK {
			t.Fatal(int(e))
		}
		for _, s := range got.Sections {
			_ = append(s.Data, 255, 255, 255, 255, 255, 255, 255, 255, 255, 255)
		}
		for _, g := range got.Groups {
			_ = append(g.Sections, math.MaxInt, math.MaxInt)
		}
		if told(got) != told(o) {
			t.Errorf("%+v\nhas become\n%+v", o, got)
		}
	}
}

// P13.3: two files are read as the same object just where they are the same bytes; and no file begins another one.
func TestFilesAreApart(t *testing.T) {
	objects := map[string]string{}
	files := map[string]string{}
	var all []string
	try := func(o api.Object) {
		b, e := elfw.Write(o)
		if e != api.OK {
			return
		}
		got, e := elfr.Read(b)
		if e != api.OK {
			t.Fatalf("Read of the file of %+v = %d", o, int(e))
		}
		file, object := string(b), told(got)
		if was, ok := files[object]; ok && was != file {
			t.Fatalf("two files are read as %+v", got)
		}
		if was, ok := objects[file]; ok && was != object {
			t.Fatalf("a file is read as %s and %s", was, object)
		}
		files[object], objects[file] = file, object
		all = append(all, file)
	}
	for _, o := range samples() {
		try(o)
	}
	for _, o := range few() {
		for _, v := range variants(o) {
			try(v)
		}
	}
	if len(files) < 2000 || len(files) != len(objects) {
		t.Errorf("%d objects, %d files", len(files), len(objects))
	}
	// Of texts in their order, one that begins others stands right ahead of one of these.
	slices.Sort(all)
	all = slices.Compact(all)
	for i := 1; i < len(all); i++ {
		if strings.HasPrefix(all[i], all[i-1]) {
			t.Fatalf("a file of %d bytes begins one of %d", len(all[i-1]), len(all[i]))
		}
	}
}

// Every row of the chapter's examples.
func TestExamples(t *testing.T) {
	b := mustWrite(t, api.Object{})
	if o, e := elfr.Read(b); e != api.OK || len(o.Sections) != 0 || !elfw.Same(o, api.Object{}) {
		t.Errorf("Read of the file of no sections = %+v, %d", o, int(e))
	}
	if !elfr.Is(b) {
		t.Error("Is of the file of no sections")
	}
	for _, bad := range [][]byte{nil, {}, append(slices.Clone(b), 0)} {
		if o, e := elfr.Read(bad); e != api.ErrBad || !elfw.Same(o, api.Object{}) {
			t.Errorf("Read of %d bytes = %+v, %d", len(bad), o, int(e))
		}
	}
	if elfr.Is([]byte{127, 69, 76}) {
		t.Error("Is of three bytes")
	}
}
