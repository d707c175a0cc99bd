package ar_test

import (
	"bytes"
	"reflect"
	"slices"
	"strings"
	"testing"

	"quoin/api"
	"quoin/ar"
)

// P14.1, P14.2, P14.4: files are as the tests' own plan; what is written is read as it was, and what is read is written as just these bytes.
func TestSamples(t *testing.T) {
	for _, l := range samples() {
		wantWrite(t, l)
	}
}

// P14.1: a file with each thing that there is, byte by byte, so that it does not hang on the tests' own reckoning.
func TestWriteOfTheWhole(t *testing.T) {
	object := string(everyKind())
	l := []api.Member{
		{Name: "exactly-fifteen", Data: []byte("abc")}, {Name: "exactly--sixteen", Data: []byte(object)}, {Name: "e"}, {Name: "a-name-of-thirty-one-bytes.....", Data: []byte("xy")},
	}
	if len(object) != 808 {
		t.Fatal("the object has", len(object), "bytes")
	}
	rest := "            0           0     0     644     "
	want := "!<arch>\n" +
		"/   " + rest + "46        `\n" +
		"\x00\x00\x00\x07" + strings.Repeat("\x00\x00\x01\x22", 7) + "f\x00w\x00b\x00c\x00h\x00x\x00k\x00" +
		"//  " + rest + "51        `\n" +
		"exactly--sixteen/\na-name-of-thirty-one-bytes...../\n\n" +
		"exactly-fifteen/0           0     0     644     3         `\n" + "abc\n" +
		"/0  " + rest + "808       `\n" + object +
		"e/  " + rest + "0         `\n" +
		"/18 " + rest + "2         `\n" + "xy"
	b, e := ar.Write(l)
	if e != api.OK || string(b) != want {
		t.Errorf("Write = %q, %d\nwant %q", b, int(e), want)
	}
	if got, e := ar.Read([]byte(want)); e != api.OK || told(got) != told(l) {
		t.Errorf("Read = %s, %d", told(got), int(e))
	}
	if at := strings.Index(want, "\n/0  ") + 1; at != 0x122 {
		t.Error("the object's head is at", at)
	}
}

// P14.2: an index, written out: local symbols and those that are not defined are not there; the same name is there for each member that has it, in the members' order and, of one, in the symbols'.
func TestIndex(t *testing.T) {
	l := []api.Member{
		{Name: "text", Data: []byte("no object")}, {Name: "e.o", Data: everyKind()}, {Name: "none.o", Data: noNames()}, {Name: "z.o", Data: defining("z", "f", "a")},
		{Name: "less.o", Data: defining("lost")[1:]}, {Name: "empty"}, {Name: "b.o", Data: defining("b")},
	}
	want := []api.Named{
		{Name: "f", At: 1}, {Name: "w", At: 1}, {Name: "b", At: 1}, {Name: "c", At: 1}, {Name: "h", At: 1}, {Name: "x", At: 1}, {Name: "k", At: 1},
		{Name: "z", At: 3}, {Name: "f", At: 3}, {Name: "a", At: 3}, {Name: "b", At: 6},
	}
	if got, e := ar.Index(l); e != api.OK || !slices.Equal(got, want) {
		t.Errorf("Index = %v, %d", got, int(e))
	}
	for _, l := range [][]api.Member{nil, {}, {{Name: "text", Data: []byte("x")}}, {{Name: "none.o", Data: noNames()}}, {{Name: "empty"}}} {
		if got, e := ar.Index(l); e != api.OK || len(got) > 0 {
			t.Errorf("Index of %s = %v, %d", told(l), got, int(e))
		}
	}
}

// P14.1, P14.2: one member more than there may be is refused, whatever they are; as many as there may be are not.
func TestMany(t *testing.T) {
	var l []api.Member
	for i := range 40 {
		l = append(l, api.Member{Name: "member" + strings.Repeat("x", i/10*8) + string(rune('a' + i))[:1], Data: mixed(i)})
	}
	for n := range 17 {
		wantWrite(t, l[:n])
	}
	for n := 17; n <= len(l); n++ {
		wantError(t, "too many", l[:n], api.ErrMany)
	}
	wantError(t, "too many, without names", make([]api.Member, 17), api.ErrMany)
	wantError(t, "too many of one name", slices.Repeat(l[:1], 17), api.ErrMany)
	wantError(t, "too many, and too long", slices.Repeat([]api.Member{{Name: "x", Data: make([]byte, 70000)}}, 17), api.ErrMany)
	wantError(t, "as many as there may be, without names", make([]api.Member, 16), api.ErrText)
}

// badNames are those that no member may have.
func badNames() []string {
	all := []string{"", "/", "//", "a/", "/a", "a/b", "/0", "a//", strings.Repeat("x", 33), strings.Repeat("x", 34), strings.Repeat("x", 256+8), strings.Repeat("x", 70000), strings.Repeat("x", 31) + "/", strings.Repeat("x", 32) + "/", "a b", " a", "a ", "\u00e9", "a\n", "a\x00"}
	for c := range 256 {
		if c < 33 || c > 126 || c == '/' {
			odd := string([]byte{byte(c)})
			all = append(all, odd, "a"+odd, odd+"a", strings.Repeat("x", 15)+odd, odd+strings.Repeat("x", 31), strings.Repeat("x", 31)+odd, "a"+odd+strings.Repeat("x", 20))
		}
	}
	return all
}

// P14.1, P14.2: names that may not be, alone, first, between and last.
func TestBadNames(t *testing.T) {
	for _, name := range badNames() {
		bad := api.Member{Name: name, Data: []byte("x")}
		for _, l := range [][]api.Member{{bad}, {bad, {Name: "a"}}, {{Name: "b"}, bad, {Name: "c.o", Data: defining("f")}}, {{Name: named(1, 20)}, bad}, {{Name: name}, {Name: name}}} {
			wantError(t, told(l), l, api.ErrText)
		}
	}
}

// P14.1, P14.2: a name that two members have, short or long, beside each other or not, with the same bytes or not.
func TestTwice(t *testing.T) {
	for size := 1; size <= 32; size++ {
		for first := range 16 {
			for second := range first {
				var l []api.Member
				for i := range 16 {
					l = append(l, api.Member{Name: string(rune('a'+i)) + strings.Repeat("x", (i*5)%32), Data: mixed(i % 3)})
				}
				wantWrite(t, l)
				name := named(1, size)
				l[first].Name, l[second].Name = name, name
				wantError(t, told(l), l, api.ErrText)
				wantError(t, told(l), l[:first+1], api.ErrText)
				wantWrite(t, l[:first])
			}
		}
	}
	object := api.Member{Name: "o", Data: defining("f")}
	wantError(t, "an object twice", []api.Member{object, object}, api.ErrText)
}

// filledBy are l, the last one having just so many bytes.
func filledBy(l []api.Member, many int) []api.Member {
	l = slices.Clone(l)
	l[len(l)-1].Data = mixed(many)
	return l
}

// P14.1, P14.2: files of just MaxFile bytes, with an index and without, with long names and without, are written, and no longer ones.
func TestFull(t *testing.T) {
	for _, l := range [][]api.Member{
		{{Name: "x"}},
		{{Name: "a", Data: []byte("odd")}, {Name: "x"}},
		{{Name: "a", Data: []byte("even")}, {Name: named(1, 16)}},
		{{Name: named(2, 32), Data: mixed(1)}, {Name: named(1, 32)}},
		{{Name: "a.o", Data: defining("f")}, {Name: "x"}},
		{{Name: "a.o", Data: defining("ff")}, {Name: named(3, 17), Data: everyKind()}, {Name: named(4, 18)}},
		{{Name: "most.o", Data: mostNames()}, {Name: "more.o", Data: mostNames()}, {Name: "x"}},
	} {
		l = filledBy(l, 0)
		left := 65536 - len(planOf(l).file())
		for _, many := range []int{left - 2, left - 1, left} {
			wantWrite(t, filledBy(l, many))
		}
		if b, _ := ar.Write(filledBy(l, left)); len(b) != 65536 {
			t.Error("the greatest file has", len(b), "bytes")
		}
		if b, _ := ar.Write(filledBy(l, left-1)); len(b) != 65536 {
			t.Error("the greatest file but for one byte has", len(b), "bytes")
		}
		for _, many := range []int{left + 1, left + 2, left + 3, 65536, 1 << 20} {
			long := filledBy(l, many)
			wantError(t, "too long", long, api.ErrFull)
			wantBad(t, "a file that is too long", planOf(long).file())
		}
	}
	var l []api.Member
	for i := range 16 {
		l = append(l, api.Member{Name: string(rune('a' + i)), Data: make([]byte, 1<<20)})
	}
	wantError(t, "all too long", l, api.ErrFull)
	wantError(t, "one too long", l[15:], api.ErrFull)
}

// P14.1: an index fills a file, too: what would have room without it has none with it, nor have long names.
func TestFullByIndex(t *testing.T) {
	var l []api.Member
	for i := range 12 {
		l = append(l, api.Member{Name: string(rune('a' + i)), Data: mostNames()})
	}
	data := 0
	for _, m := range l {
		data += 60 + len(m.Data)
	}
	if file := len(planOf(l).file()); data >= 65536 || file <= 65536 {
		t.Fatal(data, file)
	}
	wantError(t, "an index", l, api.ErrFull)
	wantBad(t, "an index", planOf(l).file())
	one := []api.Member{{Name: named(1, 15), Data: mixed(65468)}}
	wantWrite(t, one)
	one[0].Name = named(1, 16)
	wantError(t, "a long name", one, api.ErrFull)
}

// P14.1, P14.2: what is wrong with names stands ahead of what has no room.
func TestErrorsInOrder(t *testing.T) {
	long := make([]byte, 70000)
	wantError(t, "a wrong name and no room", []api.Member{{Name: "a", Data: long}, {Name: "b/"}}, api.ErrText)
	wantError(t, "a wrong name and no room", []api.Member{{Name: "", Data: long}}, api.ErrText)
	wantError(t, "a name twice and no room", []api.Member{{Name: "a", Data: long}, {Name: "a"}}, api.ErrText)
	wantError(t, "a name twice and a wrong one", []api.Member{{Name: "a"}, {Name: "a"}, {Name: ""}}, api.ErrText)
	wantError(t, "no room alone", []api.Member{{Name: "a", Data: long}, {Name: "b"}}, api.ErrFull)
	l := slices.Repeat([]api.Member{{Name: "a", Data: long}}, 16)
	wantError(t, "a name sixteen times and no room", l, api.ErrText)
	wantError(t, "seventeen of all of these", append(l, api.Member{}), api.ErrMany)
}

// P14.1: Is looks at eight bytes alone.
func TestIs(t *testing.T) {
	for _, c := range []struct {
		b  string
		is bool
	}{
		{"", false}, {"!", false}, {"!<arch>", false}, {"!<arch>\n", true}, {"!<arch>\nx", true}, {"!<arch>\n!<arch>\n", true}, {"!<arch>\n is none", true},
		{"!<arch>\r\n", false}, {"!<thin>\n", false}, {" !<arch>\n", false}, {"\n!<arch>", false}, {"!<ARCH>\n", false}, {"\x7fELF\x02\x01\x01\x00", false}, {"!<arch> ", false},
		{"!<arch>\n" + strings.Repeat("x", 70000), true}, {strings.Repeat("x", 70000), false},
	} {
		if ar.Is([]byte(c.b)) != c.is {
			t.Errorf("Is(%.20q) = %v", c.b, !c.is)
		}
	}
	if ar.Is(nil) {
		t.Error("Is(none)")
	}
	for at := range 8 {
		for c := range 256 {
			b := []byte("!<arch>\n and more")
			was := b[at]
			b[at] = byte(c)
			if is := byte(c) == was; ar.Is(b) != is || ar.Is(b[:8]) != is || ar.Is(b[:8:8]) != is {
				t.Errorf("Is(%q)", b)
			}
			if ar.Is(b[:7]) {
				t.Errorf("Is(%q)", b[:7])
			}
		}
	}
}

// span is where a list's memory is, its spare room too.
type span struct{ from, to uintptr }

// spanOf is that of a list.
func spanOf(list any) span {
	v := reflect.ValueOf(list)
	return span{v.Pointer(), v.Pointer() + uintptr(v.Cap())*v.Type().Elem().Size()}
}

// spansOf are those of all lists of l.
func spansOf(l []api.Member) []span {
	all := []span{spanOf(l)}
	for _, m := range l {
		all = append(all, spanOf(m.Data))
	}
	return all
}

// wantApart holds that no two of all have memory in common.
func wantApart(t *testing.T, all []span) {
	t.Helper()
	for i, a := range all {
		for _, b := range all[:i] {
			if max(a.from, b.from) < min(a.to, b.to) {
				t.Fatalf("lists share memory: %v", all)
			}
		}
	}
}

// roomy is l in new memory with spare room in each list, which has something in it.
func roomy(l []api.Member) []api.Member {
	twin := append(make([]api.Member, 0, len(l)+3), l...)
	for i, m := range twin {
		twin[i].Data = append(slices.Clone(m.Data), mixed(50)...)[:len(m.Data)]
	}
	return append(twin, api.Member{Name: "room", Data: mixed(5)}, api.Member{Name: "more"})[:len(l)]
}

// whole is l with all spare room, as a text.
func whole(l []api.Member) string {
	l = slices.Clone(l[:cap(l)])
	for i, m := range l {
		l[i].Data = m.Data[:cap(m.Data)]
	}
	return told(l)
}

// P14.3: members are as they were, their spare room too, whether they may be or not; what Write and Index answer is new memory.
func TestMembersAreOnlyRead(t *testing.T) {
	all := append(samples(), []api.Member{{Name: "a", Data: mixed(3)}, {Name: "a/"}}, []api.Member{{Name: "a", Data: mixed(70000)}})
	for _, l := range all {
		twin := roomy(l)
		was := whole(twin)
		b, e := ar.Write(twin)
		index, _ := ar.Index(twin)
		if whole(twin) != was {
			t.Fatalf("Write or Index has changed %.300s", was)
		}
		if e != api.OK {
			continue
		}
		other, _ := ar.Write(twin)
		names, _ := ar.Index(twin)
		wantApart(t, append(spansOf(twin), spanOf(b), spanOf(index), spanOf(other), spanOf(names)))
		for i := range b[:cap(b)] {
			b[:cap(b)][i] ^= 255
		}
		clear(index[:cap(index)])
		if whole(twin) != was {
			t.Fatalf("a change of what is answered has changed %.300s", was)
		}
		again, _ := ar.Write(twin)
		if third, _ := ar.Index(twin); !bytes.Equal(other, again) || !slices.Equal(names, third) {
			t.Fatalf("a change of what is answered has changed what else is answered for %.300s", was)
		}
		for i := range twin {
			for j := range twin[i].Data {
				twin[i].Data[j] ^= 255
			}
			twin[i].Name = "other"
		}
		if !bytes.Equal(other, again) {
			t.Fatalf("a change of %.300s has changed what was answered", was)
		}
	}
}

// P14.3: bytes are as they were, their spare room too, whether they are a file or not; and what Read answers is new memory in every part.
func TestBytesAreOnlyRead(t *testing.T) {
	for _, l := range samples() {
		file := planOf(l).file()
		for _, size := range []int{len(file), len(file) - 1, len(file) / 2} {
			room := append(slices.Clone(file), mixed(100)...)
			before := slices.Clone(room)
			b := room[:size]
			got, e := ar.Read(b)
			ar.Is(b)
			if !bytes.Equal(room, before) {
				t.Fatalf("Read of %d bytes has changed them", size)
			}
			if e != api.OK {
				continue
			}
			was := told(got)
			other, _ := ar.Read(b)
			wantApart(t, append(append(spansOf(got), spansOf(other)...), spanOf(room)))
			for i := range room {
				room[i] ^= 255
			}
			if told(got) != was {
				t.Fatalf("%.300s hangs on bytes that were read", was)
			}
			copy(room, before)
			for i, m := range other {
				for j := range m.Data[:cap(m.Data)] {
					m.Data[:cap(m.Data)][j] ^= 255
				}
				other[i] = api.Member{}
			}
			if !bytes.Equal(room, before) || told(got) != was {
				t.Fatalf("a change of what is answered has changed bytes that were read, or what else was answered")
			}
		}
	}
}

// P14.3: what is appended to a list of an answer is in no other list of it.
func TestListsEndWhereTheyEnd(t *testing.T) {
	for _, l := range few() {
		got, e := ar.Read(planOf(l).file())
		if e != api.OK {
			t.Fatal(int(e))
		}
		for _, m := range got {
			_ = append(m.Data, mixed(100)...)
		}
		if told(got) != told(l) {
			t.Errorf("%s\nhas become\n%s", told(l), told(got))
		}
	}
}

// P14.4: two files are read as the same members just where they are the same bytes.
func TestFilesAreApart(t *testing.T) {
	files := map[string]string{}
	members := map[string]string{}
	for _, l := range samples() {
		b, e := ar.Write(l)
		if e != api.OK {
			t.Fatal(int(e))
		}
		is := told(l)
		if was, ok := files[is]; ok && was != string(b) {
			t.Fatalf("two files of %.300s", is)
		}
		if was, ok := members[string(b)]; ok && was != is {
			t.Fatalf("one file of %.300s and of %.300s", is, was)
		}
		files[is], members[string(b)] = string(b), is
	}
	if len(files) < 1000 || len(files) != len(members) {
		t.Errorf("%d lists of members, %d files", len(files), len(members))
	}
}

// Every row of the chapter's examples.
func TestExamples(t *testing.T) {
	for _, none := range [][]api.Member{nil, {}} {
		if b, e := ar.Write(none); e != api.OK || string(b) != "!<arch>\n" {
			t.Errorf("Write(none) = %q, %d", b, int(e))
		}
	}
	b, e := ar.Write([]api.Member{{Name: "a", Data: []byte("xy")}})
	if e != api.OK || len(b) != 70 || string(b[8:11]) != "a/ " {
		t.Errorf("Write(a with the bytes xy) = %q, %d", b, int(e))
	}
	wantError(t, "a/b", []api.Member{{Name: "a/b"}}, api.ErrText)
	wantError(t, "a, a", []api.Member{{Name: "a"}, {Name: "a"}}, api.ErrText)
	wantBad(t, "none", nil)
	wantBad(t, "none", []byte{})
}
