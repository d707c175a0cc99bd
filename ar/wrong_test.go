package ar_test

import (
	"fmt"
	"slices"
	"strings"
	"testing"

	"quoin/api"
	"quoin/ar"
)

// P14.1: a byte 10 behind an odd member fills up, or is its own, as its number tells.
func TestReadOfFill(t *testing.T) {
	for _, c := range []struct{ many, bytes, want string }{{"1", "x\n", "x"}, {"2", "x\n", "x\n"}, {"0", "", ""}, {"1", "\n\n", "\n"}, {"2", "\n\n", "\n\n"}, {"3", "abc\n", "abc"}, {"4", "abc\n", "abc\n"}} {
		q := partOf("a/", c.bytes)
		q.many = c.many
		got, e := ar.Read(plan{"!<arch>\n", []part{q}}.file())
		if e != api.OK || told(got) != told([]api.Member{{Name: "a", Data: []byte(c.want)}}) {
			t.Errorf("%q, of which %s: Read = %s, %d", c.bytes, c.many, told(got), int(e))
		}
	}
}

// P14.1: none, every beginning of a file, and each end of one. A beginning that ends where a member does may be a file itself; the others are refused.
func TestReadOfBeginnings(t *testing.T) {
	t.Parallel()
	wantBad(t, "none", nil)
	wantBad(t, "none", []byte{})
	ok := 0
	for i, l := range few() {
		b := planOf(l).file()
		ends := map[int]int{8: 1}
		at := len(b)
		for _, m := range slices.Backward(l) {
			ends[at]++
			at -= 60 + len(m.Data) + len(m.Data)%2
		}
		for n := range b {
			what := fmt.Sprintf("%d bytes of file %d", n, i)
			if wantRead(t, what, b[:n]) != wantRead(t, what, b[:n:n]) {
				t.Error(what, "are read by what is behind them")
			}
			if ends[n] == 0 {
				wantBad(t, what, b[:n])
			} else if wantRead(t, what, b[:n]) {
				ok++
			}
			if n > 0 {
				wantBad(t, "an end", b[n:])
			}
		}
	}
	// The sign of each file that is more than it, and the first file's first members, and so on.
	if ok < 6 {
		t.Error("no more than", ok, "beginnings are files")
	}
}

// P14.1: a beginning that ends where a member does is a file, if all that stands ahead of the members is as these ask, and none, if it is not.
func TestReadOfFewerMembers(t *testing.T) {
	plain := []api.Member{{Name: "a", Data: []byte("x")}, {Name: "b"}, {Name: "c", Data: []byte("yy")}}
	for n := range plain {
		if !wantRead(t, "fewer members", planOf(plain).file()[:len(planOf(plain[:n]).file())]) {
			t.Error(n, "members are not read")
		}
	}
	long := append(slices.Clone(plain), api.Member{Name: named(1, 16)})
	defines := append(slices.Clone(plain), api.Member{Name: "d", Data: defining("f")})
	for _, l := range [][]api.Member{long, defines} {
		b := planOf(l).file()
		wantBad(t, "fewer members", b[:len(b)-60-len(l[3].Data)])
	}
}

// P14.1: a file and one byte more, or more of them, is refused; so is one with a byte ahead of it.
func TestReadOfMore(t *testing.T) {
	t.Parallel()
	for _, l := range few() {
		b := planOf(l).file()
		for c := range 256 {
			wantBad(t, "a file and a byte", append(slices.Clone(b), byte(c)))
			wantBad(t, "a byte and a file", append([]byte{byte(c)}, b...))
			wantBad(t, "a file with a byte behind the sign", append([]byte("!<arch>\n"+string(rune(c))), b[8:]...))
		}
		for _, n := range []int{2, 59, 60, 61, 128} {
			for _, c := range []string{"\x00", "\n", " ", "0", "/"} {
				wantBad(t, "a file and more", append(slices.Clone(b), strings.Repeat(c, n)...))
			}
		}
		wantBad(t, "a file twice", append(slices.Clone(b), b...))
		wantBad(t, "a file and another one", append(slices.Clone(b), "!<arch>\n"...))
		if len(l) > 0 {
			wantBad(t, "a file and its parts again", append(slices.Clone(b), b[8:]...))
		}
	}
}

// P14.1: each byte of files, turned: it is the file of other members, or none.
func TestReadOfTurnedBytes(t *testing.T) {
	t.Parallel()
	ok, bad := 0, 0
	for i, l := range few() {
		b := planOf(l).file()
		bits := []byte{1, 2, 4, 8, 16, 32, 64, 128, 255}
		for at := range b {
			if at >= 600 {
				bits = []byte{1, 16}
			}
			for _, bit := range bits {
				b[at] ^= bit
				if wantRead(t, fmt.Sprintf("file %d with the byte at %d turned", i, at), b) {
					ok++
				} else {
					bad++
				}
				b[at] ^= bit
			}
		}
	}
	if ok < 500 || bad < 10000 {
		t.Errorf("%d are files, %d are not", ok, bad)
	}
}

// P14.1: every byte in the place of each one of a small file, which has long names and odd members.
func TestReadOfOtherBytes(t *testing.T) {
	t.Parallel()
	b := planOf([]api.Member{{Name: "odd", Data: []byte("xyz")}, {Name: named(2, 16), Data: []byte("x")}}).file()
	for at := range b {
		was := b[at]
		for c := range 256 {
			b[at] = byte(c)
			wantRead(t, fmt.Sprintf("%d at %d", c, at), b)
		}
		b[at] = was
	}
}

// P14.1: the sign, and each byte of each head but for a name's, are as the house writes them; so are the index and what fills up.
func TestReadOfTurnedHeads(t *testing.T) {
	t.Parallel()
	for i, l := range few() {
		p := planOf(l)
		b := p.file()
		// All other bytes, but in long files.
		var others []byte
		for by := 1; by < 256; by++ {
			others = append(others, byte(by))
		}
		if i > 2 {
			others = []byte{1, 2, 9, 16, 128, 246, 254, 255}
		}
		fixed := []int{0, 1, 2, 3, 4, 5, 6, 7}
		odds := map[int]int{}
		at := 8
		for _, q := range p.parts {
			for i := range 60 {
				if i >= 16 || !q.member {
					fixed = append(fixed, at+i)
				}
			}
			size := len(q.bytes(nil))
			if q.index != nil {
				for i := range size {
					fixed = append(fixed, at+60+i)
				}
			}
			if size%2 == 1 {
				fixed = append(fixed, at+60+size)
				odds[at+48+len(fmt.Sprint(size))-1]++
			}
			at += 60 + size + size%2
		}
		for _, at := range fixed {
			was := b[at]
			for _, by := range others {
				b[at] = was + by
				what := fmt.Sprintf("%q with %q at %d", was, b[at], at)
				// What fills up is a byte of the member, if its number is told as one more.
				if wantRead(t, what, b) && (by != 1 || odds[at] == 0) {
					t.Error(what, "is read")
				}
			}
			b[at] = was
		}
	}
}

// house are members whose file has each part: an index of three names of two members, long names, and odd ones.
func house() []api.Member {
	return []api.Member{
		{Name: "a.o", Data: defining("f", "gg")}, {Name: "a-very-long-name-1", Data: []byte("abc")}, {Name: "b", Data: []byte("d")}, {Name: "a-longer-long-name", Data: defining("h")},
		{Name: "every.o", Data: noNames()},
	}
}

// The places of house's parts.
const (
	index = iota
	longs
	objectA
	longOne
	memberB
	longTwo
	noNamesPart
)

// turn is a change of a plan.
type turn struct {
	what string
	do   func(p *plan)
}

// indexTurns are indexes that are right by themselves, but not as they would be written.
func indexTurns() []turn {
	return []turn{
		{"lacks the first name", func(p *plan) { p.parts[index].index = p.parts[index].index[1:] }},
		{"lacks the last name", func(p *plan) { p.parts[index].index = p.parts[index].index[:2] }},
		{"lacks a name between", func(p *plan) { p.parts[index].index = slices.Delete(p.parts[index].index, 1, 2) }},
		{"lacks all names", func(p *plan) { p.parts[index].index = []entry{} }},
		{"lacks", func(p *plan) { p.parts = p.parts[1:] }},
		{"has one that no member defines", func(p *plan) { p.parts[index].index = append(p.parts[index].index, entry{"x", 2}) }},
		{"has a local one", func(p *plan) { p.parts[index].index = append(p.parts[index].index, entry{"l", 4}) }},
		{"has one that is not defined", func(p *plan) { p.parts[index].index = append(p.parts[index].index, entry{"u", 4}) }},
		{"has one twice", func(p *plan) { p.parts[index].index = append(p.parts[index].index, entry{"h", 3}) }},
		{"has one twice at once", func(p *plan) { p.parts[index].index = slices.Insert(p.parts[index].index, 0, entry{"f", 0}) }},
		{"has an empty one", func(p *plan) { p.parts[index].index = append(p.parts[index].index, entry{"", 0}) }},
		{"has another one", func(p *plan) { p.parts[index].index[1].name = "gh" }},
		{"has a longer one", func(p *plan) { p.parts[index].index[1].name = "ggg" }},
		{"has names in another order", func(p *plan) { slices.Reverse(p.parts[index].index) }},
		{"has a member's names in another order", func(p *plan) { slices.Reverse(p.parts[index].index[:2]) }},
		{"has places in another order", func(p *plan) {
			p.parts[index].index[0].member, p.parts[index].index[2].member = 3, 0
		}},
		{"tells another member", func(p *plan) { p.parts[index].index[0].member = 1 }},
		{"tells no member", func(p *plan) { p.parts[index].index[0].member = 9 }},
		{"tells places behind heads", func(p *plan) { p.parts[index].by = 60 }},
		{"tells places of one less", func(p *plan) { p.parts[index].by = -1 }},
		{"tells places behind the sign", func(p *plan) { p.parts[index].by = -8 }},
		{"tells one more", func(p *plan) { p.parts[index].more = 1 }},
		{"tells one less", func(p *plan) { p.parts[index].more = -1 }},
		{"tells more than there are bytes", func(p *plan) { p.parts[index].more = 1 << 31 }},
		{"has a nought more", func(p *plan) { p.parts[index].data = "\x00" }},
		{"has two noughts more", func(p *plan) { p.parts[index].data = "\x00\x00" }},
		{"is no index", func(p *plan) { p.parts[index].index, p.parts[index].data = nil, "" }},
		{"has numbers with the lowest byte first", func(p *plan) {
			b := []byte(p.parts[index].bytes([]int{1, 2, 3, 4, 5}))
			slices.Reverse(b[:4])
			p.parts[index].index, p.parts[index].data = nil, string(b)
		}},
		{"is behind the long names", func(p *plan) { p.parts[index], p.parts[longs] = p.parts[longs], p.parts[index] }},
		{"is behind the members", func(p *plan) { p.parts = append(p.parts[1:], p.parts[0]) }},
		{"is there twice", func(p *plan) { p.parts = slices.Insert(p.parts, 1, p.parts[0]) }},
		{"is there once more behind", func(p *plan) { p.parts = append(p.parts, p.parts[0]) }},
	}
}

// longTurns are long names that are right by themselves, but not as they would be written.
func longTurns() []turn {
	rename := func(first, second string, all string) func(p *plan) {
		return func(p *plan) {
			p.parts[longOne].name, p.parts[longTwo].name, p.parts[longs].data = first, second, all
		}
	}
	const one, two = "a-very-long-name-1/\n", "a-longer-long-name/\n"
	return []turn{
		{"in another order", rename("/20", "/0", two+one)},
		{"with one more behind", rename("/0", "/20", one+two+"of-none-at-all-there/\n")},
		{"with one more ahead", rename("/22", "/42", "of-none-at-all-there/\n"+one+two)},
		{"with one twice", rename("/0", "/40", one+two+two)},
		{"with bytes between", rename("/0", "/21", one+"\n"+two)},
		{"with bytes ahead", rename("/1", "/21", "\n"+one+two)},
		{"with bytes behind", rename("/0", "/20", one+two+"\n")},
		{"by another place", rename("/1", "/20", one+two)},
		{"by one place", rename("/0", "/0", one+two)},
		{"by each other's places", rename("/20", "/0", one+two)},
		{"by the place of an end", rename("/0", "/18", one+two)},
		{"by the place of another end", rename("/0", "/19", one+two)},
		{"by the place behind all", rename("/0", "/40", one+two)},
		{"by a place behind all", rename("/0", "/41", one+two)},
		{"by a place far behind", rename("/0", "/999999999999999", one+two)},
		{"by a place below 0", rename("/0", "/-1", one+two)},
		{"by a place with a sign", rename("/+0", "/20", one+two)},
		{"by a place with another sign", rename("/-0", "/20", one+two)},
		{"by places with noughts ahead", rename("/00", "/020", one+two)},
		{"by a place with a nought ahead", rename("/0", "/020", one+two)},
		{"by a place by eights", rename("/0", "/0x14", one+two)},
		{"by a place with a bar", rename("/0", "/2_0", one+two)},
		{"by a place with a blank ahead", rename("/ 0", "/20", one+two)},
		{"by a place with a / behind", rename("/0/", "/20/", one+two)},
		{"by no place", rename("/", "/20", one+two)},
		{"by no number", rename("/x", "/20", one+two)},
		{"by no place, of two", rename("//", "/20", one+two)},
		{"without a / behind", rename("/0", "/19", strings.ReplaceAll(one+two, "/", ""))},
		{"without a / behind the last", rename("/0", "/20", one+strings.TrimSuffix(two, "/\n")+"\n")},
		{"without ends", rename("/0", "/19", strings.ReplaceAll(one+two, "\n", ""))},
		{"with an end lacking", rename("/0", "/20", one+strings.TrimSuffix(two, "\n"))},
		{"with the end lacking", rename("/0", "/20", one+strings.TrimSuffix(two, "/\n"))},
		{"with noughts as ends", rename("/0", "/20", strings.ReplaceAll(one+two, "\n", "\x00"))},
		{"that are not there", func(p *plan) { p.parts = slices.Delete(p.parts, longs, longs+1) }},
		{"that are empty", func(p *plan) { p.parts[longs].data = "" }},
		{"behind the members", func(p *plan) { p.parts = append(slices.Delete(slices.Clone(p.parts), longs, longs+1), p.parts[longs]) }},
		{"behind the first member", func(p *plan) { p.parts[longs], p.parts[objectA] = p.parts[objectA], p.parts[longs] }},
		{"twice", func(p *plan) { p.parts = slices.Insert(p.parts, longs, p.parts[longs]) }},
		{"and others, not asked for", func(p *plan) { p.parts = slices.Insert(p.parts, longs, partOf("//", "other-names-of-none/\n")) }},
		{"in two parts", func(p *plan) {
			p.parts[longs].data = one
			p.parts = slices.Insert(p.parts, longTwo, partOf("//", strings.Repeat(" ", 20)+two))
		}},
		{"for a short one", func(p *plan) { p.parts[memberB].name, p.parts[longs].data = "/40", one+two+"b/\n" }},
		{"for a short one, in its order", func(p *plan) {
			rename("/0", "/23", one+"b/\n"+two)(p)
			p.parts[memberB].name = "/20"
		}},
		{"for a name of fifteen bytes", func(p *plan) { p.parts[memberB].name, p.parts[longs].data = "/40", one+two+"exactly-fifteen/\n" }},
		{"of which one is shorter", rename("/0", "/3", one+two)},
		{"of which one is in its head", func(p *plan) { rename("sixteen--exactly", "/0", two)(p) }},
		{"that may not be", rename("/0", "/18", "a-very-long name/\n"+two)},
		{"that are too long", rename("/0", "/35", strings.Repeat("x", 33)+"/\n"+two)},
		{"with a / in one", rename("/0", "/20", "a-very-long/name-1/\n"+two)},
		{"of which one is there twice", rename("/0", "/20", two+two)},
	}
}

// headTurns are heads, and parts, that are not as they would be written.
func headTurns() []turn {
	all := []turn{
		{"another sign", func(p *plan) { p.sign = "!<thin>\n" }},
		{"no sign", func(p *plan) { p.sign = "" }},
		{"two signs", func(p *plan) { p.sign += p.sign }},
		{"a member twice", func(p *plan) { p.parts = append(p.parts, p.parts[memberB]) }},
		{"a member twice at once", func(p *plan) { p.parts = slices.Insert(p.parts, memberB, p.parts[memberB]) }},
		{"a member of a name twice", func(p *plan) { p.parts[noNamesPart].name = "b/" }},
		{"a member less, which the index tells of", func(p *plan) { p.parts = slices.Delete(p.parts, objectA, objectA+1) }},
		{"a member less, whose name is long", func(p *plan) { p.parts = slices.Delete(p.parts, longOne, longOne+1) }},
		{"members in another order", func(p *plan) {
			p.parts[objectA], p.parts[longTwo] = p.parts[longTwo], p.parts[objectA]
		}},
		{"objects in another order", func(p *plan) {
			p.parts[objectA].data, p.parts[longTwo].data = p.parts[longTwo].data, p.parts[objectA].data
		}},
		{"an object of another name", func(p *plan) { p.parts[objectA].data = string(defining("g", "gg")) }},
		{"an object with one name more", func(p *plan) { p.parts[objectA].data = string(defining("f", "gg", "i")) }},
		{"an object where there was none", func(p *plan) { p.parts[memberB].data = string(defining("i")) }},
		{"no object where there was one", func(p *plan) { p.parts[objectA].data = "\x7fELF" }},
		{"the fill lacking", func(p *plan) { p.parts[memberB].fill = "none" }},
		{"more fill", func(p *plan) { p.parts[memberB].fill = "\n\n" }},
		{"much more fill", func(p *plan) { p.parts[memberB].fill = "\n\n\n" }},
		{"fill of a nought", func(p *plan) { p.parts[memberB].fill = "\x00" }},
		{"fill of a blank", func(p *plan) { p.parts[memberB].fill = " " }},
		{"fill where there is none", func(p *plan) { p.parts[objectA].fill = "\n" }},
		{"fill of two where there is none", func(p *plan) { p.parts[objectA].fill = "\n\n" }},
		{"the fill lacking at the long names", func(p *plan) { p.parts[longs].data, p.parts[longs].fill = p.parts[longs].data+"\n", "none" }},
	}
	for i := index; i <= noNamesPart; i++ {
		for _, time := range []string{"", "1", "00", "-0", "+0", " 0", "000000000000", "x", "1700000000"} {
			all = append(all, turn{fmt.Sprintf("the time %q at %d", time, i), func(p *plan) { p.parts[i].time = time }})
		}
		for _, owner := range []string{"", "1", "00", " 0", "000000", "1000"} {
			all = append(all, turn{fmt.Sprintf("the owner %q at %d", owner, i), func(p *plan) { p.parts[i].owner = owner }})
			all = append(all, turn{fmt.Sprintf("the group %q at %d", owner, i), func(p *plan) { p.parts[i].group = owner }})
		}
		for _, mode := range []string{"", "0", "0644", "100644", "00000644", " 644", "600", "755"} {
			all = append(all, turn{fmt.Sprintf("the mode %q at %d", mode, i), func(p *plan) { p.parts[i].mode = mode }})
		}
		for _, ends := range []string{"\n`", "``", "\n\n", "  ", "\x00\x00", "`\r"} {
			all = append(all, turn{fmt.Sprintf("the end %q at %d", ends, i), func(p *plan) { p.parts[i].ends = ends }})
		}
		all = append(all, manyTurns(i)...)
	}
	return all
}

// manyTurns are of the number of the bytes of the part at i.
func manyTurns(i int) []turn {
	var all []turn
	for _, form := range []string{"0%d", "00%d", "+%d", " %d", "%d.", "%d\x00", "\t%d", "0x%x", "0o%o", "-%d", "%d0", "1%d", "%d_", "_%d", "%d 0", "%d\n", "%010d", "%x."} {
		all = append(all, turn{fmt.Sprintf("so many bytes by %q at %d", form, i), func(p *plan) { p.parts[i].many = fmt.Sprintf(form, len(p.parts[i].bytes(nil))) }})
	}
	for _, many := range []string{"          ", "-1", "-60", "-2", "x", "9999999999", "4294967296", "2147483648", "65536", "99999", "-999999999", "0"} {
		all = append(all, turn{fmt.Sprintf("so many bytes: %s at %d", many, i), func(p *plan) { p.parts[i].many = many }})
	}
	for _, by := range []int{-2, -1, 1, 2, 60} {
		// What fills up an odd member is a byte of it, then.
		if i == longOne && by == 1 || i == memberB && by == 1 {
			continue
		}
		all = append(all, turn{fmt.Sprintf("so many bytes: %d more at %d", by, i), func(p *plan) { p.parts[i].many = fmt.Sprint(len(p.parts[i].bytes(nil)) + by) }})
	}
	return all
}

// P14.1: files whose parts are right by themselves, but that are not as they would be written, and others that are wrong.
func TestReadOfTurnedParts(t *testing.T) {
	right := string(planOf(house()).file())
	if !wantRead(t, "the house", []byte(right)) {
		t.Fatal("the house is not read")
	}
	for _, turn := range slices.Concat(indexTurns(), longTurns(), headTurns()) {
		p := planOf(house())
		turn.do(&p)
		b := p.file()
		if string(b) == right {
			t.Fatalf("%s: it is the house still", turn.what)
		}
		wantRead(t, turn.what, b)
		wantBad(t, turn.what, b)
	}
}

// P14.1: an index where there would be none, and long names where there would be none.
func TestReadOfPartsNotAskedFor(t *testing.T) {
	for _, l := range [][]api.Member{nil, {{Name: "a"}}, {{Name: "b", Data: []byte("odd")}, {Name: "none.o", Data: noNames()}}} {
		for _, q := range []part{partOf("/", "\x00\x00\x00\x00"), partOf("/", ""), partOf("//", ""), partOf("//", "of-none-at-all-there/\n"), partOf("/0", ""), partOf("", ""), partOf("/SYM64/", "\x00\x00\x00\x00\x00\x00\x00\x00"), partOf("__.SYMDEF", "")} {
			p := planOf(l)
			for at := range len(p.parts) + 1 {
				twin := plan{p.sign, slices.Insert(slices.Clone(p.parts), at, q)}
				wantRead(t, q.name, twin.file())
				wantBad(t, q.name, twin.file())
			}
		}
	}
}

// P14.1: files of members that may not be, as they would be written if they might.
func TestReadOfBadMembers(t *testing.T) {
	for _, name := range badNames() {
		for _, l := range [][]api.Member{{{Name: name}}, {{Name: "a.o", Data: defining("f")}, {Name: name, Data: []byte("x")}, {Name: "b"}}} {
			wantRead(t, told(l), planOf(l).file())
			wantBad(t, told(l), planOf(l).file())
		}
	}
	for _, head := range []string{"", "a", "a b/", " a/", "a/b/", "a//", "/a/", "a/ /", "exactly-fifteen", "exactly--sixteen", "a/\x00", "\x00/", "\xff/"} {
		p := plan{"!<arch>\n", []part{partOf(head, "x")}}
		wantRead(t, head, p.file())
		wantBad(t, head, p.file())
	}
	var many []api.Member
	for i := range 17 {
		many = append(many, api.Member{Name: string(rune('a' + i))})
	}
	wantBad(t, "seventeen members", planOf(many).file())
	if !wantRead(t, "sixteen members", planOf(many[:16]).file()) {
		t.Error("sixteen members are not read")
	}
	for i := range 1000 {
		many = append(many, api.Member{Name: fmt.Sprint(i)})
	}
	wantBad(t, "as many members as a file has room for", planOf(many).file())
}

// P14.1: what is no archive behind the sign, and bytes that are none of a file.
func TestReadOfOthers(t *testing.T) {
	for _, b := range []string{"\n", "x", "!<arch>", "!<arch>\nx", "!<arch>\n\n", "!<arch>\n!<arch>\n", "!<arch>\n" + strings.Repeat(" ", 60), "!<arch>\n" + strings.Repeat("/", 60), "!<arch>\n" + strings.Repeat("0", 60), "!<arch>\n" + strings.Repeat("\x00", 60), "!<thin>\n", "!<ARCH>\n", "!<arch> "} {
		wantBad(t, b, []byte(b))
	}
	for _, n := range []int{65535, 65536, 65537, 70000, 1 << 20} {
		for _, c := range []string{" ", "0", "/", "\x00", "\n"} {
			wantBad(t, "many bytes", []byte("!<arch>\n"+strings.Repeat(c, n)))
		}
	}
	d := dice(7)
	for range 3000 {
		b := []byte("!<arch>\n")
		for range d.below(300) {
			b = append(b, " /01`\nax"[d.below(8)])
		}
		wantRead(t, "by chance", b)
	}
	if b, e := ar.Read([]byte("!<arch>\n")); e != api.OK || len(b) > 0 {
		t.Error("Read of the sign =", b, e)
	}
}

// P14.1, P14.4: bytes of members, of their names and of long names, turned to others that may be, are read as these.
func TestReadOfTurnedMembers(t *testing.T) {
	l := []api.Member{{Name: "ab", Data: []byte("xyz")}, {Name: "exactly-fifteen"}, {Name: "exactly--sixteen", Data: []byte{0, 255}}, {Name: named(1, 32)}}
	for i, m := range l {
		for at := range m.Data {
			for c := range 256 {
				twin := slices.Clone(l)
				twin[i].Data = slices.Clone(m.Data)
				twin[i].Data[at] = byte(c)
				if !wantRead(t, "other bytes", planOf(twin).file()) {
					t.Errorf("bytes %q are not read", twin[i].Data)
				}
			}
		}
		for at := range len(m.Name) {
			for c := byte(33); c < 127; c++ {
				twin := slices.Clone(l)
				twin[i].Name = m.Name[:at] + string([]byte{c}) + m.Name[at+1:]
				if wantRead(t, "another name", planOf(twin).file()) != (c != '/') {
					t.Errorf("the name %q is read, or not", twin[i].Name)
				}
			}
		}
	}
}
