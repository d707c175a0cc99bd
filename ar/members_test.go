package ar_test

import (
	"fmt"
	"slices"
	"strings"

	"quoin/api"
	"quoin/elfw"
)

// mixed are n bytes no two of which beside each other are alike.
func mixed(n int) []byte {
	b := make([]byte, n)
	for i := range b {
		b[i] = byte(i*167 + 131)
	}
	return b
}

// named is a name of just so many bytes, another one for each n below ten.
func named(n, size int) string {
	return strings.Repeat("m", size-1) + fmt.Sprint(n)
}

// fileOf is that of an object, which there has to be.
func fileOf(o api.Object) []byte {
	b, e := elfw.Write(o)
	if e != api.OK {
		panic(fmt.Sprintf("Write(%+v) = %d", o, int(e)))
	}
	return b
}

// bound is a symbol of an absolute place.
func bound(name string, bind uint8) api.Symbol {
	return api.Symbol{Name: name, Bind: bind, Where: api.Absolute}
}

// ofSymbols is the file of an object of two sections and these symbols.
func ofSymbols(symbols ...api.Symbol) []byte {
	return fileOf(api.Object{
		Sections: []api.Section{{Name: ".text", Align: 2, Data: []byte{1, 0}}, {Name: ".bss", Align: 8, Size: 16}},
		Symbols:  symbols,
	})
}

// everyKind is an object's file that has symbols of each kind. It defines f, w, b, c, h, x and k.
func everyKind() []byte {
	return ofSymbols(
		api.Symbol{Name: "l", Where: 1}, bound("m", api.BindLocal),
		api.Symbol{Name: "f", Bind: api.BindGlobal, Where: 1, Size: 2}, api.Symbol{Name: "u", Bind: api.BindGlobal}, api.Symbol{Name: "w", Bind: api.BindWeak, Where: 1, Value: 2},
		api.Symbol{Name: "b", Bind: api.BindGlobal, Where: 2, Value: 8, Size: 8}, api.Symbol{Name: "v", Bind: api.BindWeak}, api.Symbol{Name: "c", Bind: api.BindGlobal, Where: api.Common, Value: 8, Size: 24},
		api.Symbol{Name: "h", Bind: api.BindGlobal, Hidden: true, Where: 1}, bound("x", api.BindWeak), bound("k", api.BindGlobal),
	)
}

// noNames is an object's file that defines nothing for others, though it has symbols.
func noNames() []byte {
	return ofSymbols(bound("l", api.BindLocal), api.Symbol{Name: "u", Bind: api.BindGlobal}, api.Symbol{Name: "v", Bind: api.BindWeak})
}

// mostNames is an object's file that defines as many names as there may be, as long as they may be.
func mostNames() []byte {
	var o api.Object
	for i := range api.MaxSymbols {
		o.Symbols = append(o.Symbols, bound(fmt.Sprintf("%032d", i), api.BindGlobal+uint8(i%2)))
	}
	return fileOf(o)
}

// defining is an object's file that defines just these.
func defining(all ...string) []byte {
	var o api.Object
	for _, name := range all {
		o.Symbols = append(o.Symbols, bound(name, api.BindGlobal))
	}
	return fileOf(o)
}

// ofSizes are members of each size of names and bytes that has an edge, alone and two by two.
func ofSizes() [][]api.Member {
	var all [][]api.Member
	sizes := []int{1, 2, 14, 15, 16, 17, 31, 32}
	for _, size := range sizes {
		for _, many := range []int{0, 1, 2, 3, 9, 10, 59, 60, 61, 99, 100, 9999, 10000} {
			one := api.Member{Name: named(1, size), Data: mixed(many)}
			all = append(all, []api.Member{one})
			for _, other := range sizes {
				all = append(all, []api.Member{one, {Name: named(2, other), Data: mixed(many % 7)}})
			}
		}
	}
	return all
}

// ofNames are members whose names are odd, but may be.
func ofNames() [][]api.Member {
	var all [][]api.Member
	for c := byte(33); c <= 126; c++ {
		if c != '/' {
			name := string([]byte{c})
			all = append(all, []api.Member{{Name: name}}, []api.Member{{Name: strings.Repeat(name, 15), Data: []byte(name)}, {Name: strings.Repeat(name, 16)}, {Name: strings.Repeat(name, 32), Data: mixed(2)}})
		}
	}
	for _, name := range []string{"!<arch>", "`", "0", "644", "\\", "__.SYMDEF", "a.o", ".", "..", "-1", "#1"} {
		all = append(all, []api.Member{{Name: name, Data: []byte(name)}})
	}
	// Names that begin or end others, long and short.
	return append(all,
		[]api.Member{{Name: "a"}, {Name: "aa"}, {Name: "aaa"}, {Name: "aaaaaaaaaaaaaaa"}, {Name: "aaaaaaaaaaaaaaaa"}, {Name: "aaaaaaaaaaaaaaaaa"}},
		[]api.Member{{Name: "aaaaaaaaaaaaaaaaa"}, {Name: "aaaaaaaaaaaaaaaa"}, {Name: "aaaaaaaaaaaaaaa"}, {Name: "A"}, {Name: "a"}},
		[]api.Member{{Name: "xx" + named(1, 16)}, {Name: named(1, 16)}, {Name: "x" + named(1, 16)}},
	)
}

// ofLongs are sixteen members each of which may have a long name, in each of some sets.
func ofLongs() [][]api.Member {
	var all [][]api.Member
	for _, set := range []int{0, 1, 2, 3, 1 << 15, 1<<15 + 1, 0x5555, 0xaaaa, 0xff00, 0xfffe, 0xffff} {
		var l []api.Member
		for i := range 16 {
			name := fmt.Sprintf("%c%0*d.o", 'a'+i, 1+i%9, i)
			if set>>i&1 == 1 {
				name = fmt.Sprintf("%s-%0*d", name, 16+(i*7)%(16-len(name)), i)
			}
			l = append(l, api.Member{Name: name, Data: mixed(i * 3)})
		}
		all = append(all, l)
	}
	return all
}

// ofObjects are members some of which are objects' files.
func ofObjects() [][]api.Member {
	none := fileOf(api.Object{})
	all := [][]api.Member{
		{{Name: "none.o", Data: none}},
		{{Name: "none.o", Data: noNames()}, {Name: "text", Data: []byte("x")}},
		{{Name: "every.o", Data: everyKind()}},
		{{Name: "every.o", Data: everyKind()}, {Name: "again.o", Data: everyKind()}, {Name: "and-once-more-again.o", Data: everyKind()}},
		{{Name: "text", Data: []byte("x")}, {Name: "a.o", Data: defining("f", "g")}, {Name: "none", Data: noNames()}, {Name: "b.o", Data: defining("g", "f", "h")}, {Name: "empty"}},
		{{Name: named(1, 16), Data: defining("f")}, {Name: "short", Data: defining("g")}},
		{{Name: "short", Data: defining("f")}, {Name: named(1, 32), Data: defining("gg")}, {Name: named(2, 31), Data: mixed(3)}},
		{{Name: "most.o", Data: mostNames()}, {Name: "most-of-all-names.o", Data: mostNames()}},
		// An object's file that lacks a byte, or has one more, is none; and so is what begins as one.
		{{Name: "less", Data: defining("f")[:len(defining("f"))-1]}, {Name: "more", Data: append(defining("f"), 0)}, {Name: "sign", Data: []byte("\x7fELF")}},
		{{Name: "less", Data: defining("f")[1:]}, {Name: "right", Data: defining("f")}},
		// An archive may be in an archive; what it defines, it defines for no one.
		{{Name: "in.a", Data: planOf([]api.Member{{Name: "a.o", Data: defining("f")}}).file()}, {Name: "none.a", Data: []byte("!<arch>\n")}},
	}
	var most []api.Member
	for i := range 16 {
		most = append(most, api.Member{Name: strings.Repeat(string(rune('a'+i)), 2*i+1), Data: defining("same", fmt.Sprint("own", i))})
	}
	return append(all, most)
}

// dice tell numbers that hang on where they begin alone.
type dice uint64

// below is a number from 0 to one less than n.
func (d *dice) below(n int) int {
	*d = *d*6364136223846793005 + 1442695040888963407
	return int(uint64(*d)>>33) % n
}

// made are members that may be, others for each seed.
func made(seed int) []api.Member {
	d := dice(seed)
	var l []api.Member
	for i := range d.below(17) {
		name := fmt.Sprintf("%c%s", 'a'+i, strings.Repeat("x", d.below(32)))
		var data []byte
		switch d.below(4) {
		case 0:
			data = mixed(d.below(40))
		case 1:
			var o api.Object
			for n := range d.below(6) {
				where := api.Absolute
				if d.below(3) == 0 {
					where = api.Undefined
				}
				o.Symbols = append(o.Symbols, api.Symbol{Name: fmt.Sprint(strings.Repeat("s", d.below(20)), n), Bind: 1 + uint8(d.below(2)), Where: where})
			}
			data = fileOf(o)
		case 2:
			data = everyKind()[:200+d.below(300)]
		}
		l = append(l, api.Member{Name: name, Data: data})
	}
	return l
}

// samples are members that may be, whose file may, too.
func samples() [][]api.Member {
	all := slices.Concat([][]api.Member{nil, {}}, ofSizes(), ofNames(), ofLongs(), ofObjects())
	for seed := range 200 {
		all = append(all, made(seed))
	}
	return all
}

// few are some of the samples, with parts of each kind.
func few() [][]api.Member {
	return [][]api.Member{
		nil,
		{{Name: "a", Data: []byte("xy")}},
		{{Name: "odd", Data: []byte("xyz")}, {Name: named(1, 15)}, {Name: named(2, 16), Data: []byte("x")}, {Name: named(3, 32), Data: []byte("!<arch>\nxy")}},
		{{Name: "a.o", Data: defining("f")}},
		{{Name: named(1, 17), Data: defining("ff")}, {Name: "text", Data: []byte("odd")}, {Name: "b.o", Data: everyKind()}, {Name: named(2, 20), Data: defining("f")}},
		{{Name: "none.o", Data: noNames()}, {Name: "last", Data: []byte("z")}},
	}
}
