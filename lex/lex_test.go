package lex_test

import (
	"slices"
	"strconv"
	"strings"
	"testing"

	"quoin/api"
	"quoin/lex"
)

// Bytes of the tests: letters, digits, and those with which a name may begin and go on.
const (
	letters = "ABCDEFGHIJKLMNOPQRSTUVWXYZabcdefghijklmnopqrstuvwxyz"
	digits  = "0123456789"
	begins  = letters + "_.$%"
	goesOn  = letters + digits + "_.$"
)

// has tells whether c is one of l.
func has(l string, c byte) bool { return strings.Contains(l, string([]byte{c})) }

// P15.1: every row of the chapter's 'Examples'.
func TestExamples(t *testing.T) {
	wantTokens(t, "a: li t0, -0x10 # x", word("a"), mark(":"), word("li"), word("t0"), mark(","), mark("-"), number(16))
	wantTokens(t, "j 1f", word("j"), word("1f"))
	wantTokens(t, `.ascii "a\n"`, word(".ascii"), text("a\n"))
	wantTokens(t, "0xffffffffffffffff", number(-1))
	for _, line := range []string{"12a", "1fx", "0x", `"a`, "a@b"} {
		wantRefused(t, line, api.ErrToken)
	}
}

// P15.1: lines without a token.
func TestNone(t *testing.T) {
	for _, line := range []string{"", " ", "\t", "  \t \t", strings.Repeat(" ", 256), strings.Repeat("\t", 256), "#", "# a remark", " \t# \x00\xff\n \"", "##", "#" + strings.Repeat("x", 255), strings.Repeat(" ", 255) + "#"} {
		wantTokens(t, line)
	}
}

// P15.1: a remark ends a line wherever it begins, but within a text, and whatever it has.
func TestRemarks(t *testing.T) {
	for c := range 256 {
		odd := string([]byte{byte(c)})
		wantTokens(t, "#"+odd)
		wantTokens(t, "a #"+odd+"b", word("a"))
		wantTokens(t, "1#"+odd+odd, number(1))
		wantTokens(t, "1f#"+odd, word("1f"))
		wantTokens(t, `"x"#`+odd, text("x"))
		wantTokens(t, ":#"+odd, mark(":"))
	}
	wantTokens(t, `"#" # "`, text("#"))
	wantTokens(t, `"a # b" c`, text("a # b"), word("c"))
	wantTokens(t, `a # "b`, word("a"))
	wantTokens(t, "0xa#f", number(10))
}

// P15.1: blanks and tabs stand ahead of, between and behind tokens, or do not.
func TestBlanks(t *testing.T) {
	l := []api.Token{word("a"), mark(":"), number(7), text(" \t"), word("1b"), mark("-"), word("%hi"), mark("("), number(-1)}
	for _, gap := range []string{" ", "\t", "  ", "\t ", " \t\t "} {
		parts := []string{"", "a", ":", "7", `" \t"`, "1b", "-", "%hi", "(", "0xffffffffffffffff", ""}
		wantTokens(t, strings.Join(parts, gap), l...)
	}
	wantTokens(t, `a:7" \t"1b-%hi(0xffffffffffffffff`, l...)
	// No other byte is left out.
	for c := range 256 {
		if odd := byte(c); odd != ' ' && odd != '\t' && odd != '#' && !has(goesOn+`%,()+-:"`, odd) {
			wantRefused(t, "a"+string([]byte{odd})+"b", api.ErrToken)
			wantRefused(t, string([]byte{odd}), api.ErrToken)
			wantRefused(t, "a, "+string([]byte{odd}), api.ErrToken)
		}
	}
}

// P15.1: lines of as many bytes as may be, and of more, whatever they are.
func TestLong(t *testing.T) {
	for _, part := range []string{" ", "\t", "#", "a ", "1 ", `"x"`, ", ", "\x80", "@", "a", "1", `"`} {
		for size := range 300 {
			line := strings.Repeat(part, size)[:size]
			want(t, line)
			if size > 256 {
				wantRefused(t, line, api.ErrText)
			}
		}
		for _, size := range []int{1 << 12, 65536, 65536 + 256, 1 << 20} {
			wantRefused(t, strings.Repeat(part, size), api.ErrText)
		}
	}
	wantTokens(t, strings.Repeat(" ", 255)+"a", word("a"))
	wantRefused(t, strings.Repeat(" ", 256)+"a", api.ErrText)
	wantRefused(t, "a"+strings.Repeat(" ", 256), api.ErrText)
	wantTokens(t, `"`+strings.Repeat("x", 254)+`"`, text(strings.Repeat("x", 254)))
	wantTokens(t, `"`+strings.Repeat(`\n`, 127)+`"`, text(strings.Repeat("\n", 127)))
	wantRefused(t, `"`+strings.Repeat("x", 255)+`"`, api.ErrText)
}

// P15.1: as many tokens as may be, and one more; a place at which none stands is told ahead of that.
func TestMany(t *testing.T) {
	for _, part := range []string{"a ", "1 ", ", ", ",", "1f ", `""`, `"" `, "0\t", "%", "x:", "-1 "} {
		each, _ := planOf(part)
		for n := range 254 / len(part) {
			line := strings.Repeat(part, n)
			want(t, line)
			if many := n * len(each); many <= 64 {
				wantTokens(t, line, slices.Repeat(each, n)...)
			} else {
				wantRefused(t, line, api.ErrMany)
				wantRefused(t, line+"#@", api.ErrMany)
			}
			for _, bad := range []string{"@", `"`, "1a", "\x80", "0x", "\n"} {
				if len(line+" "+bad) <= 256 {
					wantRefused(t, line+" "+bad, api.ErrToken)
				}
			}
		}
	}
	wantRefused(t, strings.Repeat(",", 64)+"a", api.ErrMany)
	wantRefused(t, strings.Repeat(",", 64)+"@", api.ErrToken)
	wantRefused(t, strings.Repeat(",", 65)+"@", api.ErrToken)
	wantRefused(t, strings.Repeat(",", 255)+"@", api.ErrToken)
	wantRefused(t, strings.Repeat(",", 256)+"@", api.ErrText)
	wantRefused(t, strings.Repeat(",", 257), api.ErrText)
	wantRefused(t, "@"+strings.Repeat(",", 256), api.ErrText)
}

// P15.1: names of each length, with each byte first, behind it, and last.
func TestNames(t *testing.T) {
	for size := 1; size <= 256; size++ {
		for _, c := range []string{"a", "Z", "_", ".", "$"} {
			name := strings.Repeat(c, size)
			if size <= 32 {
				wantTokens(t, name, word(name))
				wantTokens(t, name+" "+name, word(name), word(name))
				wantTokens(t, name+"%", word(name), word("%"))
			} else {
				wantRefused(t, name, api.ErrToken)
				wantRefused(t, name[:min(size, 200)]+" a", api.ErrToken)
				wantRefused(t, "a, "+name[:min(size, 200)], api.ErrToken)
			}
		}
	}
	for c := range 256 {
		odd := string([]byte{byte(c)})
		for _, rest := range []string{"", "x", "0", ".", strings.Repeat("y", 31)} {
			want(t, odd+rest)
			if has(begins, byte(c)) {
				wantTokens(t, odd+rest, word(odd+rest))
				wantRefused(t, odd+strings.Repeat("y", 32), api.ErrToken)
			}
		}
		for _, ahead := range []string{"a", "Z", "_", ".", "$", "%", "%hi", strings.Repeat("n", 31)} {
			want(t, ahead+odd)
			want(t, ahead+odd+"z")
			if has(goesOn, byte(c)) {
				wantTokens(t, ahead+odd, word(ahead+odd))
			}
		}
	}
	wantTokens(t, "%%a%", word("%"), word("%a"), word("%"))
	wantTokens(t, "a%b", word("a"), word("%b"))
	wantTokens(t, `a"b"c`, word("a"), text("b"), word("c"))
	wantTokens(t, "lw a0,%lo(x+4)(a1)", word("lw"), word("a0"), mark(","), word("%lo"), mark("("), word("x"), mark("+"), number(4), mark(")"), mark("("), word("a1"), mark(")"))
	wantTokens(t, strings.Repeat("n", 32)+","+strings.Repeat("m", 32), word(strings.Repeat("n", 32)), mark(","), word(strings.Repeat("m", 32)))
}

// behind holds what Tokens answers of told, which is the token a, followed at once by each byte.
func behind(t *testing.T, told string, a api.Token) {
	t.Helper()
	wantTokens(t, told, a)
	for c := range 256 {
		odd := string([]byte{byte(c)})
		want(t, told+odd)
		want(t, told+odd+"0")
		want(t, told+odd+" x")
		switch {
		case odd == " " || odd == "\t" || odd == "#":
			wantTokens(t, told+odd, a)
		case odd == "%":
			wantTokens(t, told+odd, a, word("%"))
		case has(",()+-:", odd[0]):
			wantTokens(t, told+odd, a, mark(odd))
		case odd == `"`:
			wantTokens(t, told+`""`, a, text(""))
			wantRefused(t, told+odd, api.ErrToken)
		case !has(goesOn, odd[0]):
			wantRefused(t, told+odd, api.ErrToken)
		}
	}
}

// P15.1: digits with f or b, of each length, and what may follow them at once.
func TestLocals(t *testing.T) {
	for size := 1; size <= 40; size++ {
		for _, digit := range []string{"0", "1", "9"} {
			for _, side := range []string{"f", "b"} {
				local := strings.Repeat(digit, size) + side
				if size > 9 {
					wantRefused(t, local, api.ErrToken)
					wantRefused(t, local+" ", api.ErrToken)
					continue
				}
				behind(t, local, word(local))
				for _, c := range goesOn {
					wantRefused(t, local+string(c), api.ErrToken)
				}
			}
		}
	}
	// No other letter is one of these two.
	for _, c := range letters {
		if c != 'f' && c != 'b' {
			wantRefused(t, "1"+string(c), api.ErrToken)
			wantRefused(t, "00"+string(c), api.ErrToken)
		}
	}
	wantTokens(t, "0f 0b 12f:9b", word("0f"), word("0b"), word("12f"), mark(":"), word("9b"))
	wantTokens(t, "f b", word("f"), word("b"))
	wantTokens(t, "1 f", number(1), word("f"))
	wantTokens(t, "123456789b 987654321f", word("123456789b"), word("987654321f"))
	for _, line := range []string{"1fb", "1ff", "1f1", "1f.", "1f_", "1f$", "1F", "1B", "1234567890f", "0000000001f"} {
		wantRefused(t, line, api.ErrToken)
	}
}

// P15.1: numbers that are counted, of each length, with noughts ahead and without, and what may follow them at once.
func TestNumbers(t *testing.T) {
	for size := 1; size <= 60; size++ {
		for _, told := range []string{strings.Repeat("0", size), strings.Repeat("9", size), "1" + strings.Repeat("0", size-1), strings.Repeat("0", size-1) + "7", strings.Repeat("1234567890", 6)[:size]} {
			if size > 18 {
				wantRefused(t, told, api.ErrToken)
				wantRefused(t, told+" ", api.ErrToken)
				continue
			}
			n, _ := strconv.Atoi(told)
			wantTokens(t, told, number(n))
			if size == 1 || size == 9 || size == 18 {
				behind(t, told, number(n))
				for _, c := range letters + "_.$" {
					if size == 18 || c != 'f' && c != 'b' {
						wantRefused(t, told+string(c), api.ErrToken)
					}
				}
			}
		}
	}
	wantTokens(t, "0 00 007 999999999999999999 000000000000000001", number(0), number(0), number(7), number(999999999999999999), number(1))
	wantTokens(t, "-1", mark("-"), number(1))
	wantTokens(t, "+5-", mark("+"), number(5), mark("-"))
	wantRefused(t, "1000000000000000000", api.ErrToken)
	wantRefused(t, "0000000000000000001", api.ErrToken)
	for _, line := range []string{"1.5", "1_000", "1$", "0o7", "1e3", "08a"} {
		wantRefused(t, line, api.ErrToken)
	}
}

// P15.1: numbers of sixteens, of each length, with letters small and great, and what may follow them at once.
func TestSixteens(t *testing.T) {
	for size := range 60 {
		for _, digit := range digits + "abcdefABCDEF" {
			told := "0x" + strings.Repeat(string(digit), size)
			if size < 1 || size > 16 {
				wantRefused(t, told, api.ErrToken)
				wantRefused(t, told+" 1", api.ErrToken)
				continue
			}
			n, _ := strconv.ParseUint(told[2:], 16, 64)
			wantTokens(t, told, number(int(n)))
		}
	}
	for _, told := range []string{"0x1", "0xf", "0xfb", "0x0000000000000000", "0xffffffffffffffff"} {
		l, _ := lex.Tokens(told)
		behind(t, told, l[0])
		for _, c := range goesOn {
			if len(told) == 18 || !has(digits+"abcdefABCDEF", byte(c)) {
				wantRefused(t, told+string(c), api.ErrToken)
			}
		}
	}
	for _, c := range []struct {
		line string
		n    int
	}{
		{"0x0", 0}, {"0x7fffffffffffffff", 1<<63 - 1}, {"0x8000000000000000", -1 << 63}, {"0x8000000000000001", -1<<63 + 1}, {"0xffffffffffffffff", -1}, {"0xFFFFFFFFFFFFFFFE", -2},
		{"0xaBcDeF", 0xabcdef}, {"0x0de0b6b3a7640000", 1e18}, {"0x000000000000000f", 15}, {"0xb", 11}, {"0x1b", 27}, {"0x1f", 31},
	} {
		wantTokens(t, c.line, number(c.n))
	}
	for _, line := range []string{"0x", "0X1", "0x ", "0xg", "0x-1", "0x+1", "0x_1", "0x1_0", "0x.", "00x1", "1x1", "0x0x1", "0x1g", "0x1.", "0x\"\"", "0x,", "0xfx", "0x12345678901234567"} {
		wantRefused(t, line, api.ErrToken)
	}
}

// P15.1: that the longest is taken, of words and numbers that begin alike.
func TestLongest(t *testing.T) {
	wantTokens(t, "12", number(12))
	wantTokens(t, "12f", word("12f"))
	wantTokens(t, "0b", word("0b"))
	wantTokens(t, "0xb", number(11))
	wantTokens(t, "0x0b", number(11))
	wantTokens(t, "addi.w", word("addi.w"))
	wantTokens(t, "a1f", word("a1f"))
	wantTokens(t, ".1f", word(".1f"))
	wantTokens(t, "%1f", word("%1f"))
	wantTokens(t, "--", mark("-"), mark("-"))
	wantTokens(t, "::", mark(":"), mark(":"))
	wantTokens(t, `"a""b"`, text("a"), text("b"))
	wantTokens(t, `"a\"b"`, text(`a"b`))
}

// P15.1: texts: none, each sign, a stroke that begins none, each byte, and those without an end.
func TestTexts(t *testing.T) {
	wantTokens(t, `""`, text(""))
	wantTokens(t, `"" "" ""`, text(""), text(""), text(""))
	signs := map[byte]string{'n': "\n", 't': "\t", '0': "\x00", '"': `"`, '\\': `\`}
	for c := range 256 {
		odd := string([]byte{byte(c)})
		told := c >= 32 && c <= 126 && odd != `"` && odd != `\`
		for _, around := range []string{"", "x", `\n`, strings.Repeat("y", 100)} {
			inner := meant.Replace(around)
			want(t, `"`+around+odd+around+`"`)
			want(t, `"`+around+`\`+odd+around+`"`)
			want(t, `"`+around+odd)
			want(t, `"`+around+`\`+odd)
			if told {
				wantTokens(t, `"`+around+odd+around+`"`, text(inner+odd+inner))
			} else if odd != `"` && odd != `\` {
				wantRefused(t, `"`+around+odd+around+`"`, api.ErrToken)
			}
			if of, ok := signs[byte(c)]; ok {
				wantTokens(t, `"`+around+`\`+odd+around+`"`, text(inner+of+inner))
			} else {
				wantRefused(t, `"`+around+`\`+odd+around+`"`, api.ErrToken)
			}
		}
	}
	for _, line := range []string{`"`, `"a`, `"\`, `"\"`, `"\\`, `"\\\"`, `"a\`, `"a\n`, `"a" "`, `"" \`, `\n`, `"""`, `a"`, `"a b # c`, `"` + strings.Repeat("x", 255), strings.Repeat(" ", 255) + `"`, strings.Repeat(" ", 254) + `"\`} {
		wantRefused(t, line, api.ErrToken)
	}
	wantTokens(t, `"\\"`, text(`\`))
	wantTokens(t, `"\\n"`, text(`\n`))
	wantTokens(t, `"\\\n"`, text("\\\n"))
	wantTokens(t, `"\0007"`, text("\x00007"))
	wantTokens(t, `"it's, (a) # 1f: -+"`, text("it's, (a) # 1f: -+"))
	for _, line := range []string{"\"\u00e9\"", "\"\u2200\"", "\u00e9", "\u2200x", "\ufeffa"} {
		wantRefused(t, line, api.ErrToken)
	}
}

// P15.1: each mark, and each other byte, alone, and beside others.
func TestMarks(t *testing.T) {
	for c := range 256 {
		odd := string([]byte{byte(c)})
		for _, line := range []string{odd, odd + odd, " " + odd, odd + " ", "a" + odd, odd + "a", "(" + odd + ")", "1 " + odd + " 1", odd + "1", odd + `"x"`, `"x"` + odd} {
			want(t, line)
		}
		if has(",()+-:", byte(c)) {
			wantTokens(t, odd, mark(odd))
			wantTokens(t, odd+odd+"a"+odd, mark(odd), mark(odd), word("a"), mark(odd))
			wantTokens(t, odd+"1", mark(odd), number(1))
			wantTokens(t, "1b"+odd+`"x"`, word("1b"), mark(odd), text("x"))
		}
	}
	wantTokens(t, ",()+-:", mark(","), mark("("), mark(")"), mark("+"), mark("-"), mark(":"))
}

// P15.1: every line of one and of two bytes, and those of three and of four out of bytes of each kind.
func TestShortLines(t *testing.T) {
	for a := range 256 {
		want(t, string([]byte{byte(a)}))
		for b := range 256 {
			want(t, string([]byte{byte(a), byte(b)}))
		}
	}
	const some = "0 1xfbgaF_.$%\"\\n,-#\t@\x80"
	for i := range len(some) {
		for j := range len(some) {
			for k := range len(some) {
				line := string([]byte{some[i], some[j], some[k]})
				want(t, line)
				for l := range len(some) {
					want(t, line+some[l:l+1])
				}
			}
		}
	}
}

// P15.1, P15.4: lines of parts that are put beside each other with a gap and without.
func TestMadeLines(t *testing.T) {
	d := dice(15)
	for range 60000 {
		var line string
		for range d.below(12) {
			line += one(&d, "", "", " ", "\t", "  ", "#", "a", "%lo", ".text", "1f", "12b", "0x", "0x1F", "42", "007", `""`, `"x\n"`, `"\"`, `"a # b"`, ",", "(", ")", "+", "-", ":", "@", "\x80", "\n", strings.Repeat("n", 31), "999999999999999999", "ffffffffffffffff")
		}
		want(t, line)
		want(t, d.made(12, "01fbx \"\\n%a,"))
		want(t, " "+d.made(300, "ab1 ,:#\t"))
	}
}

// P15.3: what two calls answer shares no memory, nor does it hang on what a line was cut out of.
func TestTokensAreNew(t *testing.T) {
	whole := []byte(`xxlabel: lw a0, 12(sp), "text" 1f, 0x10xx`)
	line := string(whole[2 : len(whole)-2])
	a, _ := lex.Tokens(line)
	b, _ := lex.Tokens(line)
	was := slices.Clone(b)
	for i := range a[:cap(a)] {
		a[:cap(a)][i] = mark("?")
	}
	if !slices.Equal(b, was) {
		t.Error("two answers share memory")
	}
	for i, one := range b {
		for _, other := range b[:i] {
			if len(one.Text) > 1 && lies(one.Text, other.Text) {
				t.Errorf("%s and %s share memory", told(one), told(other))
			}
		}
	}
}
