package lex_test

import (
	"math"
	"slices"
	"strings"
	"testing"

	"quoin/api"
	"quoin/lex"
)

// wantWritten holds that Write answers just this line of l.
func wantWritten(t *testing.T, line string, l ...api.Token) {
	t.Helper()
	wantLine(t, l)
	if got, e := lex.Write(l); e != api.OK || got != line {
		t.Errorf("Write(%s) = %q, %d; want %q", told(l...), got, int(e), line)
	}
}

// wantUnwritten holds that Write answers that error of l, and nothing beside it.
func wantUnwritten(t *testing.T, bad api.Errno, l ...api.Token) {
	t.Helper()
	wantLine(t, l)
	if got, e := lex.Write(l); e != bad || got != "" {
		t.Errorf("Write(%s) = %q, %d; want %d", told(l...), got, int(e), int(bad))
	}
}

// P15.2: kinds that there are, and kinds that there are not, with each field beside them.
func TestCheckOfKinds(t *testing.T) {
	for kind := range 256 {
		for _, s := range []string{"", "a", "1f", "1", ",", "x y", "\x80"} {
			for _, n := range []int{0, 1, -1, 256, math.MinInt, math.MaxInt} {
				a := api.Token{Kind: uint8(kind), Text: s, Number: n}
				may := false
				switch kind {
				case 1:
					may = n == 0 && (s == "a" || s == "1f")
				case 2:
					may = s == ""
				case 3:
					may = n == 0 && s != "\x80"
				case 4:
					may = n == 0 && s == ","
				}
				wantCheck(t, a, may)
			}
		}
	}
	wantCheck(t, api.Token{}, false)
}

// P15.2: words of each length, of each byte first, in the middle and last.
func TestCheckOfWords(t *testing.T) {
	for size := range 100 {
		for _, c := range []string{"a", "Z", "_", ".", "$"} {
			wantCheck(t, word(strings.Repeat(c, size)), size >= 1 && size <= 32)
		}
		for _, digit := range []string{"0", "9"} {
			wantCheck(t, word(strings.Repeat(digit, size)), false)
			wantCheck(t, word(strings.Repeat(digit, size)+"f"), size <= 9)
			wantCheck(t, word(strings.Repeat(digit, size)+"b"), size <= 9)
			wantCheck(t, word(strings.Repeat(digit, size)+"ff"), size == 0)
			wantCheck(t, word("a"+strings.Repeat(digit, size)), size <= 31)
		}
	}
	for _, size := range []int{256, 256 + 1, 256 + 32, 65536 + 1, 1 << 20} {
		wantCheck(t, word(strings.Repeat("a", size)), false)
		wantCheck(t, word(strings.Repeat("1", size)+"f"), false)
	}
	for c := range 256 {
		odd := string([]byte{byte(c)})
		wantCheck(t, word(odd), has(begins, byte(c)))
		wantCheck(t, word(odd+"x"), has(begins, byte(c)))
		wantCheck(t, word(odd+"f"), has(begins+digits, byte(c)))
		wantCheck(t, word(odd+strings.Repeat("x", 31)), has(begins, byte(c)))
		for at := 1; at < 32; at++ {
			wantCheck(t, word("%"+strings.Repeat("x", at-1)+odd+strings.Repeat("y", 31-at)), has(goesOn, byte(c)))
		}
		for at := range 9 {
			wantCheck(t, word(strings.Repeat("1", at)+odd+strings.Repeat("1", 8-at)+"b"), has(digits, byte(c)) || at == 0 && has(begins, byte(c)))
		}
		wantCheck(t, word("12"+odd), odd == "f" || odd == "b")
		wantCheck(t, word("123456789"+odd), odd == "f" || odd == "b")
	}
	for _, s := range []string{"1", "12", "f1f", "b", "f", "%", "%%", "a%", "1f ", " 1f", "1fb", "-1", "0x1", "0xb", "0xf", "1f\n", "a b", "a#", "\u00e9", ","} {
		wantCheck(t, word(s), s == "f1f" || s == "b" || s == "f" || s == "%")
	}
}

// P15.2: texts of each length and each byte, first, in the middle and last.
func TestCheckOfTexts(t *testing.T) {
	for size := range 300 {
		for _, c := range []string{"x", " ", "\n", "\t", "\x00", `"`, `\`, "~"} {
			wantCheck(t, text(strings.Repeat(c, size)), size <= 256)
		}
	}
	for _, size := range []int{512, 65536, 65536 + 256, 1 << 20} {
		wantCheck(t, text(strings.Repeat("x", size)), false)
	}
	for c := range 256 {
		odd := string([]byte{byte(c)})
		may := c >= 32 && c <= 126 || c == 10 || c == 9 || c == 0
		for _, s := range []string{odd, odd + "x", "x" + odd, "x" + odd + "x", odd + odd, strings.Repeat("x", 255) + odd, odd + strings.Repeat("x", 255), strings.Repeat("x", 100) + odd + strings.Repeat("x", 100)} {
			wantCheck(t, text(s), may)
		}
		wantCheck(t, text(strings.Repeat("x", 256)+odd), false)
	}
	wantCheck(t, text("\u00e9"), false)
	wantCheck(t, text("a \u2200"), false)
}

// P15.2: marks are one of six bytes.
func TestCheckOfMarks(t *testing.T) {
	for c := range 256 {
		odd := string([]byte{byte(c)})
		wantCheck(t, mark(odd), has(",()+-:", byte(c)))
		for _, s := range []string{odd + odd, "," + odd, odd + ",", odd + ")", " " + odd} {
			wantCheck(t, mark(s), false)
		}
	}
	for _, s := range []string{"", "()", ",(", "+-", ",()+-:", "\u00e9", strings.Repeat(",", 1000)} {
		wantCheck(t, mark(s), false)
	}
}

// P15.2: the numbers that are counted, and all others.
func TestWriteOfNumbers(t *testing.T) {
	for _, c := range []struct {
		n    int
		line string
	}{
		{0, "0"}, {1, "1"}, {9, "9"}, {10, "10"}, {255, "255"}, {1 << 32, "4294967296"}, {999999999999999999, "999999999999999999"},
		{1000000000000000000, "0x0de0b6b3a7640000"}, {1000000000000000001, "0x0de0b6b3a7640001"}, {-1, "0xffffffffffffffff"}, {-2, "0xfffffffffffffffe"}, {-16, "0xfffffffffffffff0"},
		{math.MaxInt, "0x7fffffffffffffff"}, {math.MinInt, "0x8000000000000000"}, {math.MinInt + 1, "0x8000000000000001"}, {-1000000000000000000, "0xf21f494c589c0000"}, {0x123456789abcdef0, "0x123456789abcdef0"},
	} {
		wantWritten(t, c.line, number(c.n))
		wantWritten(t, "- "+c.line+" :", mark("-"), number(c.n), mark(":"))
		wantCheck(t, number(c.n), true)
	}
	for bit := range 64 {
		for add := -2; add <= 2; add++ {
			wantLine(t, []api.Token{number(1<<bit + add)})
			wantLine(t, []api.Token{number(-1<<bit + add)})
		}
	}
	for n := 1; n < 1e18; n *= 10 {
		wantLine(t, []api.Token{number(n - 1), number(n), number(n + 1), number(-n)})
	}
	for n := range 3000 {
		wantLine(t, []api.Token{number(n), number(-n), number(1e18 - 1500 + n)})
	}
}

// P15.2: none, one of each, and texts in the shortest way.
func TestWrite(t *testing.T) {
	wantWritten(t, "")
	if line, e := lex.Write([]api.Token{}); line != "" || e != api.OK {
		t.Errorf("Write of none = %q, %d", line, int(e))
	}
	wantWritten(t, "a", word("a"))
	wantWritten(t, "1f", word("1f"))
	wantWritten(t, `""`, text(""))
	wantWritten(t, `"" "" ""`, text(""), text(""), text(""))
	for _, sign := range []string{",", "(", ")", "+", "-", ":"} {
		wantWritten(t, sign, mark(sign))
		wantWritten(t, sign+" "+sign, mark(sign), mark(sign))
	}
	wantWritten(t, `lw 7 "a\n\t\0\"\\ #" ( 9b -`, word("lw"), number(7), text("a\n\t\x00\"\\ #"), mark("("), word("9b"), mark("-"))
	wantWritten(t, "a : li t0 , - 16", word("a"), mark(":"), word("li"), word("t0"), mark(","), mark("-"), number(16))
	wantWritten(t, `.ascii "a\n"`, word(".ascii"), text("a\n"))
	for c := range 256 {
		odd := string([]byte{byte(c)})
		wantLine(t, []api.Token{text(odd)})
		wantLine(t, []api.Token{text("x" + odd + "0n")})
		if c >= 32 && c <= 126 && odd != `"` && odd != `\` {
			wantWritten(t, `"`+odd+`"`, text(odd))
		}
	}
	wantWritten(t, `"\00"`, text("\x000"))
	wantWritten(t, `"\\n"`, text(`\n`))
}

// P15.2: as many tokens as may be, and one more, which is told ahead of what is wrong with one, and that ahead of a line that is too long.
func TestWriteOfMany(t *testing.T) {
	for _, a := range []api.Token{word("a"), number(0), text(""), mark(","), word("1b"), number(-1), text("xx"), word(strings.Repeat("n", 32)), {}, word(""), text("\x80")} {
		for n := range 100 {
			wantLine(t, slices.Repeat([]api.Token{a}, n))
		}
		wantUnwritten(t, api.ErrMany, slices.Repeat([]api.Token{a}, 65)...)
		wantUnwritten(t, api.ErrMany, slices.Repeat([]api.Token{a}, 5000)...)
	}
	wantUnwritten(t, api.ErrBad, make([]api.Token, 64)...)
	full := slices.Repeat([]api.Token{mark(",")}, 64)
	wantWritten(t, strings.TrimSuffix(strings.Repeat(", ", 64), " "), full...)
	wrong := []api.Token{{}, {Kind: 5}, word(""), word("1"), word(strings.Repeat("n", 33)), text("\x01"), text(strings.Repeat("x", 257)), mark("="), {Kind: 2, Text: "1"}, {Kind: 1, Text: "a", Number: 1}, {Kind: 4, Text: ",", Number: -1}}
	for _, bad := range wrong {
		long := text(strings.Repeat("x", 255))
		for _, l := range [][]api.Token{{bad}, {bad, word("a")}, {word("a"), bad}, {word("a"), bad, number(1)}, {bad, bad}, {long, bad}, {bad, long}, {long, bad, long}} {
			wantUnwritten(t, api.ErrBad, l...)
		}
		for at := range 64 {
			l := slices.Clone(full)
			l[at] = bad
			wantUnwritten(t, api.ErrBad, l...)
			wantUnwritten(t, api.ErrMany, append(l, mark(","))...)
		}
	}
}

// P15.2: lines of just as many bytes as may be, and of one more.
func TestWriteOfLong(t *testing.T) {
	wantWritten(t, `"`+strings.Repeat("x", 254)+`"`, text(strings.Repeat("x", 254)))
	wantUnwritten(t, api.ErrText, text(strings.Repeat("x", 255)))
	wantUnwritten(t, api.ErrText, text(strings.Repeat("x", 256)))
	wantWritten(t, `"`+strings.Repeat(`\n`, 127)+`"`, text(strings.Repeat("\n", 127)))
	wantUnwritten(t, api.ErrText, text(strings.Repeat("\n", 127)+"x"))
	wantUnwritten(t, api.ErrText, text(strings.Repeat("\n", 128)))
	for size := 240; size <= 256; size++ {
		for _, ahead := range [][]api.Token{{}, {mark(",")}, {number(12)}, {word(".ascii")}, {number(-1), mark(",")}, {text("\"\\")}} {
			for _, c := range []string{"x", "\t"} {
				l := append(slices.Clone(ahead), text(strings.Repeat(c, size)))
				wantLine(t, l)
				slices.Reverse(l)
				wantLine(t, l)
			}
		}
	}
	// Words of 32 bytes, seven of them and 25 bytes more, fill a line.
	l := slices.Repeat([]api.Token{word(strings.Repeat("n", 32))}, 7)
	for size := 1; size <= 32; size++ {
		last := word(strings.Repeat("m", size))
		if size <= 25 {
			wantWritten(t, strings.Repeat(strings.Repeat("n", 32)+" ", 7)+last.Text, append(slices.Clone(l), last)...)
		} else {
			wantUnwritten(t, api.ErrText, append(slices.Clone(l), last)...)
		}
	}
	wantUnwritten(t, api.ErrText, slices.Repeat([]api.Token{text(strings.Repeat("\x00", 256))}, 64)...)
}

// made is a token that may be, or, seldom, one that may not.
func made(d *dice) api.Token {
	switch d.below(41) {
	case 0:
		return one(d, api.Token{}, word("1"), text("\x7f"), mark("x"), api.Token{Kind: 2, Text: "x"})
	case 1:
		return text(d.made(300, "ab \n\\\""))
	}
	switch d.below(5) {
	case 0:
		return word(begins[d.below(len(begins)):][:1] + d.made(31, goesOn))
	case 1:
		return word(one(d, "1", "0", "999999999", "007", "12") + one(d, "f", "b"))
	case 2:
		n := d.below(1<<31) << d.below(40)
		return number(one(d, n, -n, d.below(100), 1e18-1+d.below(3), math.MinInt+d.below(3), math.MaxInt-d.below(3)))
	case 3:
		return text(d.made(20, "ab \n\t\x00\\\"#~0n"))
	}
	return mark(one(d, ",", "(", ")", "+", "-", ":"))
}

// P15.2, P15.4: what is written is read as it was.
func TestThereAndBack(t *testing.T) {
	d := dice(4)
	for range 60000 {
		var l []api.Token
		for range d.below(1 + one(&d, 3, 10, 20, 70)) {
			l = append(l, made(&d))
		}
		wantLine(t, l)
	}
}

// P15.3: the tokens that are handed in are as they were, their spare room too.
func TestTokensAreOnlyRead(t *testing.T) {
	d := dice(7)
	for range 3000 {
		whole := []api.Token{made(&d), made(&d), made(&d), word("room"), number(5), {Kind: 9, Text: "more"}}
		was := slices.Clone(whole)
		for n := range len(whole) {
			lex.Write(whole[:n])
			for _, a := range whole {
				lex.Check(a)
			}
			if !slices.Equal(whole, was) {
				t.Fatalf("Write(%s) made them %s", told(was...), told(whole...))
			}
		}
	}
}
