package lex_test

import (
	"fmt"
	"math/big"
	"regexp"
	"slices"
	"strings"
	"testing"
	"unsafe"

	"quoin/api"
	"quoin/lex"
)

// The tokens of the tests: a word, a number, a text and a mark.
func word(text string) api.Token { return api.Token{Kind: 1, Text: text} }
func number(n int) api.Token     { return api.Token{Kind: 2, Number: n} }
func text(of string) api.Token   { return api.Token{Kind: 3, Text: of} }
func mark(sign string) api.Token { return api.Token{Kind: 4, Text: sign} }

// What stands in a line, and what tokens have, by the tests' own reckoning.
var (
	gaps     = regexp.MustCompile(`^[ \t]*(?:#(?s:.*))?`)
	names    = regexp.MustCompile(`^[A-Za-z_.$%][A-Za-z0-9_.$]*`)
	sided    = regexp.MustCompile(`^[0-9]{1,9}[fb]`)
	tens     = regexp.MustCompile(`^[0-9]{1,18}`)
	sixteens = regexp.MustCompile(`^0x[0-9a-fA-F]{1,16}`)
	closed   = regexp.MustCompile(`^"(?:[ !#-\[\]-~]|\\[nt0"\\])*"`)
	signs    = regexp.MustCompile(`^[,()+\-:]`)
	onward   = regexp.MustCompile(`^[A-Za-z0-9_.$]`)
	words    = regexp.MustCompile(`\A(?:[A-Za-z_.$%][A-Za-z0-9_.$]{0,31}|[0-9]{1,9}[fb])\z`)
	tellable = regexp.MustCompile(`\A[\x00\t\n -~]{0,256}\z`)
	single   = regexp.MustCompile(`\A[,()+\-:]\z`)
)

// meant are the bytes of what stands between quotes; spelt is what stands there for them.
var (
	meant = strings.NewReplacer(`\n`, "\n", `\t`, "\t", `\0`, "\x00", `\"`, `"`, `\\`, `\`)
	spelt = strings.NewReplacer("\n", `\n`, "\t", `\t`, "\x00", `\0`, `"`, `\"`, `\`, `\\`)
)

// planOf is what Tokens is to answer of line.
func planOf(line string) ([]api.Token, api.Errno) {
	if len(line) > 256 {
		return nil, api.ErrText
	}
	var l []api.Token
	for {
		line = line[len(gaps.FindString(line)):]
		if line == "" {
			break
		}
		t, size := planOfFirst(line)
		if size == 0 {
			return nil, api.ErrToken
		}
		l = append(l, t)
		line = line[size:]
	}
	if len(l) > 64 {
		return nil, api.ErrMany
	}
	return l, api.OK
}

// planOfFirst is the token that rest begins with, and how many bytes it has there.
func planOfFirst(rest string) (api.Token, int) {
	if s := names.FindString(rest); s != "" && len(s) <= 32 {
		return word(s), len(s)
	}
	if s := closed.FindString(rest); s != "" {
		return text(meant.Replace(s[1 : len(s)-1])), len(s)
	}
	if s := signs.FindString(rest); s != "" {
		return mark(s), 1
	}
	side, ten, sixteen := sided.FindString(rest), tens.FindString(rest), sixteens.FindString(rest)
	size := max(len(side), len(ten), len(sixteen))
	if size == 0 || onward.MatchString(rest[size:]) {
		return api.Token{}, 0
	}
	if size == len(side) {
		return word(side), size
	}
	n, _ := new(big.Int).SetString(rest[:size], map[bool]int{true: 0, false: 10}[size == len(sixteen)])
	if n.BitLen() > 63 {
		n.Sub(n, new(big.Int).Lsh(big.NewInt(1), 64))
	}
	return number(int(n.Int64())), size
}

// planMay tells whether t may be, and be told.
func planMay(t api.Token) bool {
	switch t.Kind {
	case 1:
		return t.Number == 0 && words.MatchString(t.Text)
	case 2:
		return t.Text == ""
	case 3:
		return t.Number == 0 && tellable.MatchString(t.Text)
	case 4:
		return t.Number == 0 && single.MatchString(t.Text)
	}
	return false
}

// planLine is what Write is to answer of l.
func planLine(l []api.Token) (string, api.Errno) {
	if len(l) > 64 {
		return "", api.ErrMany
	}
	var parts []string
	for _, t := range l {
		if !planMay(t) {
			return "", api.ErrBad
		}
		switch {
		case t.Kind == 3:
			parts = append(parts, `"`+spelt.Replace(t.Text)+`"`)
		case t.Kind == 2 && t.Number >= 0 && t.Number < 1e18:
			parts = append(parts, fmt.Sprint(t.Number))
		case t.Kind == 2:
			parts = append(parts, fmt.Sprintf("0x%016x", uint64(t.Number)))
		default:
			parts = append(parts, t.Text)
		}
	}
	if line := strings.Join(parts, " "); len(line) <= 256 {
		return line, api.OK
	}
	return "", api.ErrText
}

// told are tokens as a message has them.
func told(l ...api.Token) string {
	return fmt.Sprintf("%.300s", fmt.Sprintf("%#v", l))
}

// lies tells whether memory of part lies in that of whole. Texts of one byte are nobody's: the language may have each just once.
func lies(part, whole string) bool {
	from, at := uintptr(unsafe.Pointer(unsafe.StringData(whole))), uintptr(unsafe.Pointer(unsafe.StringData(part)))
	return max(len(part), len(whole)) > 1 && len(part) > 0 && at < from+uintptr(len(whole)) && from < at+uintptr(len(part))
}

// want holds what Tokens answers of line against the plan, and that what it answers is new memory and, if it has room in a line, is read again of what Write makes of it.
func want(t *testing.T, line string) {
	t.Helper()
	was := strings.Clone(line)
	l, e := lex.Tokens(line)
	plan, bad := planOf(line)
	if e != bad || !slices.Equal(l, plan) {
		t.Fatalf("Tokens(%.300q) = %s, %d; want %s, %d", line, told(l...), int(e), told(plan...), int(bad))
	}
	if line != was {
		t.Fatalf("Tokens(%q) made it %q", was, line)
	}
	for i, a := range l {
		if lies(a.Text, line) {
			t.Fatalf("Tokens(%q): token %d is the line's memory", line, i)
		}
		if e := lex.Check(a); e != api.OK {
			t.Fatalf("Tokens(%q): Check of token %d is %d", line, i, int(e))
		}
	}
	if e == api.OK {
		wantLine(t, l)
	}
}

// wantLine holds what Write answers of l against the plan, and that it is new memory, and is read as it was.
func wantLine(t *testing.T, l []api.Token) {
	t.Helper()
	was := slices.Clone(l)
	line, e := lex.Write(l)
	plan, bad := planLine(l)
	if e != bad || line != plan {
		t.Fatalf("Write(%s) = %q, %d; want %q, %d", told(l...), line, int(e), plan, int(bad))
	}
	if !slices.Equal(l, was) {
		t.Fatalf("Write(%s) made them %s", told(was...), told(l...))
	}
	for _, a := range l {
		if lies(line, a.Text) {
			t.Fatalf("Write(%s) is a token's memory", told(l...))
		}
	}
	if e != api.OK {
		return
	}
	if again, e := lex.Tokens(line); e != api.OK || !slices.Equal(again, l) {
		t.Fatalf("Tokens(%q) = %s, %d; want %s", line, told(again...), int(e), told(l...))
	}
}

// wantTokens holds that Tokens answers just these of line.
func wantTokens(t *testing.T, line string, l ...api.Token) {
	t.Helper()
	want(t, line)
	if got, e := lex.Tokens(line); e != api.OK || !slices.Equal(got, l) {
		t.Errorf("Tokens(%q) = %s, %d; want %s", line, told(got...), int(e), told(l...))
	}
}

// wantRefused holds that Tokens answers that error of line, and nothing beside it.
func wantRefused(t *testing.T, line string, bad api.Errno) {
	t.Helper()
	want(t, line)
	if l, e := lex.Tokens(line); e != bad || len(l) > 0 {
		t.Errorf("Tokens(%.300q) = %s, %d; want %d", line, told(l...), int(e), int(bad))
	}
}

// wantCheck holds Check's answer, and Write's of the token alone, against whether t may be.
func wantCheck(t *testing.T, a api.Token, may bool) {
	t.Helper()
	wantLine(t, []api.Token{a})
	bad := api.ErrBad
	if may {
		bad = api.OK
	}
	if planMay(a) != may {
		t.Fatalf("the tests' own reckoning of %s is %v", told(a), !may)
	}
	if e := lex.Check(a); e != bad {
		t.Errorf("Check(%s) = %d", told(a), int(e))
	}
	if may {
		return
	}
	if line, e := lex.Write([]api.Token{a}); e != bad || line != "" {
		t.Errorf("Write(%s) = %q, %d", told(a), line, int(e))
	}
}

// dice tell numbers that hang on where they begin alone.
type dice uint64

// below is a number from 0 to one less than n.
func (d *dice) below(n int) int {
	*d = *d*6364136223846793005 + 1442695040888963407
	return int(uint64(*d)>>33) % n
}

// one is one of l.
func one[T any](d *dice, l ...T) T {
	return l[d.below(len(l))]
}

// made is a text of at most so many bytes, of those of from.
func (d *dice) made(most int, from string) string {
	var b []byte
	for range d.below(most + 1) {
		b = append(b, from[d.below(len(from))])
	}
	return string(b)
}
