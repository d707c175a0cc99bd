package lex

import (
	"strconv"
	"strings"

	"quoin/api"
)

// The bytes, beside letters, that a name begins with, and goes on with.
const (
	headSigns = "_.$%"
	restSigns = "_.$" + digits
)

const digits = "0123456789"

// Digits with one of sides are a word, if they are no more than mostLocal.
const (
	sides     = "fb"
	mostLocal = 9
)

// How many digits a number may have, and what stands ahead of those of the second kind.
const (
	mostTens     = 18
	mostSixteens = 16
	sixteens     = "0x"
)

const marks = ",()+-:"

// kind tells of a byte whether it is of a kind.
type kind func(c byte) bool

// oneOf is the kind of the bytes of l.
func oneOf(l string) kind {
	return func(c byte) bool {
		return strings.IndexByte(l, c) >= 0
	}
}

// letterOr is the kind of letters, and of the bytes of l.
func letterOr(l string) kind {
	other := oneOf(l)
	return func(c byte) bool {
		return c >= 'A' && c <= 'Z' || c >= 'a' && c <= 'z' || other(c)
	}
}

// run is how many bytes of a kind text begins with.
func run(text string, is kind) int {
	size := 0
	for size < len(text) && is(text[size]) {
		size++
	}
	return size
}

// isAll tells whether text is bytes of a kind alone.
func isAll(text string, is kind) bool {
	return run(text, is) == len(text)
}

// isWord tells whether text is a name, or digits with f or b.
func isWord(text string) bool {
	return isName(text) || isLocal(text)
}

// isName tells whether text is a name.
func isName(text string) bool {
	if len(text) < 1 || len(text) > api.MaxName {
		return false
	}
	begins, goesOn := letterOr(headSigns), letterOr(restSigns)
	return begins(text[0]) && isAll(text[1:], goesOn)
}

// isLocal tells whether text is digits with f or b.
func isLocal(text string) bool {
	last := len(text) - 1
	if last < 1 || last > mostLocal {
		return false
	}
	is := oneOf(sides)
	return is(text[last]) && isAll(text[:last], oneOf(digits))
}

// isMark tells whether text is a mark.
func isMark(text string) bool {
	return len(text) == 1 && strings.Contains(marks, text)
}

// first is the token that rest, in which there is a byte, begins with, and how many bytes it has there: none, if none stands there.
func first(rest string) (api.Token, int) {
	if rest[0] == quote {
		return firstText(rest)
	}
	if mark := rest[:1]; isMark(mark) {
		return api.Token{Kind: api.TokMark, Text: strings.Clone(mark)}, 1
	}
	return firstWord(rest)
}

// firstWord is the word or the number that rest begins with. None is followed at once by a byte that a name may go on with, so that all of these that stand here are its own, or none stands here.
func firstWord(rest string) (api.Token, int) {
	size := 1 + run(rest[1:], letterOr(restSigns))
	word := rest[:size]
	if isWord(word) {
		// The line is not kept by what is answered.
		return api.Token{Kind: api.TokWord, Text: strings.Clone(word)}, size
	}
	if n, ok := numberOf(word); ok {
		return api.Token{Kind: api.TokNumber, Number: n}, size
	}
	return api.Token{}, 0
}

// numberOf is the number that word is, if it is one.
func numberOf(word string) (int, bool) {
	base, most := 10, mostTens
	told, ok := strings.CutPrefix(word, sixteens)
	if ok {
		base, most = 16, mostSixteens
	}
	if len(told) > most {
		return 0, false
	}
	n, err := strconv.ParseUint(told, base, 64)
	if err != nil {
		return 0, false
	}
	// From 2^63 on this is 2^64 less.
	return int(n), true
}
