package lex

import (
	"strconv"
	"strings"

	"quoin/api"
)

// A text stands between quotes; behind a stroke stands a sign for a byte.
const (
	quote  = '"'
	stroke = '\\'
)

// The bytes that stand for themselves in a text are from one of these to the other, but for quote and stroke.
const (
	lowestPlain  = 32
	highestPlain = 126
)

// leastLong is the least of the numbers that are not told as they are counted.
const leastLong = 1_000_000_000_000_000_000

// bytesOf are the bytes that signs stand for.
func bytesOf() map[byte]byte {
	return map[byte]byte{'n': '\n', 't': '\t', '0': 0, quote: quote, stroke: stroke}
}

// signsOf are the signs that stand for bytes.
func signsOf() map[byte]byte {
	signs := map[byte]byte{}
	for sign, c := range bytesOf() {
		signs[c] = sign
	}
	return signs
}

// isPlain tells whether c stands for itself in a text.
func isPlain(c byte) bool {
	return c >= lowestPlain && c <= highestPlain && c != quote && c != stroke
}

// canBeTold tells whether there is a text of a line for each byte of text.
func canBeTold(text string) bool {
	signs := signsOf()
	return isAll(text, func(c byte) bool {
		_, ok := signs[c]
		return ok || isPlain(c)
	})
}

// firstText is the text that rest, whose first byte is a quote, begins with, and how many bytes it has there: none, if it has no end or a byte that can't be told.
func firstText(rest string) (api.Token, int) {
	meant := bytesOf()
	var text []byte
	at := 1
	for at < len(rest) && rest[at] != quote {
		c, size := firstByte(rest[at:], meant)
		if size == 0 {
			return api.Token{}, 0
		}
		text = append(text, c)
		at += size
	}
	if at == len(rest) {
		return api.Token{}, 0
	}
	return api.Token{Kind: api.TokText, Text: string(text)}, at + 1
}

// firstByte is the byte of a text that rest, in which there is a byte, begins with, and how many bytes it has there: none, if it can't be told so. In meant the bytes stand by their signs.
func firstByte(rest string, meant map[byte]byte) (byte, int) {
	if isPlain(rest[0]) {
		return rest[0], 1
	}
	if rest[0] != stroke || len(rest) < 2 {
		return 0, 0
	}
	c, ok := meant[rest[1]]
	if !ok {
		return 0, 0
	}
	return c, 2
}

// appendToken puts t, which may be, behind line.
func appendToken(line []byte, t api.Token) []byte {
	switch t.Kind {
	case api.TokNumber:
		return appendNumber(line, t.Number)
	case api.TokText:
		return appendText(line, t.Text)
	}
	return append(line, t.Text...)
}

// appendNumber puts n behind line.
func appendNumber(line []byte, n int) []byte {
	if n >= 0 && n < leastLong {
		return strconv.AppendInt(line, int64(n), 10)
	}
	// From 2^63 on numbers stand for those that are 2^64 less.
	told := strconv.FormatUint(uint64(n), 16)
	line = append(line, sixteens...)
	line = append(line, strings.Repeat("0", mostSixteens-len(told))...)
	return append(line, told...)
}

// appendText puts text, whose bytes can be told, behind line.
func appendText(line []byte, text string) []byte {
	signs := signsOf()
	line = append(line, quote)
	// By bytes: a range over the text itself would tell its runes.
	for i := range len(text) {
		c := text[i]
		if sign, ok := signs[c]; ok {
			line = append(line, stroke)
			c = sign
		}
		line = append(line, c)
	}
	return append(line, quote)
}
