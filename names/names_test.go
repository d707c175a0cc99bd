package names_test

import (
	"strings"
	"testing"

	"quoin/names"
)

// want holds May's answer against whether name may be.
func want(t *testing.T, name string, may bool) {
	t.Helper()
	if names.May(name) != may {
		t.Errorf("May(%.100q) = %v", name, !may)
	}
}

// Every length up to some beyond the longest, and far longer ones.
func TestLengths(t *testing.T) {
	for size := range 100 {
		want(t, strings.Repeat("x", size), size >= 1 && size <= 32)
	}
	for _, size := range []int{256, 256 + 32, 1<<16 + 1, 1 << 20} {
		want(t, strings.Repeat("x", size), false)
	}
}

// Every byte alone, and at every place of the longest name.
func TestBytes(t *testing.T) {
	for c := range 256 {
		odd := string([]byte{byte(c)})
		may := c >= 33 && c <= 126
		want(t, odd, may)
		for at := range 32 {
			want(t, strings.Repeat("x", at)+odd+strings.Repeat("x", 31-at), may)
		}
	}
}

// Letters of more than one byte are no bytes from 33 to 126.
func TestLongLetters(t *testing.T) {
	for _, name := range []string{"\u00e9", "\u2200", "x\u00e9", "\U0001f600y", "\xff\xfe"} {
		want(t, name, false)
	}
}
