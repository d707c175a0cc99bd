// Package shape names the numbers and texts that objects' files have in common (chapter 12, shared/doc/12-elfw.md), so that the layer that writes them and the one that reads them need not each say them. It stands beside the layers, and calls none.
package shape

// Sign is what a file begins with.
const Sign = "\x7fELF"

// How many bytes things of a file have.
const (
	FileHead = 64
	Head     = 64
	// Entry is of symbols and relocations alike.
	Entry = 24
	// Number is of a group's sections.
	Number = 4
)

// The types of heads.
const (
	TypeBytes   = 1
	TypeSymbols = 2
	TypeNames   = 3
	TypeRelas   = 4
	TypeNone    = 8
	TypeGroup   = 17
)

// GroupName is what a group's head's name begins with, its Sign being behind.
const GroupName = ".group."
