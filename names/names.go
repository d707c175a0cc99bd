// Package names tells which names may be, of sections, symbols and groups alike, so that the layers that take some need not each say it. It stands beside the layers, and calls none.
package names

import "quoin/api"

// The bytes that a name has are from one of these to the other.
const (
	lowestByte  = 33
	highestByte = 126
)

// May tells whether name may be (chapter 9, shared/doc/09-sect.md).
func May(name string) bool {
	if len(name) < 1 || len(name) > api.MaxName {
		return false
	}
	// By bytes: a range over the text itself would tell its runes.
	for i := range len(name) {
		if name[i] < lowestByte || name[i] > highestByte {
			return false
		}
	}
	return true
}
