// Package plain holds what the layers share about the texts that they take.
package plain

import "slices"

// May: has s at most so many bytes, each from 32 to 126?
func May(s string, most int) bool {
	// The length is held first, so that a long text costs no more than a short one.
	if len(s) > most {
		return false
	}
	return !slices.ContainsFunc([]byte(s), func(b byte) bool {
		return b < 32 || b > 126
	})
}
