// Package name: see DOC.md, chapter 1.
package name

import (
	"slices"
	"strings"

	"crucible/api"
)

// signs are the bytes of a name that are neither letters nor digits.
const signs = "._-/"

// May: chapter 1.
func May(s string) bool {
	// The length is held first, so that a long text costs no more than a short one.
	if len(s) < 1 || len(s) > api.MaxName {
		return false
	}
	return !slices.ContainsFunc([]byte(s), func(b byte) bool {
		letter := 'a' <= b && b <= 'z'
		digit := '0' <= b && b <= '9'
		return !letter && !digit && strings.IndexByte(signs, b) < 0
	})
}
