// Package paths holds what the layers share about the paths that they take.
package paths

import (
	"slices"

	"crucible/api"
	"crucible/path"
)

// May: is s a path, a name that layer 2's Clean tells of itself?
func May(s string) bool {
	cleaned, e := path.Clean(s)
	return e == api.OK && cleaned == s
}

// List: are they at most MaxList, all of them paths?
func List(names []string) bool {
	// The number is held first, so that a long list costs no more than a short one.
	if len(names) > api.MaxList {
		return false
	}
	return !slices.ContainsFunc(names, func(s string) bool { return !May(s) })
}
