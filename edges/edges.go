// Package edges holds what the layers share about the edges that they take.
package edges

import (
	"crucible/api"
	"crucible/name"
	"crucible/paths"
	"crucible/plain"
)

// May: may the edge be (chapter 9), whichever pools there are?
func May(e api.Edge) bool {
	if len(e.Outs) == 0 || e.Command == "" {
		return false
	}
	for _, names := range [][]string{e.Outs, e.Ins, e.Implicit, e.Order} {
		if !paths.List(names) {
			return false
		}
	}
	return plain.May(e.Command, api.MaxEval) && (e.Pool == "" || name.May(e.Pool))
}
