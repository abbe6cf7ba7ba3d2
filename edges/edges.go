// Package edges holds what the layers share about the edges that they take.
package edges

import (
	"slices"

	"crucible/api"
	"crucible/name"
	"crucible/paths"
	"crucible/plain"
)

// May: may the edge be (chapter 9), whichever pools there are?
func May(e api.Edge) bool {
	if len(e.Outs) == 0 || e.Command == "" {
		return false
	}
	for _, names := range [][]string{e.Outs, e.Ins, e.Implicit, e.Order} {
		if !paths.List(names) {
			return false
		}
	}
	return plain.May(e.Command, api.MaxEval) && (e.Pool == "" || name.May(e.Pool))
}

// Needs: which edges does each of them need (chapter 10)? Each is told once, and they rise.
func Needs(es []api.Edge) [][]int {
	needs := make([][]int, len(es))
	for i, e := range es {
		// An edge may take what it makes: then it needs itself.
		for j, maker := range es {
			if takesOf(e, maker.Outs) {
				needs[i] = append(needs[i], j)
			}
		}
	}
	return needs
}

// takesOf: does the edge take one of these?
func takesOf(e api.Edge, outs []string) bool {
	return slices.ContainsFunc(outs, func(out string) bool {
		return slices.Contains(e.Ins, out) || slices.Contains(e.Implicit, out) || slices.Contains(e.Order, out)
	})
}
