// Package founds holds what the layers share about what commands told that they read.
package founds

import (
	"crucible/api"
	"crucible/paths"
)

// May: may the found be (chapter 15)?
func May(f api.Found) bool {
	return paths.May(f.Out) && 1 <= f.Time && f.Time <= api.MaxTime && paths.List(f.Ins)
}
