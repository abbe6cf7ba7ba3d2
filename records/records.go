// Package records holds what the layers share about the log's records.
package records

import (
	"crucible/api"
	"crucible/paths"
	"crucible/plain"
)

// May: may the record be (chapter 13)?
func May(r api.Record) bool {
	return paths.May(r.Out) && 1 <= r.Time && r.Time <= api.MaxTime && r.Sign != "" && plain.May(r.Sign, api.MaxText)
}
