package ghost

import (
	"slices"

	"hayloft/api"
	"hayloft/ops"
	"hayloft/table"
)

// using is a class and a cycle in which units of it are busy.
type using struct{ class, cycle int }

// Busy answers whether in no cycle more operations of a class are busy than there are units (P23.2).
func Busy(l []api.Issue, t api.Table) bool {
	if !timely(l, t) {
		return false
	}
	busy := map[using]int{}
	return !slices.ContainsFunc(l, func(i api.Issue) bool {
		class, ok := ops.Class(i.Op.Do)
		if !ok {
			return false // it needs none
		}
		for later := range t.Busy[class] {
			at := using{class, i.Cycle + later}
			if busy[at]++; busy[at] > t.Units[class] {
				return true
			}
		}
		return false
	})
}

// timely answers whether the table is one, and each issue has a cycle of a run. The map of the
// layers names neither table nor ops among those that this one calls, but its chapter does.
func timely(l []api.Issue, t api.Table) bool {
	return table.Check(t) == api.OK && !slices.ContainsFunc(l, func(i api.Issue) bool {
		return i.Cycle < 0 || i.Cycle > api.MaxSteps
	})
}
