package delay

import "hayloft/api"

// asks is what a block's end asks.
type asks struct {
	lead    int                // how long a unit of Ctl may be busy yet for the end of the block ahead
	drained int                // the cycle in which the block is drained
	results int                // the cycle in which all results have landed
	landed  [api.Registers]int // the cycle in which each register has
}

// asksOf answers what the end behind operations asks, of cycles that list.Check takes.
func asksOf(l []api.Op, t api.Table, cycles []int) asks {
	// A turn keeps a unit busy from its own cycle on, and a block begins 1 + Delay behind that.
	a := asks{lead: max(0, t.Busy[api.Ctl]-1-t.Delay)}
	a.drained, a.results, a.landed = passed(l, t, cycles)
	return a
}

// passed answers in which cycles the operations are drained, all have landed, and each register
// has: one that is written more than once as its last operation says.
func passed(l []api.Op, t api.Table, cycles []int) (drained, results int, landed [api.Registers]int) {
	for n, o := range l {
		class := classOf(o)
		lands, free := cycles[n]+t.Lat[class], cycles[n]+t.Busy[class]
		drained, results = max(drained, lands, free), max(results, lands)
		if writes(o) {
			landed[o.D] = lands
		}
	}
	return drained, results, landed
}

// writes answers whether an operation that stands in a list writes a register. The map of the
// layers does not let this one call ops, and so this and the classes are told here again.
func writes(o api.Op) bool { return o.Do <= api.Load }

func classOf(o api.Op) int {
	switch {
	case o.Do >= api.Load:
		return api.Mem
	case o.Do >= api.Times:
		return api.Mul
	}
	return api.Alu
}
