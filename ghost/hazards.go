package ghost

import (
	"cmp"
	"maps"
	"slices"

	"hayloft/api"
	"hayloft/ops"
)

// landing is a register and the cycle in which something lands in it.
type landing struct {
	register uint8
	cycle    int
}

// flights is what is in flight: how many issues, by where and when they land.
type flights map[landing]int

// Hazards answers how many pairs of issues there are of which the later one reads what the other
// one has in flight, or that do not write a register in their order (P23.3).
func Hazards(l []api.Issue, t api.Table) int {
	if !timely(l, t) {
		return 0
	}
	f, sum := flights{}, 0
	eachCycle(l, func(cycle int, issues []api.Issue) {
		f.land(cycle)
		// Reads come first: a write that is issued in the same cycle is none that they come ahead of.
		for _, i := range issues {
			for _, register := range ops.Reads(i.Op) {
				sum += f.from(landing{register, cycle + 1})
			}
		}
		for _, w := range landings(issues, t) {
			sum += f.from(w)
			f[w]++
		}
	})
	return sum
}

// eachCycle hands on the issues of each cycle, by rising cycles.
func eachCycle(l []api.Issue, hand func(cycle int, issues []api.Issue)) {
	l = slices.Clone(l)
	slices.SortFunc(l, func(a, b api.Issue) int { return cmp.Compare(a.Cycle, b.Cycle) })
	for len(l) > 0 {
		cycle, n := l[0].Cycle, 1
		for n < len(l) && l[n].Cycle == cycle {
			n++
		}
		hand(cycle, l[:n])
		l = l[n:]
	}
}

// landings answers what is written by issues, by rising cycles: so that of two that are issued
// together the second one meets the first one where they land together, and nowhere else.
func landings(issues []api.Issue, t api.Table) []landing {
	var list []landing
	for _, i := range issues {
		if register, ok := ops.Writes(i.Op); ok {
			class, _ := ops.Class(i.Op.Do)
			list = append(list, landing{register, i.Cycle + t.Lat[class]})
		}
	}
	slices.SortFunc(list, func(a, b landing) int { return cmp.Compare(a.cycle, b.cycle) })
	return list
}

// land takes out what has landed in a cycle.
func (f flights) land(cycle int) {
	maps.DeleteFunc(f, func(at landing, _ int) bool { return at.cycle <= cycle })
}

// from answers how many of those to a register land in a cycle or later.
func (f flights) from(first landing) int {
	sum := 0
	for later := range api.MaxLatency {
		sum += f[landing{first.register, first.cycle + later}]
	}
	return sum
}
