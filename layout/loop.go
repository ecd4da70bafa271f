package layout

import (
	"hayloft/api"
	"hayloft/delay"
	"hayloft/list"
	"hayloft/modulo"
	"hayloft/rounds"
)

// layLoop lays a loop that was let in, and answers what has grown.
func layLoop(b api.Block, g *growth) *growth {
	g.layOps(b.Ops)
	g.issue(short(b.A, 1, b.Then))
	plan := g.planOf(b.Body)
	overlaps := plan.Stages > 1
	fork := len(g.bundles)
	if overlaps {
		g.fill(fork + g.gap) // who turns there to the slow way is put in when that begins
	}
	g.issue(count(b.A, plan.Stages-1))
	lay := g.laying(b.Body, true)
	first, kernel, last := partsOf(plan)
	lay(first)
	from := lay(kernel)
	again := g.turnBack(from)
	lay(last)
	// The last round begins with the kernel's first bundle, however often the kernel is done.
	g.fill(max(from+drained(b.Body, g.table, plan.Cycles), again+g.gap))
	g.leave(b.Then)
	if overlaps {
		g.putOwn(fork, short(b.A, plan.Stages, within(len(g.bundles))))
		g.laySlow(b, lay)
	}
	return g
}

// layOps lays what is done ahead of the rounds, and waits as long as a unit of Ctl may be busy
// for who turned here.
func (g *growth) layOps(l []api.Op) {
	cycles, _ := list.Cycles(l, g.table)
	g.laying(l, false)(rowsOf(cycles, drained(l, g.table, cycles)))
	g.fill(lead(g.table))
}

// laySlow lays the rounds of which so few are done that they can't overlap: one behind the other.
func (g *growth) laySlow(b api.Block, lay func(rows [][]api.Slot) int) {
	g.fill(len(g.bundles) + lead(g.table))
	g.issue(count(b.A, 0))
	one := g.planOfOne(b.Body)
	again := g.turnBack(lay(rowsOf(one.Cycles, one.Every)))
	g.fill(again + g.gap)
	g.leave(b.Then)
}

// turnBack lets the bundles from one on, up to the last, be done again, and answers where it is
// turned.
func (g *growth) turnBack(from int) int {
	again := len(g.bundles) - 1 - g.table.Delay
	g.putOwn(again, api.Op{Do: api.Again, Imm: int64(within(from))})
	return again
}

// planOf answers the plan of a body that was let in.
func (g *growth) planOf(body []api.Op) api.Plan {
	if len(body) > api.MaxBody {
		return g.planOfOne(body)
	}
	plan, _ := modulo.Find(body, g.table)
	return plan
}

// planOfOne answers the plan in which a round begins where the one ahead is drained.
func (g *growth) planOfOne(body []api.Op) api.Plan {
	cycles, _ := list.Cycles(body, g.table)
	return api.Plan{Every: max(g.gap, drained(body, g.table, cycles)), Cycles: cycles, Stages: 1}
}

// partsOf answers a plan's rows. One of one stage may have more operations than rounds takes,
// and needs it not: it is all kernel.
func partsOf(plan api.Plan) (first, kernel, last [][]api.Slot) {
	if plan.Stages == 1 {
		return nil, rowsOf(plan.Cycles, plan.Every), nil
	}
	first, kernel, last, _ = rounds.Parts(plan)
	return first, kernel, last
}

// rowsOf answers as many rows, with each operation in that of its cycle.
func rowsOf(cycles []int, length int) [][]api.Slot {
	rows := make([][]api.Slot, length)
	for op, cycle := range cycles {
		rows[cycle] = append(rows[cycle], api.Slot{Op: op})
	}
	return rows
}

// drained answers the cycle in which operations are drained: the length of a block of theirs
// that ends in a loop.
func drained(l []api.Op, t api.Table, cycles []int) int {
	_, length, _ := delay.End(api.Block{Ops: l, End: api.EndLoop}, t, cycles)
	return length
}

// lead answers the chapter's W: in which cycle a block without operations issues its jump.
func lead(t api.Table) int {
	at, _, _ := delay.End(api.Block{}, t, nil)
	return at
}

// within answers the turn to a bundle of the list itself: below 0, so that it is no block.
func within(bundle int) int {
	return -1 - bundle
}

func short(a uint8, below, to int) api.Op {
	return api.Op{Do: api.Short, A: a, B: uint8(below), Imm: int64(to)}
}

func count(a uint8, less int) api.Op {
	return api.Op{Do: api.Count, A: a, Imm: int64(less)}
}
