package delay

import (
	"slices"

	"hayloft/api"
	"hayloft/flow"
	"hayloft/live"
)

// mostEarly is how many operations of the next block may come ahead.
const mostEarly = 2

// Early answers the first operations of a branch's Then that could as well be done ahead of the
// branch, whichever way it goes (P18.2).
func Early(p api.Program, block int) []int {
	in := live.In(p) // a set for each block of a program; none of what is no program
	if block < 0 || block >= len(in) || !leadsAlone(p, block) {
		return nil
	}
	b := p.Blocks[block]
	kept := in[b.Else] | 1<<b.A
	next := p.Blocks[b.Then].Ops
	var early []int
	for n, o := range next[:min(len(next), mostEarly)] {
		if !harmless(o, kept) {
			break
		}
		early = append(early, n)
	}
	return early
}

// leadsAlone answers whether a block of a program ends with a branch to a Then to which one comes
// from nowhere else: not from another block, not at the program's beginning, not by both its ways.
func leadsAlone(p api.Program, block int) bool {
	b := p.Blocks[block]
	if b.End != api.EndBranch || b.Then == 0 || b.Then == b.Else || b.Then == block {
		return false
	}
	return slices.Equal(flow.Ahead(p, b.Then), []int{block})
}

// harmless answers whether an operation of a program does nothing but write a register that is
// not kept. All kinds up to Times write one, and can neither trap nor be seen from without.
func harmless(o api.Op, kept uint32) bool {
	return o.Do <= api.Times && kept&(1<<o.D) == 0
}
