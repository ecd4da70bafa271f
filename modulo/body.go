package modulo

import "hayloft/api"

// body is a body for which a plan is looked for, with what the layers below tell of it.
// They have let it in.
type body struct {
	l       []api.Op
	t       api.Table
	edges   []api.Edge
	cycles  []int // list.Cycles'
	drained int   // the drained length
}

func newBody(l []api.Op, t api.Table, cycles []int) *body {
	b := &body{l: l, t: t, edges: edgesOf(l, t), cycles: cycles, drained: max(1+t.Delay, t.Busy[api.Ctl])}
	for n, o := range l {
		class := classOf(o)
		b.drained = max(b.drained, cycles[n]+max(t.Lat[class], t.Busy[class]))
	}
	return b
}

// firstPlan answers the first plan that goes, by rising Every from the least on.
func (b *body) firstPlan(least int) api.Plan {
	for every := least; every < b.drained; every++ {
		for _, try := range b.tries(every) {
			if cycles, goes := try(); goes {
				return planOf(cycles, every)
			}
		}
	}
	return planOf(b.cycles, b.drained) // this one always goes (P16.3)
}

// tries are the ways to a plan of that Every, the cheaper one first.
func (b *body) tries(every int) []func() (cycles []int, goes bool) {
	return []func() ([]int, bool){
		func() ([]int, bool) { return b.cycles, b.keeps(planOf(b.cycles, every)) },
		func() ([]int, bool) { return newSearch(b, every).run() },
	}
}

// keeps answers whether a plan keeps the rounds, and has no more stages than may be.
func (b *body) keeps(p api.Plan) bool {
	return p.Stages <= mostStages && keepEdges(p, b.edges) && keepUnits(p, b.l, b.t)
}
