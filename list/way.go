package list

import (
	"slices"

	"hayloft/api"
	"hayloft/deps"
	"hayloft/reserve"
)

// way is how far the list's way has come.
type way struct {
	l      []api.Op
	units  *reserve.Table
	cycles []int        // of those that are placed
	after  [][]api.Edge // the edges from each operation
	waits  []int        // how many edges to each operation come from one that is not placed
	first  []int        // the cycle from which on the other edges to it let it in
}

// newWay answers the list's way ahead of its first step: nothing is placed. What is
// handed in is what height.Order has let in, so that nobody refuses it here.
func newWay(l []api.Op, t api.Table) *way {
	edges, _ := deps.Of(l, t)
	units, _ := reserve.New(t)
	w := &way{l: l, units: units}
	w.cycles, w.waits, w.first = make([]int, len(l)), make([]int, len(l)), make([]int, len(l))
	w.after = make([][]api.Edge, len(l))
	for _, d := range edges {
		w.after[d.From] = append(w.after[d.From], d)
		w.waits[d.To]++
	}
	return w
}

// placeAll places all that is left, which stands in height.Order.
func (w *way) placeAll(left []int) {
	ready, free := w.ready, w.units.Free
	for cycle := 0; len(left) > 0; cycle++ {
	next:
		for at, n := range left {
			if ready(n, cycle) && free(classOf(w.l[n]), cycle) {
				w.place(n, cycle)
				left = slices.Delete(left, at, at+1)
				goto next
			}
		}
	}
}

// ready answers whether the edges let an operation into a cycle.
func (w *way) ready(n, cycle int) bool { return w.waits[n] == 0 && w.first[n] <= cycle }

// place puts an operation into a cycle, and tells it to those that wait for it: they are
// asked in each cycle anew, and then need not go over all their edges.
func (w *way) place(n, cycle int) {
	w.cycles[n] = cycle
	w.units.Take(classOf(w.l[n]), cycle)
	for _, d := range w.after[n] {
		w.waits[d.To]--
		w.first[d.To] = max(w.first[d.To], cycle+d.Lat)
	}
}
