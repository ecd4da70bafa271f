package ghost

import (
	"slices"

	"hayloft/api"
	"hayloft/bundle"
	"hayloft/ops"
	"hayloft/pipe"
)

// trace is a run gone over a second time. A machine does not tell which bundle it issues, but
// what its registers hold: what turns hang on, and so which bundle comes.
type trace struct {
	slots   [][]api.Op // each bundle's operations, in the order in which they are issued
	silent  *pipe.Machine
	delay   int
	at      int
	counter uint64      // of all that is not above 0 it holds 0, as that never turns
	turns   map[int]int // by cycles, where the last turn goes that is done in it
}

// newTrace answers a trace that stands ahead of the cycle 0, of bundles and a state that were let in.
func newTrace(bundles []api.Bundle, t api.Table, s api.State) *trace {
	words, _ := bundle.Encode(withoutPrints(bundles), t)
	silent, _ := pipe.New(words, t, s)
	r := &trace{silent: silent, delay: t.Delay, turns: map[int]int{}}
	for _, b := range bundles {
		r.slots = append(r.slots, slices.Concat(b.Ops[:]...))
	}
	return r
}

// withoutPrints answers bundles by which a machine does the same but prints nothing: one that is
// asked cycle by cycle tells each time all that it has printed so far.
func withoutPrints(bundles []api.Bundle) []api.Bundle {
	list := slices.Clone(bundles)
	for n, b := range list {
		list[n].Ops[api.Mem] = slices.DeleteFunc(slices.Clone(b.Ops[api.Mem]), func(o api.Op) bool { return o.Do == api.Print })
	}
	return list
}

// tagged answers whether each bundle has as many tags as operations.
func (r *trace) tagged(tags [][]api.Tag) bool {
	return slices.EqualFunc(r.slots, tags, func(slots []api.Op, row []api.Tag) bool { return len(slots) == len(row) })
}

// issues answers what is issued in a run of which it is known how many cycles it has.
func (r *trace) issues(cycles int, tags [][]api.Tag) []api.Issue {
	var list []api.Issue
	for cycle := range cycles {
		r.land(cycle)
		regs := r.read()
		for n, o := range r.slots[r.at] {
			list = append(list, api.Issue{Cycle: cycle, At: r.at, Op: o, Tag: tags[r.at][n]})
			if ends(o, regs) {
				return list
			}
			if r.turned(o, regs) {
				r.turns[cycle+1+r.delay] = int(o.Imm)
			}
		}
		r.at++
	}
	return list
}

// land lets a turn that is done in this cycle say which bundle comes.
func (r *trace) land(cycle int) {
	if to, ok := r.turns[cycle]; ok {
		r.at = to
		delete(r.turns, cycle)
	}
}

// read answers what the operations of this cycle read: what they issue lands in later cycles, so
// that behind this one the registers still are as they found them.
func (r *trace) read() []int64 {
	r.silent.Run(1)
	return r.silent.State().Regs
}

// ends answers whether the run ends by an operation.
func ends(o api.Op, regs []int64) bool {
	switch o.Do {
	case api.Halt:
		return true
	case api.Divide, api.Rest:
		_, e := ops.Reckon(o.Do, regs[o.A], regs[o.B])
		return e != api.OK
	}
	return false
}

// turned answers whether an operation turns now; it keeps the counter, on which that may hang.
func (r *trace) turned(o api.Op, regs []int64) bool {
	switch o.Do {
	case api.Jump:
		return true
	case api.Branch:
		return regs[o.A] != 0
	case api.Short:
		return regs[o.A] < int64(o.B)
	case api.Count:
		r.counter = less(regs[o.A], o.Imm)
	case api.Again:
		r.counter -= min(r.counter, 1)
		return r.counter > 0
	}
	return false
}

// less answers a less b, or 0, if that is below 0. What is above 0 may be more than an int64
// holds, but is never more than a uint64 does.
func less(a, b int64) uint64 {
	if a < b {
		return 0
	}
	return uint64(a) - uint64(b)
}
