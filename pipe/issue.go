package pipe

import (
	"hayloft/api"
	"hayloft/ops"
)

// issue does an operation with what registers and memory hold now; what comes of it lands in
// that cycle.
func (m *Machine) issue(o api.Op, lands int) {
	switch o.Do {
	case api.Nop:
	case api.Print:
		m.prints = append(m.prints, m.regs[o.A])
	case api.Store:
		m.flying.put(lands, flight{cell, m.cellOf(o), m.regs[o.B]})
	case api.Count:
		m.counter = less(m.regs[o.A], o.Imm)
	case api.Halt:
		panic(ended{api.OK, m.regs[o.A]})
	case api.Branch, api.Short, api.Again:
		if !m.turns(o) {
			break
		}
		fallthrough
	case api.Jump:
		// Whatever the class's latency is: turns have a time of their own.
		m.flying.put(m.steps+1+m.table.Delay, flight{where: place, value: o.Imm})
	default:
		m.flying.put(lands, flight{register, o.D, m.result(o)})
	}
}

// turns answers whether an operation that turns only sometimes does it now.
func (m *Machine) turns(o api.Op) bool {
	switch o.Do {
	case api.Branch:
		return m.regs[o.A] != 0
	case api.Short:
		return m.regs[o.A] < int64(o.B)
	}
	m.counter -= min(m.counter, 1)
	return m.counter > 0
}

// result answers what an operation's register becomes; where there is none the run ends.
func (m *Machine) result(o api.Op) int64 {
	switch o.Do {
	case api.Const:
		return o.Imm
	case api.Load:
		return m.mem[m.cellOf(o)]
	}
	value, e := ops.Reckon(o.Do, m.regs[o.A], m.regs[o.B])
	if e != api.OK {
		panic(ended{e: e})
	}
	return value
}

// cellOf answers which one a Load or a Store means: the sum's lowest bits are its number,
// whether the sum wraps round or not.
func (m *Machine) cellOf(o api.Op) uint8 { return uint8(m.regs[o.A] + o.Imm) }

// less answers a less b, or 0, if that is below 0. What is above 0 may be more than an int64
// holds, but is never more than a uint64 does.
func less(a, b int64) uint64 {
	if a < b {
		return 0
	}
	return uint64(a) - uint64(b)
}
