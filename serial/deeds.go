package serial

import (
	"hayloft/api"
	"hayloft/ops"
)

// deeds is all that steps can do: by an operation's kind, and by a block's end.
type deeds struct {
	ops  [api.Print + 1]operation
	ends [api.EndLoop + 1]end
}

// operation is what one of a kind does, in two parts: what is reckoned, which
// changes nothing, and what becomes of it.
type operation struct {
	value func(m *Machine, o api.Op) int64
	land  func(m *Machine, o api.Op, value int64)
}

// end is where a block's end turns to.
type end struct {
	turn func(m *Machine, b *api.Block)
}

func allDeeds() deeds {
	all := deeds{
		ops: [api.Print + 1]operation{
			api.Const: {(*Machine).number, (*Machine).toRegister},
			api.Load:  {(*Machine).loaded, (*Machine).toRegister},
			api.Store: {(*Machine).second, (*Machine).toCell},
			api.Print: {(*Machine).first, (*Machine).toPrints},
		},
		ends: [api.EndLoop + 1]end{
			api.EndJump:   {(*Machine).jump},
			api.EndBranch: {(*Machine).branch},
			api.EndHalt:   {(*Machine).halt},
			api.EndLoop:   {(*Machine).loop},
		},
	}
	for do := api.Add; do <= api.Rest; do++ {
		all.ops[do] = operation{(*Machine).reckoned, (*Machine).toRegister}
	}
	return all
}

func (m *Machine) number(o api.Op) int64 { return o.Imm }

func (m *Machine) first(o api.Op) int64 { return m.regs[o.A] }

func (m *Machine) second(o api.Op) int64 { return m.regs[o.B] }

func (m *Machine) loaded(o api.Op) int64 { return *m.cell(o) }

func (m *Machine) reckoned(o api.Op) int64 {
	value, e := ops.Reckon(o.Do, m.regs[o.A], m.regs[o.B])
	if e != api.OK {
		panic(trap{e})
	}
	return value
}

// cell is the one that a Load or a Store means: the sum's lowest bits are its
// number, whether the sum wraps round or not.
func (m *Machine) cell(o api.Op) *int64 { return &m.mem[uint8(m.regs[o.A]+o.Imm)] }

func (m *Machine) toRegister(o api.Op, value int64) { m.regs[o.D] = value }

func (m *Machine) toCell(o api.Op, value int64) { *m.cell(o) = value }

func (m *Machine) toPrints(_ api.Op, value int64) { m.prints = append(m.prints, value) }

func (m *Machine) jump(b *api.Block) { m.at = place{block: b.Then} }

func (m *Machine) branch(b *api.Block) {
	m.at = place{block: b.Else}
	if m.regs[b.A] != 0 {
		m.at = place{block: b.Then}
	}
}

func (m *Machine) halt(b *api.Block) { m.e, m.value = api.OK, m.regs[b.A] }

// loop begins another round, or goes away. From Ops it learns how many rounds
// there are, and nothing that the body writes changes that; from the body one is done.
func (m *Machine) loop(b *api.Block) {
	if m.at.body {
		m.rounds--
	} else {
		m.rounds = max(m.regs[b.A], 0)
	}
	if m.rounds > 0 {
		m.at = place{block: m.at.block, body: true}
	} else {
		m.at = place{block: b.Then}
	}
}
