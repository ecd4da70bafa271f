package pack

import (
	"hayloft/api"
	"hayloft/delay"
	"hayloft/layout"
)

// laid is a block as bundles, with what their operations stand for in the program as it was
// handed in.
type laid struct {
	bundles []api.Bundle
	tags    [][]api.Tag
}

func (l laid) longer(than laid) bool {
	return len(l.bundles) > len(than.bundles)
}

// draft is a program on its way to words.
type draft struct {
	program api.Program
	table   api.Table
	lent    []int // how many of its first operations a block has lent to the one ahead of it, where they are done early
	laid    []laid
}

// newDraft answers a program that was let in, all its blocks laid, and nothing done early.
func newDraft(p api.Program, t api.Table) *draft {
	d := &draft{program: p, table: t, lent: make([]int, len(p.Blocks)), laid: make([]laid, len(p.Blocks))}
	for block := range p.Blocks {
		d.laid[block] = d.lay(block)
	}
	return d
}

// lendAll does those operations early that make neither their block nor the one ahead of it longer.
// Where none of both gets shorter, there is more room in the lender then, for what it may borrow.
func (d *draft) lendAll() {
	for block, b := range d.program.Blocks {
		if b.End != api.EndBranch {
			continue // and spare looking through the whole program
		}
		// The map of the layers does not name delay among those that this one calls, but nobody
		// else tells what could be done early.
		for n := range delay.Early(d.program, block) {
			d.tryLending(block, b.Then, n+1)
		}
	}
}

// tryLending lets a block lend so many operations to the one ahead of it, if none of both gets longer.
func (d *draft) tryLending(ahead, from, count int) {
	before := d.lent[from]
	d.lent[from] = count
	borrower, lender := d.lay(ahead), d.lay(from)
	if borrower.longer(d.laid[ahead]) || lender.longer(d.laid[from]) {
		d.lent[from] = before
		return
	}
	d.laid[ahead], d.laid[from] = borrower, lender
}

// lay answers a block's bundles, with what is done early in its place.
func (d *draft) lay(block int) laid {
	moved := d.moved()
	var l laid
	if b := moved.Blocks[block]; b.End == api.EndLoop {
		l.bundles, l.tags, _ = layout.Loop(b, block, d.table)
	} else {
		l.bundles, l.tags, _ = layout.Block(moved, block, d.table)
	}
	for _, row := range l.tags {
		for n, tag := range row {
			row[n] = d.origin(tag)
		}
	}
	return l
}

// moved answers the program in which what is lent stands where it is done: no operation more or
// less in all, so that it is a program wherever the one that was handed in is.
func (d *draft) moved() api.Program {
	moved := api.Program{Blocks: make([]api.Block, len(d.program.Blocks))}
	for n, b := range d.program.Blocks {
		end := len(b.Ops)
		// Cut at its end, so that what is borrowed is not written behind the caller's list.
		b.Ops = append(b.Ops[d.lent[n]:end:end], d.borrowed(b)...)
		moved.Blocks[n] = b
	}
	return moved
}

// borrowed answers the operations that a block does for its Then: who has lent some has no other
// block ahead of it. (The Then of a halt is block 0, and that lends none.)
func (d *draft) borrowed(b api.Block) []api.Op {
	return d.program.Blocks[b.Then].Ops[:d.lent[b.Then]]
}

// origin answers what a tag of the moved program stands for in the one that was handed in.
func (d *draft) origin(tag api.Tag) api.Tag {
	if tag.Loop || tag.Op < 0 {
		return tag
	}
	b := d.program.Blocks[tag.Block]
	tag.Op += d.lent[tag.Block]
	if own := len(b.Ops); tag.Op >= own {
		return api.Tag{Block: b.Then, Op: tag.Op - own, Spec: true}
	}
	return tag
}
