package layout

import (
	"cmp"
	"math/rand"
	"slices"
	"testing"

	"hayloft/api"
	"hayloft/bundle"
	"hayloft/list"
	"hayloft/modulo"
	"hayloft/ops"
	"hayloft/program"
	"hayloft/table"
)

// item is an operation that stands in a bundle of a telling.
type item struct {
	at, class int
	o         api.Op
	tag       api.Tag
}

// telling is the chapter's words told a second time: what stands in which bundle, in whatever order it is found.
type telling struct {
	block, n int
	m        api.Table
	items    []item
}

func (d *telling) own(at int, o api.Op) {
	d.items = append(d.items, item{at, api.Ctl, o, api.Tag{Block: d.block, Op: -1}})
}

func (d *telling) lay(l []api.Op, loop bool, number, at int) {
	class, _ := ops.Class(l[number].Do)
	d.items = append(d.items, item{at, class, l[number], api.Tag{Block: d.block, Loop: loop, Op: number}})
}

// gap is the chapter's G.
func (d *telling) gap() int {
	if d.m.Busy[api.Ctl] > 1+d.m.Delay {
		return d.m.Busy[api.Ctl]
	}
	return 1 + d.m.Delay
}

// lead is the chapter's W.
func (d *telling) lead() int { return d.gap() - 1 - d.m.Delay }

// behind answers the cycle in which all of these have landed and are no longer busy.
func (d *telling) behind(l []api.Op, cycles []int) int {
	last := 0
	for n, o := range l {
		class, _ := ops.Class(o.Do)
		last = max(last, cycles[n]+d.m.Lat[class], cycles[n]+d.m.Busy[class])
	}
	return last
}

// spread hands out the bundles and the tags.
func (d *telling) spread() ([]api.Bundle, [][]api.Tag) {
	slices.SortFunc(d.items, func(a, b item) int {
		return cmp.Or(a.at-b.at, a.class-b.class, a.tag.Op-b.tag.Op)
	})
	bundles, tags := make([]api.Bundle, d.n), make([][]api.Tag, d.n)
	for _, i := range d.items {
		bundles[i.at].Ops[i.class] = append(bundles[i.at].Ops[i.class], i.o)
		tags[i.at] = append(tags[i.at], i.tag)
	}
	return bundles, tags
}

// cyclesTold answers the cycles of operations that were let in.
func cyclesTold(t testing.TB, l []api.Op, m api.Table) []int {
	t.Helper()
	cycles, e := list.Cycles(l, m)
	if e != api.OK {
		t.Fatal(l, m, e)
	}
	return cycles
}

// endTold answers the cycle in which the block's end is issued, by chapter 18's table.
func (d *telling) endTold(b api.Block, cycles []int) int {
	at := d.lead()
	for n, o := range b.Ops {
		class, _ := ops.Class(o.Do)
		to, writes := ops.Writes(o)
		if b.End == api.EndHalt || b.End == api.EndBranch && writes && to == b.A {
			at = max(at, cycles[n]+d.m.Lat[class])
		}
	}
	if b.End != api.EndHalt {
		at = max(at, d.behind(b.Ops, cycles)-1-d.m.Delay)
	}
	return at
}

// blockTold is P20.1's words told a second time.
func blockTold(t testing.TB, p api.Program, block int, m api.Table) ([]api.Bundle, [][]api.Tag, api.Errno) {
	t.Helper()
	if e := program.Needs(p, m); e != api.OK {
		return nil, nil, e
	}
	if block < 0 || block > len(p.Blocks)-1 {
		return nil, nil, api.ErrNone
	}
	b, d := p.Blocks[block], &telling{block: block, m: m}
	if b.End == api.EndLoop {
		return nil, nil, api.ErrArg
	}
	cycles := cyclesTold(t, b.Ops, m)
	for n := range b.Ops {
		d.lay(b.Ops, false, n, cycles[n])
	}
	at := d.endTold(b, cycles)
	switch b.End {
	case api.EndJump:
		d.own(at, api.Op{Do: api.Jump, Imm: int64(b.Then)})
		d.n = at + 1 + m.Delay
	case api.EndBranch:
		d.own(at, api.Op{Do: api.Branch, A: b.A, Imm: int64(b.Then)})
		d.own(at+d.gap(), api.Op{Do: api.Jump, Imm: int64(b.Else)})
		d.n = at + d.gap() + 1 + m.Delay
	case api.EndHalt:
		d.own(at, api.Op{Do: api.Halt, A: b.A})
		d.n = at + 1
	}
	bundles, tags := d.spread()
	return bundles, tags, api.OK
}

// refusedTold is P20.2's errors told a second time.
func refusedTold(b api.Block, m api.Table) api.Errno {
	if b.End != 3 || b.A > 31 {
		return api.ErrArg
	}
	if e := table.Check(m); e != api.OK {
		return e
	}
	all := slices.Concat(b.Ops, b.Body)
	if len(all) > 1023 {
		return api.ErrLong
	}
	for _, o := range all {
		if ops.Check(o) != api.OK || o.Do < api.Const || o.Do > api.Print {
			return api.ErrOp
		}
	}
	for _, o := range all {
		if class, _ := ops.Class(o.Do); m.Units[class] < 1 {
			return api.ErrNoUnit
		}
	}
	if m.Units[api.Ctl] < 1 {
		return api.ErrNoUnit
	}
	return api.OK
}

// planTold answers the plan of a body that was let in, and its drained length and cycles.
func (d *telling) planTold(t testing.TB, body []api.Op) (plan api.Plan, drained int, cycles []int) {
	t.Helper()
	cycles = cyclesTold(t, body, d.m)
	drained = max(d.gap(), d.behind(body, cycles))
	if len(body) > 64 {
		return api.Plan{Every: drained, Cycles: cycles, Stages: 1}, drained, cycles
	}
	plan, e := modulo.Find(body, d.m)
	if e != api.OK {
		t.Fatal(body, d.m, e)
	}
	return plan, drained, cycles
}

// loopTold is P20.2's words told a second time; the rounds are told one by one, not by their parts.
func loopTold(t testing.TB, b api.Block, block int, m api.Table) ([]api.Bundle, [][]api.Tag, api.Errno) {
	t.Helper()
	if e := refusedTold(b, m); e != api.OK {
		return nil, nil, e
	}
	d := &telling{block: block, m: m}
	ahead := cyclesTold(t, b.Ops, m)
	for n := range b.Ops {
		d.lay(b.Ops, false, n, ahead[n])
	}
	d.n = max(d.behind(b.Ops, ahead), d.lead())
	d.own(d.n, api.Op{Do: api.Short, A: b.A, B: 1, Imm: int64(b.Then)})
	d.n += d.gap()
	plan, drained, cycles := d.planTold(t, b.Body)
	fork := d.n
	if plan.Stages > 1 {
		d.n += d.gap()
	}
	d.own(d.n, api.Op{Do: api.Count, A: b.A, Imm: int64(plan.Stages - 1)})
	d.n += d.gap()
	begin, kernel := d.n, d.n+(plan.Stages-1)*plan.Every
	for round := range plan.Stages {
		for n := range b.Body {
			d.lay(b.Body, true, n, begin+round*plan.Every+plan.Cycles[n])
		}
	}
	again := kernel + plan.Every - 1 - m.Delay
	d.own(again, api.Op{Do: api.Again, Imm: int64(-kernel - 1)})
	d.n = max(begin+(2*plan.Stages-1)*plan.Every, kernel+d.behind(b.Body, plan.Cycles), again+d.gap())
	d.own(d.n, api.Op{Do: api.Jump, Imm: int64(b.Then)})
	d.n += 1 + m.Delay
	if plan.Stages > 1 {
		d.own(fork, api.Op{Do: api.Short, A: b.A, B: uint8(plan.Stages), Imm: int64(-d.n - 1)})
		d.slowTold(b, cycles, drained)
	}
	bundles, tags := d.spread()
	return bundles, tags, api.OK
}

func (d *telling) slowTold(b api.Block, cycles []int, drained int) {
	d.n += d.lead()
	d.own(d.n, api.Op{Do: api.Count, A: b.A})
	d.n += d.gap()
	for n := range b.Body {
		d.lay(b.Body, true, n, d.n+cycles[n])
	}
	again := d.n + drained - 1 - d.m.Delay
	d.own(again, api.Op{Do: api.Again, Imm: int64(-d.n - 1)})
	d.n = max(d.n+drained, again+d.gap())
	d.own(d.n, api.Op{Do: api.Jump, Imm: int64(b.Then)})
	d.n += 1 + d.m.Delay
}

// sameBundles answers whether they are the same; an empty list is one without operations.
func sameBundles(a, b []api.Bundle) bool {
	return slices.EqualFunc(a, b, func(x, y api.Bundle) bool {
		for class := range x.Ops {
			if !slices.Equal(x.Ops[class], y.Ops[class]) {
				return false
			}
		}
		return true
	})
}

func sameTags(a, b [][]api.Tag) bool { return slices.EqualFunc(a, b, slices.Equal[[]api.Tag]) }

// wantBlockTold says that Block answers what is told a second time, and hands it out.
func wantBlockTold(t testing.TB, p api.Program, block int, m api.Table) ([]api.Bundle, [][]api.Tag, api.Errno) {
	t.Helper()
	l, tags, e := Block(p, block, m)
	bundles, others, want := blockTold(t, p, block, m)
	if e != want || !sameBundles(l, bundles) || !sameTags(tags, others) {
		t.Fatalf("Block(%v, %d, %v) is %v, %v, %v, want %v, %v, %v", p, block, m, l, tags, e, bundles, others, want)
	}
	if e != api.OK && (l != nil || tags != nil) {
		t.Fatalf("Block(%v, %d, %v) is %v, %v beside %v", p, block, m, l, tags, e)
	}
	return l, tags, e
}

// wantLoopTold says that Loop answers what is told a second time, and hands it out.
func wantLoopTold(t testing.TB, b api.Block, block int, m api.Table) ([]api.Bundle, [][]api.Tag, api.Errno) {
	t.Helper()
	l, tags, e := Loop(b, block, m)
	bundles, others, want := loopTold(t, b, block, m)
	if e != want || !sameBundles(l, bundles) || !sameTags(tags, others) {
		t.Fatalf("Loop(%v, %d, %v) is %v, %v, %v, want %v, %v, %v", b, block, m, l, tags, e, bundles, others, want)
	}
	if e != api.OK && (l != nil || tags != nil) {
		t.Fatalf("Loop(%v, %d, %v) is %v, %v beside %v", b, block, m, l, tags, e)
	}
	return l, tags, e
}

// opOf answers an operation of that kind, with those of the fields that count with it.
func opOf(do int8, d, a, b uint8, imm int64) api.Op {
	switch do {
	case api.Const:
		return consts(d, imm)
	case api.Move:
		return api.Op{Do: do, D: d, A: a}
	case api.Load:
		return loads(d, a, imm)
	case api.Store:
		return stores(a, b, imm)
	case api.Print:
		return prints(a)
	}
	return api.Op{Do: do, D: d, A: a, B: b}
}

// chanceOp answers an operation of a program that has as many registers, of few cells.
func chanceOp(r *rand.Rand, registers int) api.Op {
	register := func() uint8 { return uint8(r.Intn(registers)) }
	imm := int64(r.Intn(9) - 2)
	do := api.Const + r.Intn(api.Print+2)
	if do > api.Print { // more of these than of others
		do = api.Load + do%2
	}
	if do >= api.Load {
		imm += 256 * int64(r.Intn(3)-1)
	}
	return opOf(int8(do), register(), register(), register(), imm)
}

// chanceList answers at most as many operations.
func chanceList(r *rand.Rand, registers, most int) []api.Op {
	var l []api.Op
	for range r.Intn(most + 1) {
		l = append(l, chanceOp(r, registers))
	}
	return l
}

// chanceTable answers a table that has a unit of each class; half of the time few.
func chanceTable(r *rand.Rand) api.Table {
	m := api.Table{Delay: r.Intn(api.MaxDelay + 1)}
	most := 1 + r.Intn(api.MaxUnits)
	if r.Intn(2) == 0 {
		most = 1
	}
	for class := range api.Classes {
		m.Units[class], m.Lat[class], m.Busy[class] = 1+r.Intn(most), 1+r.Intn(api.MaxLatency), 1+r.Intn(api.MaxBusy)
	}
	return m
}

// chanceBlock answers a block of a program that has as many, of any end.
func chanceBlock(r *rand.Rand, blocks, most int) api.Block {
	registers := 1 + r.Intn(8)
	if r.Intn(2) == 0 {
		registers = api.Registers
	}
	l, a, then := chanceList(r, registers, most), uint8(r.Intn(registers)), r.Intn(blocks)
	switch r.Intn(4) {
	case api.EndJump:
		return with(jumps(then), l...)
	case api.EndBranch:
		return with(branches(a, then, r.Intn(blocks)), l...)
	case api.EndHalt:
		return with(halts(a), l...)
	}
	return with(loops(a, then, chanceList(r, registers, most)...), l...)
}

func chanceProgram(r *rand.Rand, most int) api.Program {
	var p api.Program
	blocks := 1 + r.Intn(4)
	for range blocks {
		p.Blocks = append(p.Blocks, chanceBlock(r, blocks, most))
	}
	return p
}

// turnsOf says of P20.4 that each turn is to a block below blocks or to a bundle of the list, with Delay bundles behind
// it; and of P20.3 that each bundle is well formed, with a tag for each operation, by the words on their order.
func turnsOf(t testing.TB, l []api.Bundle, tags [][]api.Tag, m api.Table, blocks int) {
	t.Helper()
	for n, b := range l {
		if e := bundle.Check(b, m); e != api.OK {
			t.Fatalf("%v: %v: %v", m, b, e)
		}
		if len(b.Ops[api.Ctl]) > 1 {
			t.Fatalf("%v: two of Ctl in %v", m, b)
		}
		at := 0
		for class, row := range b.Ops {
			for k := range row {
				tag := tags[n][at]
				if (tag.Op < 0) != (class == api.Ctl) || k > 0 && tags[n][at-1].Op >= tag.Op {
					t.Fatalf("%v: %v with %v", m, b, tags[n])
				}
				at++
			}
		}
		for _, o := range b.Ops[api.Ctl] {
			switch o.Do {
			case api.Jump, api.Branch, api.Short, api.Again:
				if o.Imm >= int64(blocks) || -1-o.Imm >= int64(len(l)) || n+m.Delay >= len(l) {
					t.Fatalf("%v: %v in the bundle %d of %d", m, o, n, len(l))
				}
			}
		}
	}
}

// taken counts the units that are busy in each cycle.
type taken [api.Classes]map[int]int

func (k *taken) take(t testing.TB, m api.Table, class, cycle int) {
	t.Helper()
	if k[class] == nil {
		k[class] = map[int]int{}
	}
	for n := range m.Busy[class] {
		if k[class][cycle+n]++; k[class][cycle+n] > m.Units[class] {
			t.Fatalf("%v: too many of class %d in cycle %d", m, class, cycle+n)
		}
	}
}

// drainedBy says that in that cycle no unit is busy but Ctl's, and those for less than the lead.
func (k *taken) drainedBy(t testing.TB, m api.Table, cycle int) {
	t.Helper()
	for class, cycles := range k {
		from := cycle
		if class == api.Ctl {
			from += max(0, m.Busy[api.Ctl]-1-m.Delay)
		}
		for at := range cycles {
			if at >= from {
				t.Fatalf("%v: a unit of class %d is busy in cycle %d, at the end %d", m, class, at, cycle)
			}
		}
	}
}

// goes is what is done of a loop by so many rounds: how often each operation of Ops and of Body, and how many cycles it took.
type goes struct {
	ops, body []int
	cycles    int
}

// walk goes a loop's way bundle by bundle, up to where it turns to another block, and counts the units that are busy.
func walk(t testing.TB, b api.Block, l []api.Bundle, tags [][]api.Tag, m api.Table, rounds int) goes {
	t.Helper()
	g := goes{ops: make([]int, len(b.Ops)), body: make([]int, len(b.Body))}
	var k taken
	k.take(t, m, api.Ctl, -1-m.Delay) // who turned here
	turns := map[int]int{}
	at, counter := 0, 0
	for cycle := 0; cycle < (rounds+2)*(len(l)+1); cycle++ {
		if to, ok := turns[cycle]; ok {
			if to >= 0 {
				k.drainedBy(t, m, cycle)
				g.cycles = cycle
				return g
			}
			at = -1 - to
		}
		row := tags[at]
		for class, list := range l[at].Ops {
			for _, o := range list {
				k.take(t, m, class, cycle)
				tag := row[0]
				row = row[1:]
				turned := false
				switch {
				case tag.Loop:
					g.body[tag.Op]++
				case tag.Op >= 0:
					g.ops[tag.Op]++
				case o.Do == api.Count:
					counter = max(0, rounds-int(o.Imm))
				case o.Do == api.Short:
					turned = rounds < int(o.B)
				case o.Do == api.Again:
					counter--
					turned = counter > 0
				default:
					turned = true
				}
				if turned {
					turns[cycle+1+m.Delay] = int(o.Imm)
				}
			}
		}
		at++
	}
	t.Fatalf("%v, %v: no end of %d rounds", b, m, rounds)
	return g
}

// walks goes all ways of a loop, of fewer rounds than overlap and of more: each operation is done as often as it should.
func walks(t testing.TB, b api.Block, l []api.Bundle, tags [][]api.Tag, m api.Table, stages int) {
	t.Helper()
	for rounds := -1; rounds < stages+4; rounds++ {
		g := walk(t, b, l, tags, m, rounds)
		for n, times := range g.ops {
			if times != 1 {
				t.Fatalf("%v, %v: operation %d is done %d times", b, m, n, times)
			}
		}
		for n, times := range g.body {
			if times != max(0, rounds) {
				t.Fatalf("%v, %v: of %d rounds operation %d is done %d times", b, m, rounds, n, times)
			}
		}
	}
}

// countsOf says how often P20.3 lets each tag stand.
func countsOf(t testing.TB, b api.Block, block int, tags [][]api.Tag, stages int) {
	t.Helper()
	found := map[api.Tag]int{}
	for _, row := range tags {
		for _, tag := range row {
			found[tag]++
		}
	}
	for n := range b.Ops {
		if tag := (api.Tag{Block: block, Op: n}); found[tag] != 1 {
			t.Fatalf("%v: %v stands %d times", b, tag, found[tag])
		}
	}
	// Each of the rounds that overlap begins once; the slow way has each operation once more.
	// The layout's own are Short, Count, Again and Jump; with a slow way a Short more, and its Count, Again and Jump.
	want, own := stages, 4
	if stages > 1 {
		want, own = stages+1, 8
	}
	for n := range b.Body {
		if tag := (api.Tag{Block: block, Loop: true, Op: n}); found[tag] != want {
			t.Fatalf("%v: %v stands %d times, want %d", b, tag, found[tag], want)
		}
	}
	if got := found[api.Tag{Block: block, Op: -1}]; got != own {
		t.Fatalf("%v: %d of the layout's own, want %d", b, got, own)
	}
	if len(found) > len(b.Ops)+len(b.Body)+1 {
		t.Fatalf("%v: tags %v", b, found)
	}
}

func TestManyBlocks(t *testing.T) {
	r := rand.New(rand.NewSource(20))
	ends := map[int8]int{}
	errors := map[api.Errno]int{}
	for range 3000 {
		p, m := chanceProgram(r, 10), chanceTable(r)
		for block := -1; block <= len(p.Blocks); block++ {
			l, tags, e := wantBlockTold(t, p, block, m)
			errors[e]++
			if e != api.OK {
				continue
			}
			b := p.Blocks[block]
			ends[b.End]++
			turnsOf(t, l, tags, m, len(p.Blocks))
			seen := map[api.Tag]int{}
			for _, row := range tags {
				for _, tag := range row {
					seen[tag]++
				}
			}
			for n := range b.Ops {
				if seen[api.Tag{Block: block, Op: n}] != 1 {
					t.Fatalf("%v: %v", b, seen)
				}
			}
			wayOf(t, l, m, -1)
			if b.End == api.EndBranch {
				wayOf(t, l, m, slices.IndexFunc(l, func(b api.Bundle) bool { return len(b.Ops[api.Ctl]) > 0 }))
			}
		}
	}
	if len(errors) != 3 || min(errors[api.ErrNone], errors[api.ErrArg], ends[0], ends[1], ends[2]) < 1000 {
		t.Errorf("by errors %v, by ends %v", errors, ends)
	}
}

// wayOf counts the units that are busy from a block's beginning on: till its end, or till the turn in a bundle is done.
func wayOf(t testing.TB, l []api.Bundle, m api.Table, turn int) {
	t.Helper()
	if turn >= 0 {
		l = l[:turn+1+m.Delay]
	}
	var k taken
	k.take(t, m, api.Ctl, -1-m.Delay)
	halted := false
	for cycle, b := range l {
		for class, row := range b.Ops {
			for _, o := range row {
				k.take(t, m, class, cycle)
				halted = halted || o.Do == api.Halt
			}
		}
	}
	if !halted {
		k.drainedBy(t, m, len(l))
	}
}

// chanceLoop answers a block that ends in a loop.
func chanceLoop(r *rand.Rand, most int) api.Block {
	b := chanceBlock(r, 5, most)
	for b.End != api.EndLoop {
		b = chanceBlock(r, 5, most)
	}
	return b
}

// chanceChain answers a loop in whose body each operation waits for the one ahead of it, and none for the next round's:
// as many rounds overlap as there are operations, where the table has the units.
func chanceChain(r *rand.Rand, most int) api.Block {
	b := loops(uint8(r.Intn(api.Registers)), r.Intn(5))
	b.Ops = chanceList(r, 8, 3)
	for n := range uint8(2 + r.Intn(most)) {
		switch d, a := n%30+1, n%30; r.Intn(4) {
		case 0:
			b.Body = append(b.Body, loads(d, a, int64(r.Intn(9))))
		case 1:
			b.Body = append(b.Body, multiplies(d, a, 31))
		case 2:
			b.Body = append(b.Body, adds(d, a, 31))
		case 3:
			b.Body = append(b.Body, adds(d, a, 31), chanceOp(r, api.Registers))
		}
	}
	return b
}

// stagesTold answers how many rounds of a body overlap.
func stagesTold(t testing.TB, body []api.Op, m api.Table) int {
	t.Helper()
	plan, _, _ := (&telling{m: m}).planTold(t, body)
	return plan.Stages
}

func TestManyLoops(t *testing.T) {
	r := rand.New(rand.NewSource(201))
	stages := map[int]int{}
	try := func(b api.Block, m api.Table) {
		block := r.Intn(api.MaxBlocks)
		l, tags, e := wantLoopTold(t, b, block, m)
		if e != api.OK {
			t.Fatal(b, m, e)
		}
		overlap := stagesTold(t, b.Body, m)
		stages[min(overlap, 4)]++
		turnsOf(t, l, tags, m, 5)
		countsOf(t, b, block, tags, overlap)
		walks(t, b, l, tags, m, overlap)
	}
	for range 1500 {
		try(chanceLoop(r, 10), chanceTable(r))
		try(chanceChain(r, 8), chanceTable(r))
	}
	for range 20 {
		b, m := chanceLoop(r, 4), chanceTable(r)
		for len(b.Body) < api.MaxBody-1+r.Intn(4) {
			b.Body = append(b.Body, chanceOp(r, api.Registers))
		}
		try(b, m)
	}
	if min(stages[1], stages[2], stages[3], stages[4]) < 100 {
		t.Errorf("by stages %v", stages)
	}
}

// Every body of up to two of these, under tables that have Ctl busy now short, now long.
func TestAllShortLoops(t *testing.T) {
	few := []api.Op{consts(1, 8), adds(1, 1, 2), multiplies(2, 2, 1), loads(1, 2, 9), stores(1, 2, 8), prints(1)}
	for busyCtl := 1; busyCtl <= api.MaxBusy; busyCtl++ {
		for delay := range api.MaxDelay + 1 {
			for unitsCtl := 1; unitsCtl < 4; unitsCtl += 2 {
				m := delayed(busy(lats(units(example(), 2, 1, 1, unitsCtl), 1, 4, 3, 1), 2, 1, 3, busyCtl), delay)
				try := func(body ...api.Op) {
					b := with(loops(3, 1, body...), body...)
					l, tags, e := wantLoopTold(t, b, 9, m)
					if e != api.OK {
						t.Fatal(b, m, e)
					}
					turnsOf(t, l, tags, m, 2)
					walks(t, b, l, tags, m, stagesTold(t, body, m))
				}
				try()
				for _, a := range few {
					try(a)
					for _, b := range few {
						try(a, b)
					}
				}
			}
		}
	}
}

// spoilt answers an operation that is mostly none.
func spoilt(r *rand.Rand, o api.Op) api.Op {
	switch r.Intn(5) {
	case 0:
		o.Do = int8(r.Intn(256))
	case 1:
		o.D = uint8(r.Intn(256))
	case 2:
		o.A = uint8(r.Intn(256))
	case 3:
		o.B = uint8(r.Intn(256))
	case 4:
		o.Imm = int64(r.Uint64())
	}
	return o
}

// What may be handed in as it likes: tables, programs and loops that are none.
func TestManyErrors(t *testing.T) {
	r := rand.New(rand.NewSource(202))
	blocks, rounds := map[api.Errno]int{}, map[api.Errno]int{}
	for range 6000 {
		p, m := chanceProgram(r, 5), chanceTable(r)
		b := &p.Blocks[r.Intn(len(p.Blocks))]
		for range r.Intn(3) {
			switch r.Intn(9) {
			case 0:
				m.Lat[r.Intn(api.Classes)] = r.Intn(11) - 1
			case 1:
				m.Units[r.Intn(api.Classes)] = 0
			case 2:
				b.End = int8(r.Intn(8) - 2)
			case 3:
				b.A = uint8(30 + r.Intn(4))
			case 4:
				b.Then = r.Intn(9) - 2
			case 5:
				b.Ops = make([]api.Op, 1010+r.Intn(20)) // nops
			case 6:
				if len(b.Ops) > 0 {
					k := r.Intn(len(b.Ops))
					b.Ops[k] = spoilt(r, b.Ops[k])
				}
			case 7:
				if len(b.Body) > 0 {
					k := r.Intn(len(b.Body))
					b.Body[k] = spoilt(r, b.Body[k])
				}
			case 8:
				m.Delay = r.Intn(8) - 1
			}
		}
		_, _, e := wantBlockTold(t, p, r.Intn(len(p.Blocks)+2)-1, m)
		blocks[e]++
		_, _, e = wantLoopTold(t, *b, r.Intn(9), m)
		rounds[e]++
	}
	if len(blocks) != 8 || len(rounds) != 6 {
		t.Errorf("by errors %v, of loops %v", blocks, rounds)
	}
	for _, found := range []map[api.Errno]int{blocks, rounds} {
		for e, times := range found {
			if times < 20 {
				t.Errorf("%v only %d times", e, times)
			}
		}
	}
}
