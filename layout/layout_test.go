package layout

import (
	"math"
	"slices"
	"strconv"
	"strings"
	"testing"

	"hayloft/api"
	"hayloft/list"
	"hayloft/modulo"
	"hayloft/ops"
	"hayloft/program"
)

func consts(d uint8, imm int64) api.Op { return api.Op{Do: api.Const, D: d, Imm: imm} }

func adds(d, a, b uint8) api.Op { return api.Op{Do: api.Add, D: d, A: a, B: b} }

func multiplies(d, a, b uint8) api.Op { return api.Op{Do: api.Times, D: d, A: a, B: b} }

func loads(d, a uint8, imm int64) api.Op { return api.Op{Do: api.Load, D: d, A: a, Imm: imm} }

func stores(a, b uint8, imm int64) api.Op { return api.Op{Do: api.Store, A: a, B: b, Imm: imm} }

func prints(a uint8) api.Op { return api.Op{Do: api.Print, A: a} }

func with(b api.Block, l ...api.Op) api.Block {
	b.Ops = l
	return b
}

func jumps(then int) api.Block { return api.Block{End: api.EndJump, Then: then} }

func branches(a uint8, then, orElse int) api.Block {
	return api.Block{End: api.EndBranch, A: a, Then: then, Else: orElse}
}

func halts(a uint8) api.Block { return api.Block{End: api.EndHalt, A: a} }

func loops(a uint8, then int, body ...api.Op) api.Block {
	return api.Block{End: api.EndLoop, A: a, Body: body, Then: then}
}

// among answers a program of five blocks, the one handed in at a place of them, the others halts.
func among(b api.Block, block int) api.Program {
	p := api.Program{Blocks: []api.Block{halts(0), halts(0), halts(0), halts(0), halts(0)}}
	p.Blocks[block] = b
	return p
}

// The chapter's table.
func example() api.Table {
	return api.Table{Units: [api.Classes]int{1, 1, 1, 1}, Lat: [api.Classes]int{1, 3, 2, 1}, Busy: [api.Classes]int{1, 1, 1, 1}, Delay: 1}
}

func units(m api.Table, alu, mul, mem, ctl int) api.Table {
	m.Units = [api.Classes]int{alu, mul, mem, ctl}
	return m
}

func lats(m api.Table, alu, mul, mem, ctl int) api.Table {
	m.Lat = [api.Classes]int{alu, mul, mem, ctl}
	return m
}

func busy(m api.Table, alu, mul, mem, ctl int) api.Table {
	m.Busy = [api.Classes]int{alu, mul, mem, ctl}
	return m
}

func delayed(m api.Table, delay int) api.Table {
	m.Delay = delay
	return m
}

// spoken answers a bundle's operations, class by class, with a comma between: each as ops.Text tells it (what that
// refuses by a star and its Imm), and behind it what its tag says: # and the number, of Ops; * and the number, of Body;
// nothing of what the layout puts in itself.
func spoken(t testing.TB, b api.Bundle, tags []api.Tag, block int) string {
	t.Helper()
	var words []string
	for class, l := range b.Ops {
		for _, o := range l {
			own, ok := ops.Class(o.Do)
			if !ok || own != class || len(tags) <= len(words) {
				t.Fatalf("%v, of class %d, with the tags %v", o, class, tags)
			}
			tag := tags[len(words)]
			if tag.Block != block || tag.Spec || tag.Op < -1 || tag.Op < 0 && tag.Loop {
				t.Fatalf("%v has the tag %v, of block %d", o, tag, block)
			}
			text, e := ops.Text(o)
			if e != api.OK {
				text = "*" + strconv.FormatInt(o.Imm, 10)
			}
			switch {
			case tag.Loop:
				text += " *" + strconv.Itoa(tag.Op)
			case tag.Op >= 0:
				text += " #" + strconv.Itoa(tag.Op)
			}
			words = append(words, text)
		}
	}
	if len(tags) != len(words) {
		t.Fatalf("%v has the tags %v", b, tags)
	}
	return strings.Join(words, ", ")
}

// wantSpoken says that bundles and tags are what the lines tell.
func wantSpoken(t testing.TB, l []api.Bundle, tags [][]api.Tag, block int, lines []string) {
	t.Helper()
	if len(l) != len(tags) {
		t.Fatalf("%d bundles, %d lists of tags", len(l), len(tags))
	}
	var got []string
	for n, b := range l {
		got = append(got, spoken(t, b, tags[n], block))
	}
	if !slices.Equal(got, lines) {
		t.Errorf("got %d bundles\n%s\nwant %d\n%s", len(got), numbered(got), len(lines), numbered(lines))
	}
}

func numbered(lines []string) string {
	var all strings.Builder
	for n, line := range lines {
		all.WriteString(strconv.Itoa(n) + ": " + line + "\n")
	}
	return all.String()
}

// wantBlock says that the block is laid so, wherever it stands among five.
func wantBlock(t *testing.T, b api.Block, m api.Table, lines ...string) {
	t.Helper()
	for block := range 5 {
		l, tags, e := Block(among(b, block), block, m)
		if e != api.OK {
			t.Fatalf("Block(%v, %v) is %v", b, m, e)
		}
		wantSpoken(t, l, tags, block, lines)
	}
}

// wantLoop says that the loop is laid so, whatever its number.
func wantLoop(t *testing.T, b api.Block, m api.Table, lines ...string) {
	t.Helper()
	for _, block := range []int{0, 7, 127, 128, -1, math.MaxInt, math.MinInt} {
		l, tags, e := Loop(b, block, m)
		if e != api.OK {
			t.Fatalf("Loop(%v, %v) is %v", b, m, e)
		}
		wantSpoken(t, l, tags, block, lines)
	}
}

func wantBlockRefused(t *testing.T, p api.Program, block int, m api.Table, want api.Errno) {
	t.Helper()
	if l, tags, e := Block(p, block, m); e != want || l != nil || tags != nil {
		t.Errorf("Block(%v, %d, %v) is %v, %v, %v, want %v", p, block, m, l, tags, e, want)
	}
}

func wantLoopRefused(t *testing.T, b api.Block, m api.Table, want api.Errno) {
	t.Helper()
	if l, tags, e := Loop(b, 3, m); e != want || l != nil || tags != nil {
		t.Errorf("Loop(%v, %v) is %v, %v, %v, want %v", b, m, l, tags, e, want)
	}
}

func TestChapterExamples(t *testing.T) {
	m, sum := example(), adds(1, 2, 3)
	wantBlock(t, with(jumps(4), sum), m, "add r1 r2 r3 #0, jump 4", "")
	wantBlock(t, with(halts(1), sum), m, "add r1 r2 r3 #0", "halt r1")
	wantBlock(t, branches(1, 2, 3), m, "branch r1 2", "", "jump 3", "")
	wantLoop(t, loops(4, 1, adds(1, 1, 2)), m, "short r4 1 1", "", "count r4 0", "", "add r1 r1 r2 *0, again -5", "", "jump 1", "")
}

// empties answers lines of which one tells something.
func empties(count, at int, line string) []string {
	lines := make([]string, count)
	lines[at] = line
	return lines
}

// Blocks without Ops, of each end, with all of Ctl's Busy and Delay: the lead is what Busy has more than 1 and Delay.
func TestNoOps(t *testing.T) {
	leads := [][]int{ // by Busy, from 1 on, and by Delay
		{0, 0, 0, 0, 0},
		{1, 0, 0, 0, 0},
		{2, 1, 0, 0, 0},
		{3, 2, 1, 0, 0},
	}
	for k, row := range leads {
		for delay, lead := range row {
			m := delayed(busy(example(), 1, 1, 1, k+1), delay)
			wantBlock(t, jumps(2), m, empties(lead+1+delay, lead, "jump 2")...)
			wantBlock(t, halts(31), m, empties(lead+1, lead, "halt r31")...)
			gap := 1 + delay + lead
			wantBlock(t, branches(0, 1, 4), m, append(empties(lead+gap, lead, "branch r0 1"), empties(1+delay, 0, "jump 4")...)...)
			for _, l := range [][]api.Op{{}, make([]api.Op, 0, 3), {prints(1), prints(2)}} {
				wantBlock(t, with(jumps(2), l[:0]...), m, empties(lead+1+delay, lead, "jump 2")...)
			}
		}
	}
}

func TestEndsBehindOps(t *testing.T) {
	m := example()
	chain := []api.Op{adds(1, 2, 3), multiplies(4, 1, 1)}
	wantBlock(t, with(jumps(2), chain...), m, "add r1 r2 r3 #0", "times r4 r1 r1 #1", "jump 2", "")
	wantBlock(t, with(halts(4), chain...), m, "add r1 r2 r3 #0", "times r4 r1 r1 #1", "", "", "halt r4")
	wantBlock(t, with(halts(1), chain...), m, "add r1 r2 r3 #0", "times r4 r1 r1 #1", "", "", "halt r1")
	wantBlock(t, with(branches(4, 2, 0), chain...), m, "add r1 r2 r3 #0", "times r4 r1 r1 #1", "", "", "branch r4 2", "", "jump 0", "")
	wantBlock(t, with(branches(1, 2, 0), chain...), m, "add r1 r2 r3 #0", "times r4 r1 r1 #1", "branch r1 2", "", "jump 0", "")
	wantBlock(t, with(branches(1, 2, 0), chain[0]), m, "add r1 r2 r3 #0", "branch r1 2", "", "jump 0", "")
	wantBlock(t, with(branches(9, 2, 0), chain[0]), m, "add r1 r2 r3 #0, branch r9 2", "", "jump 0", "")
	wantBlock(t, with(branches(9, 0, 0), prints(9)), m, "print r9 #0, branch r9 0", "", "jump 0", "")
}

// DOC.md's sixth example: behind a branch with a delay of 2 stand operations of its own block.
func TestOperationsBehindATurn(t *testing.T) {
	l := []api.Op{consts(1, 5), adds(2, 3, 3), adds(4, 3, 3)}
	m := delayed(example(), 2)
	wantBlock(t, with(branches(1, 1, 2), l...), m, "const r1 5 #0", "add r2 r3 r3 #1, branch r1 1", "add r4 r3 r3 #2", "", "jump 2", "", "")
	wantBlock(t, with(branches(9, 1, 2), l...), m, "const r1 5 #0, branch r9 1", "add r2 r3 r3 #1", "add r4 r3 r3 #2", "jump 2", "", "")
	wantBlock(t, with(jumps(1), l...), m, "const r1 5 #0, jump 1", "add r2 r3 r3 #1", "add r4 r3 r3 #2")
	wantBlock(t, with(halts(1), l...), m, "const r1 5 #0", "add r2 r3 r3 #1", "add r4 r3 r3 #2", "halt r1")
}

// A unit of Ctl that is busy longer than the bundles behind a branch take: Else's jump comes later.
func TestElseWaitsForTheUnit(t *testing.T) {
	m := busy(example(), 1, 1, 1, 4)
	wantBlock(t, branches(1, 1, 2), m, "", "", "branch r1 1", "", "", "", "jump 2", "")
	m = busy(delayed(example(), 3), 1, 1, 1, 4)
	wantBlock(t, branches(1, 1, 2), m, "branch r1 1", "", "", "", "jump 2", "", "", "")
	m = busy(delayed(example(), 4), 1, 1, 1, 4)
	wantBlock(t, branches(1, 1, 2), m, "branch r1 1", "", "", "", "", "jump 2", "", "", "", "")
	m = busy(delayed(example(), 0), 1, 1, 1, 2)
	wantBlock(t, branches(1, 1, 2), m, "", "branch r1 1", "", "jump 2")
	m = delayed(example(), 0)
	wantBlock(t, branches(1, 1, 2), m, "branch r1 1", "jump 2")
	m = units(busy(delayed(example(), 0), 1, 1, 1, 4), 1, 1, 1, 8)
	wantBlock(t, branches(1, 1, 2), m, "", "", "", "branch r1 1", "", "", "", "jump 2")
}

// What stands in a bundle: class by class, in a class by rising numbers, whoever is higher; Ctl's own behind them.
func TestOrderInABundle(t *testing.T) {
	m := units(example(), 3, 2, 3, 1)
	l := []api.Op{prints(7), adds(9, 8, 8), multiplies(6, 8, 8), loads(1, 8, 0), adds(2, 8, 8), multiplies(3, 2, 1), stores(8, 3, 5), adds(5, 8, 8), multiplies(4, 8, 8)}
	wantBlock(t, with(jumps(1), l...), m,
		"add r9 r8 r8 #1, add r2 r8 r8 #4, add r5 r8 r8 #7, times r6 r8 r8 #2, times r4 r8 r8 #8, print r7 #0, load r1 r8 0 #3",
		"", "times r3 r2 r1 #5", "", "", "store r8 r3 5 #6, jump 1", "")
	m.Units = [api.Classes]int{8, 8, 8, 8}
	var lines []string
	l = nil
	for n := range uint8(8) {
		l = append(l, adds(n, 30, 31))
		lines = append(lines, "add r"+strconv.Itoa(int(n))+" r30 r31 #"+strconv.Itoa(int(n)))
	}
	wantBlock(t, with(jumps(1), l...), m, strings.Join(lines, ", ")+", jump 1", "")
}

func TestGreatLatencies(t *testing.T) {
	m := lats(example(), 8, 8, 8, 8)
	wantBlock(t, with(halts(1), consts(1, 1)), m, "const r1 1 #0", "", "", "", "", "", "", "", "halt r1")
	wantBlock(t, with(jumps(1), consts(1, 1)), m, "const r1 1 #0", "", "", "", "", "", "jump 1", "")
	m = busy(example(), 4, 4, 4, 4)
	wantBlock(t, with(jumps(1), consts(1, 1), consts(2, 2)), m, "const r1 1 #0", "", "", "", "const r2 2 #1", "", "jump 1", "")
	wantBlock(t, with(halts(1), consts(1, 1), consts(2, 2)), m, "const r1 1 #0", "", "", "", "const r2 2 #1", "halt r1")
}

func TestNoBlock(t *testing.T) {
	p := among(halts(1), 2)
	for _, block := range []int{-1, -2, 5, 6, api.MaxBlocks, math.MinInt, math.MaxInt, math.MinInt32, math.MaxInt32, 1 << 32} {
		wantBlockRefused(t, p, block, example(), api.ErrNone)
	}
	whole := api.Program{Blocks: slices.Repeat([]api.Block{halts(0)}, api.MaxBlocks)}
	if l, tags, e := Block(whole, api.MaxBlocks-1, example()); e != api.OK || len(l) != 1 || tags[0][0] != (api.Tag{Block: 127, Op: -1}) {
		t.Error(l, tags, e)
	}
	wantBlockRefused(t, whole, api.MaxBlocks, example(), api.ErrNone)
}

func TestBlockOfALoop(t *testing.T) {
	for _, b := range []api.Block{loops(0, 0), loops(1, 2, adds(1, 2, 3)), with(loops(1, 2), adds(1, 2, 3))} {
		p := among(b, 3)
		wantBlockRefused(t, p, 3, example(), api.ErrArg)
		if _, _, e := Block(p, 2, example()); e != api.OK {
			t.Error("the block beside it", e)
		}
	}
}

// Programs that are none are refused whichever block is asked for.
func TestBlockOfNoProgram(t *testing.T) {
	for block := -1; block < 6; block++ {
		wantBlockRefused(t, api.Program{}, block, example(), api.ErrProgram)
		wantBlockRefused(t, among(jumps(5), 4), block, example(), api.ErrProgram)
		wantBlockRefused(t, among(jumps(-1), 4), block, example(), api.ErrProgram)
		wantBlockRefused(t, among(api.Block{End: 4}, 4), block, example(), api.ErrProgram)
		wantBlockRefused(t, among(api.Block{End: -1}, 4), block, example(), api.ErrProgram)
		wantBlockRefused(t, among(halts(32), 4), block, example(), api.ErrProgram)
		wantBlockRefused(t, among(api.Block{End: api.EndHalt, Then: 1}, 4), block, example(), api.ErrProgram)
		wantBlockRefused(t, among(with(halts(0), api.Op{}), 4), block, example(), api.ErrOp)
		wantBlockRefused(t, among(with(halts(0), api.Op{Do: api.Jump}), 4), block, example(), api.ErrOp)
		wantBlockRefused(t, among(loops(0, 0, api.Op{Do: api.Again}), 4), block, example(), api.ErrOp)
		wantBlockRefused(t, among(with(halts(0), make([]api.Op, api.MaxOps-4)...), 4), block, example(), api.ErrLong)
		wantBlockRefused(t, api.Program{Blocks: make([]api.Block, api.MaxBlocks+1)}, block, example(), api.ErrLong)
	}
	long := among(with(halts(0), slices.Repeat([]api.Op{prints(1)}, api.MaxOps-5)...), 1)
	if l, _, e := Block(long, 1, example()); e != api.OK || len(l) != api.MaxOps-5+2 {
		t.Error(len(l), e)
	}
}

func TestBlockOfATable(t *testing.T) {
	for class := range api.Classes {
		for _, spoil := range []func(*api.Table){
			func(m *api.Table) { m.Units[class] = -1 }, func(m *api.Table) { m.Units[class] = 9 },
			func(m *api.Table) { m.Lat[class] = 0 }, func(m *api.Table) { m.Lat[class] = 9 },
			func(m *api.Table) { m.Busy[class] = 0 }, func(m *api.Table) { m.Busy[class] = 5 },
			func(m *api.Table) { m.Delay = -1 }, func(m *api.Table) { m.Delay = 5 },
		} {
			m := example()
			spoil(&m)
			wantBlockRefused(t, among(halts(0), 0), 0, m, api.ErrTable)
			wantLoopRefused(t, loops(0, 0), m, api.ErrTable)
		}
	}
	// A unit is needed for what any block of the program does.
	product := among(loops(0, 0, multiplies(1, 2, 3)), 3)
	for block := range 5 {
		wantBlockRefused(t, product, block, units(example(), 1, 0, 1, 1), api.ErrNoUnit)
	}
	wantBlockRefused(t, among(halts(0), 0), 0, units(example(), 1, 1, 1, 0), api.ErrNoUnit)
	wantBlock(t, halts(0), units(example(), 0, 0, 0, 1), "halt r0")
	wantBlock(t, with(halts(0), prints(1)), units(example(), 0, 0, 1, 1), "print r1 #0", "", "halt r0")
}

// Of several errors the first is answered: the program's, the table's, the units', the block's, the loop's.
func TestBlockErrorsInOrder(t *testing.T) {
	noTable, noUnit := delayed(units(example(), 1, 1, 1, 0), 9), units(example(), 1, 1, 1, 0)
	none, fine := among(with(halts(0), api.Op{}), 1), among(loops(0, 0, prints(1)), 1)
	for _, block := range []int{-1, 0, 1, 5} {
		wantBlockRefused(t, none, block, noTable, api.ErrOp)
		wantBlockRefused(t, none, block, noUnit, api.ErrOp)
		wantBlockRefused(t, fine, block, noTable, api.ErrTable)
		wantBlockRefused(t, fine, block, noUnit, api.ErrNoUnit)
	}
	wantBlockRefused(t, fine, 5, example(), api.ErrNone)
	wantBlockRefused(t, fine, 1, example(), api.ErrArg)
	if e := program.Needs(none, noTable); e != api.ErrOp {
		t.Error(e)
	}
}

func TestNoLoop(t *testing.T) {
	for end := range 256 {
		if b := (api.Block{End: int8(end)}); b.End != api.EndLoop {
			wantLoopRefused(t, b, example(), api.ErrArg)
		}
	}
	for a := range 256 {
		if a < api.Registers {
			name := strconv.Itoa(a)
			wantLoop(t, loops(uint8(a), 1), example(), "short r"+name+" 1 1", "", "count r"+name+" 0", "", "again -5", "", "jump 1", "")
			continue
		}
		wantLoopRefused(t, loops(uint8(a), 1), example(), api.ErrArg)
	}
}

func TestLoopOfTooMany(t *testing.T) {
	few := func(n int) []api.Op { return slices.Repeat([]api.Op{prints(1)}, n) }
	for _, ahead := range []int{0, 500, api.MaxOps - 1} {
		b := with(loops(1, 0, few(api.MaxOps-1-ahead)...), few(ahead)...)
		if _, _, e := Loop(b, 0, example()); e != api.OK {
			t.Errorf("%d Ops, %d of Body: %v", len(b.Ops), len(b.Body), e)
		}
		b.Ops = few(ahead + 1)
		wantLoopRefused(t, b, example(), api.ErrLong)
		b.Ops, b.Body = few(ahead), few(api.MaxOps-ahead)
		wantLoopRefused(t, b, example(), api.ErrLong)
	}
	wantLoopRefused(t, with(loops(1, 0), make([]api.Op, 5000)...), example(), api.ErrLong)
}

func TestLoopOfNoOperation(t *testing.T) {
	none := []api.Op{{}, {Do: -1}, {Do: api.Jump}, {Do: api.Branch}, {Do: api.Halt}, {Do: api.Count}, {Do: api.Short}, {Do: api.Again}, {Do: api.Kinds},
		{Do: math.MinInt8}, {Do: math.MaxInt8}, consts(32, 0), consts(1, 1<<31), consts(1, -1<<31-1), {Do: api.Const, A: 1},
		adds(1, 32, 2), adds(1, 2, 32), {Do: api.Add, Imm: 1}, stores(1, 2, 1<<31), {Do: api.Print, D: 1}}
	for _, o := range none {
		wantLoopRefused(t, with(loops(1, 0), o), example(), api.ErrOp)
		wantLoopRefused(t, loops(1, 0, o), example(), api.ErrOp)
		wantLoopRefused(t, with(loops(1, 0, prints(1), o), prints(1)), example(), api.ErrOp)
		wantLoopRefused(t, with(loops(1, 0, prints(1)), prints(1), o, prints(2)), example(), api.ErrOp)
	}
}

func TestLoopWithoutUnits(t *testing.T) {
	wantLoopRefused(t, loops(1, 0), units(example(), 8, 8, 8, 0), api.ErrNoUnit)
	for class, o := range []api.Op{adds(1, 2, 3), multiplies(1, 2, 3), loads(1, 2, 3)} {
		m := example()
		m.Units[class] = 0
		wantLoopRefused(t, loops(1, 0, o), m, api.ErrNoUnit)
		wantLoopRefused(t, with(loops(1, 0), o), m, api.ErrNoUnit)
		wantLoop(t, loops(4, 1), m, "short r4 1 1", "", "count r4 0", "", "again -5", "", "jump 1", "")
	}
	wantLoop(t, loops(4, 1), units(example(), 0, 0, 0, 1), "short r4 1 1", "", "count r4 0", "", "again -5", "", "jump 1", "")
}

// Of several errors the first is answered: what is no loop, no table, too long, no operation, without a unit.
func TestLoopErrorsInOrder(t *testing.T) {
	noTable, noUnit := delayed(units(example(), 1, 1, 1, 0), 9), units(example(), 1, 1, 1, 0)
	long := loops(1, 0, make([]api.Op, api.MaxOps)...) // nops, and so no operations of a program
	for _, m := range []api.Table{noTable, noUnit, example(), {}} {
		wrong := long
		wrong.End = api.EndHalt
		wantLoopRefused(t, wrong, m, api.ErrArg)
		wrong = long
		wrong.A = 32
		wantLoopRefused(t, wrong, m, api.ErrArg)
	}
	wantLoopRefused(t, long, noTable, api.ErrTable)
	wantLoopRefused(t, loops(1, 0, api.Op{}), noTable, api.ErrTable)
	wantLoopRefused(t, long, noUnit, api.ErrLong)
	wantLoopRefused(t, long, example(), api.ErrLong)
	long.Body = long.Body[:api.MaxOps-1]
	wantLoopRefused(t, long, noUnit, api.ErrOp)
	wantLoopRefused(t, with(loops(1, 0, api.Op{}), multiplies(1, 2, 3)), units(example(), 1, 0, 1, 1), api.ErrOp)
	wantLoopRefused(t, with(loops(1, 0, multiplies(1, 2, 3)), prints(1)), units(example(), 1, 0, 1, 1), api.ErrNoUnit)
}

// What does not count with a loop is not looked at, and Then may be any number: there is no program to hold it against.
func TestWhatALoopDoesNotAsk(t *testing.T) {
	for _, then := range []int{0, 127, 128, -1, -7, math.MaxInt32, math.MinInt32} {
		word := strconv.Itoa(then)
		b := loops(4, then)
		b.Else = 77
		wantLoop(t, b, example(), "short r4 1 "+word, "", "count r4 0", "", "again -5", "", "jump "+word, "")
	}
	for _, then := range []int{math.MaxInt32 + 1, math.MinInt32 - 1, math.MaxInt, math.MinInt} {
		word := "*" + strconv.Itoa(then)
		wantLoop(t, loops(4, then), example(), word, "", "count r4 0", "", "again -5", "", word, "")
	}
}

func TestEmptyBody(t *testing.T) {
	m := busy(example(), 1, 1, 1, 4)
	wantLoop(t, loops(4, 1), m, "", "", "short r4 1 1", "", "", "", "count r4 0", "", "", "", "", "", "again -11", "", "", "", "jump 1", "")
	m = delayed(units(m, 1, 1, 1, 4), 0)
	wantLoop(t, loops(4, 1), m, "", "", "", "short r4 1 1", "", "", "", "count r4 0", "", "", "", "again -12", "", "", "", "jump 1")
	m = delayed(example(), 4)
	wantLoop(t, loops(4, 1), m, "short r4 1 1", "", "", "", "", "count r4 0", "", "", "", "", "again -11", "", "", "", "", "jump 1", "", "", "", "")
	m = delayed(example(), 0)
	wantLoop(t, loops(4, 1), m, "short r4 1 1", "count r4 0", "again -3", "jump 1")
	for _, body := range [][]api.Op{nil, {}, make([]api.Op, 0, 4), {prints(1)}} {
		wantLoop(t, loops(4, 1, body[:0]...), m, "short r4 1 1", "count r4 0", "again -3", "jump 1")
	}
}

// Ops are laid up to where they are drained, and at least as long as a unit of Ctl may be busy.
func TestOpsAheadOfTheRounds(t *testing.T) {
	m := example()
	rest := []string{"short r4 1 1", "", "count r4 0", ""}
	wantLoop(t, with(loops(4, 1), multiplies(4, 4, 4)), m, slices.Concat([]string{"times r4 r4 r4 #0", "", ""}, rest, []string{"again -8", "", "jump 1", ""})...)
	wantLoop(t, with(loops(4, 1), consts(4, 9)), m, slices.Concat([]string{"const r4 9 #0"}, rest, []string{"again -6", "", "jump 1", ""})...)
	// What the loop counts by does not make it wait, but all of Ops does.
	wantLoop(t, with(loops(4, 1), multiplies(5, 4, 4), consts(4, 9)), m,
		slices.Concat([]string{"const r4 9 #1, times r5 r4 r4 #0", "", ""}, rest, []string{"again -8", "", "jump 1", ""})...)
	m = busy(m, 1, 4, 1, 1)
	wantLoop(t, with(loops(4, 1), multiplies(4, 4, 4)), m, slices.Concat([]string{"times r4 r4 r4 #0", "", "", ""}, rest, []string{"again -9", "", "jump 1", ""})...)
	m = busy(delayed(example(), 0), 1, 1, 1, 3)
	wait := []string{"short r4 1 1", "", "", "count r4 0", "", ""}
	wantLoop(t, with(loops(4, 1), consts(4, 9)), m, slices.Concat([]string{"const r4 9 #0", ""}, wait, []string{"", "", "again -9", "", "", "jump 1"})...)
	wantLoop(t, with(loops(4, 1), multiplies(4, 4, 4)), m, slices.Concat([]string{"times r4 r4 r4 #0", "", ""}, wait, []string{"", "", "again -10", "", "", "jump 1"})...)
}

// wantPlan says that modulo tells the plan of which the lines behind it are: which one it is, is that layer's own affair.
func wantPlan(t *testing.T, body []api.Op, m api.Table, every, stages int, cycles ...int) {
	t.Helper()
	if p, e := modulo.Find(body, m); e != api.OK || p.Every != every || p.Stages != stages || !slices.Equal(p.Cycles, cycles) {
		t.Fatalf("these lines are of another plan than %v", p)
	}
}

func TestOneStage(t *testing.T) {
	m := lats(example(), 1, 8, 2, 1)
	body := []api.Op{multiplies(1, 1, 2)}
	wantPlan(t, body, m, 8, 1, 0)
	wantLoop(t, loops(4, 1, body...), m, "short r4 1 1", "", "count r4 0", "", "times r1 r1 r2 *0", "", "", "", "", "", "again -5", "", "jump 1", "")
	// A round begins long before the one ahead is drained: the last one is waited for.
	body = []api.Op{multiplies(1, 2, 2)}
	wantPlan(t, body, m, 2, 1, 0)
	wantLoop(t, loops(4, 1, body...), m, "short r4 1 1", "", "count r4 0", "", "times r1 r2 r2 *0, again -5", "", "", "", "", "", "", "", "jump 1", "")
	// A unit of Ctl is busy longer than that.
	m = busy(lats(example(), 1, 1, 1, 1), 1, 1, 1, 4)
	body = []api.Op{adds(1, 1, 2)}
	wantPlan(t, body, m, 4, 1, 0)
	wantLoop(t, loops(4, 1, body...), m, "", "", "short r4 1 1", "", "", "", "count r4 0", "", "", "", "add r1 r1 r2 *0", "", "again -11", "", "", "", "jump 1", "")
	// What a Ctl's own result would take nobody waits for.
	m = lats(example(), 1, 1, 1, 8)
	wantPlan(t, body, m, 2, 1, 0)
	wantLoop(t, loops(4, 1, body...), m, "short r4 1 1", "", "count r4 0", "", "add r1 r1 r2 *0, again -5", "", "jump 1", "")
}

func TestTwoStages(t *testing.T) {
	m, body := example(), []api.Op{loads(1, 2, 0), adds(3, 3, 1)}
	wantPlan(t, body, m, 2, 2, 0, 2)
	wantLoop(t, with(loops(4, 1, body...), consts(4, 8)), m,
		"const r4 8 #0",
		"short r4 1 1", "",
		"short r4 2 -16", "",
		"count r4 1", "",
		"load r1 r2 0 *0", "",
		"add r3 r3 r1 *1, load r1 r2 0 *0, again -10", "",
		"add r3 r3 r1 *1", "",
		"jump 1", "",
		"count r4 0", "",
		"load r1 r2 0 *0", "again -18", "add r3 r3 r1 *1",
		"jump 1", "")
	// Units of Ctl that are busy make the slow way wait, at its beginning and behind its rounds.
	m = delayed(busy(example(), 1, 1, 1, 2), 0)
	wantPlan(t, body, m, 2, 2, 0, 2)
	wantLoop(t, loops(4, 1, body...), m,
		"", "short r4 1 1", "",
		"short r4 2 -15", "",
		"count r4 1", "",
		"load r1 r2 0 *0", "",
		"add r3 r3 r1 *1, load r1 r2 0 *0", "again -10",
		"add r3 r3 r1 *1", "",
		"jump 1",
		"",
		"count r4 0", "",
		"load r1 r2 0 *0", "", "add r3 r3 r1 *1, again -18",
		"",
		"jump 1")
}

// Operations of unlike rounds in one bundle stand by their numbers, not by their rounds.
func TestOrderOfOverlappedRounds(t *testing.T) {
	m := units(example(), 1, 1, 2, 1)
	body := []api.Op{loads(1, 2, 0), prints(1)}
	wantPlan(t, body, m, 2, 2, 0, 2)
	l, tags, e := Loop(loops(4, 1, body...), 5, m)
	if e != api.OK {
		t.Fatal(e)
	}
	wantSpoken(t, l[8:9], tags[8:9], 5, []string{"load r1 r2 0 *0, print r1 *1, again -9"})
}

// pairs are so many loads, and behind each a sum that waits for it long; cut behind so many operations.
func pairs(count int) []api.Op {
	var l []api.Op
	for n := range uint8(count) {
		l = append(l, loads(n%16, 30, int64(n)), adds(31, 31, n%16))
	}
	return l[:count]
}

// From more than MaxBody operations on no rounds overlap, and there is no slow way.
func TestLongBodies(t *testing.T) {
	m := lats(example(), 1, 1, 8, 1)
	plan, e := modulo.Find(pairs(api.MaxBody), m)
	if e != api.OK || plan.Stages < 2 {
		t.Fatal(plan, e)
	}
	l, tags, e := Loop(loops(4, 1, pairs(api.MaxBody)...), 0, m)
	if e != api.OK || spoken(t, l[2], tags[2], 0) == "" || l[2].Ops[api.Ctl][0].Do != api.Short || l[4].Ops[api.Ctl][0].Imm != int64(plan.Stages-1) {
		t.Error(e, l[2], l[4])
	}
	body := pairs(api.MaxBody + 1)
	cycles, e := list.Cycles(body, m)
	if e != api.OK {
		t.Fatal(e)
	}
	const every = 40 // the last load, in cycle 32, takes 8; the last sum, in 39, takes 1
	want := append([]string{"short r4 1 1", "", "count r4 0", ""}, make([]string, every+2)...)
	for class := range api.Ctl {
		for n, o := range body {
			if own, _ := ops.Class(o.Do); own == class {
				text, _ := ops.Text(o)
				want[4+cycles[n]] += text + " *" + strconv.Itoa(n) + ", "
			}
		}
	}
	want[4+every-2] += "again -5, "
	want[4+every] += "jump 1, "
	for n := range want {
		want[n] = strings.TrimSuffix(want[n], ", ")
	}
	wantLoop(t, loops(4, 1, body...), m, want...)
	wantLoopRefused(t, loops(4, 1, body...), units(m, 1, 0, 1, 0), api.ErrNoUnit)
}
