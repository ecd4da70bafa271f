package pack

import (
	"math"
	"slices"
	"strconv"
	"strings"
	"testing"

	"hayloft/api"
	"hayloft/bundle"
	"hayloft/modulo"
	"hayloft/ops"
)

func consts(d uint8, imm int64) api.Op { return api.Op{Do: api.Const, D: d, Imm: imm} }

func adds(d, a, b uint8) api.Op { return api.Op{Do: api.Add, D: d, A: a, B: b} }

func multiplies(d, a, b uint8) api.Op { return api.Op{Do: api.Times, D: d, A: a, B: b} }

func divides(d, a, b uint8) api.Op { return api.Op{Do: api.Divide, D: d, A: a, B: b} }

func loads(d, a uint8, imm int64) api.Op { return api.Op{Do: api.Load, D: d, A: a, Imm: imm} }

func stores(a, b uint8, imm int64) api.Op { return api.Op{Do: api.Store, A: a, B: b, Imm: imm} }

func prints(a uint8) api.Op { return api.Op{Do: api.Print, A: a} }

func with(b api.Block, l ...api.Op) api.Block {
	b.Ops = l
	return b
}

func jumps(then int) api.Block { return api.Block{End: api.EndJump, Then: then} }

func branches(a uint8, then, orElse int) api.Block {
	return api.Block{End: api.EndBranch, A: a, Then: then, Else: orElse}
}

func halts(a uint8) api.Block { return api.Block{End: api.EndHalt, A: a} }

func loops(a uint8, then int, body ...api.Op) api.Block {
	return api.Block{End: api.EndLoop, A: a, Body: body, Then: then}
}

func blocks(l ...api.Block) api.Program { return api.Program{Blocks: l} }

// The chapter's table.
func ones() api.Table {
	return api.Table{Units: [api.Classes]int{1, 1, 1, 1}, Lat: [api.Classes]int{1, 1, 1, 1}, Busy: [api.Classes]int{1, 1, 1, 1}}
}

// The table of the examples of chapter 20.
func example() api.Table { return delayed(lats(ones(), 1, 3, 2, 1), 1) }

func units(m api.Table, alu, mul, mem, ctl int) api.Table {
	m.Units = [api.Classes]int{alu, mul, mem, ctl}
	return m
}

func lats(m api.Table, alu, mul, mem, ctl int) api.Table {
	m.Lat = [api.Classes]int{alu, mul, mem, ctl}
	return m
}

func busy(m api.Table, alu, mul, mem, ctl int) api.Table {
	m.Busy = [api.Classes]int{alu, mul, mem, ctl}
	return m
}

func delayed(m api.Table, delay int) api.Table {
	m.Delay = delay
	return m
}

func decoded(t testing.TB, k api.Packed, m api.Table) []api.Bundle {
	t.Helper()
	l, e := bundle.Decode(k.Words, m)
	if e != api.OK {
		t.Fatalf("%v: the words of %v: %v", m, k, e)
	}
	return l
}

// mark answers what a tag says: # and the block and the number, of Ops; * of Body; ! of one that is done early; nothing
// of what the packer puts in itself.
func mark(tag api.Tag) string {
	sign := " #"
	switch {
	case tag.Op < 0:
		return ""
	case tag.Spec:
		sign = " !"
	case tag.Loop:
		sign = " *"
	}
	return sign + strconv.Itoa(tag.Block) + "." + strconv.Itoa(tag.Op)
}

// spoken answers a bundle's operations, class by class, with a comma between: each as ops.Text tells it, and its mark.
func spoken(t testing.TB, b api.Bundle, tags []api.Tag) string {
	t.Helper()
	var words []string
	for _, row := range b.Ops {
		for _, o := range row {
			text, e := ops.Text(o)
			if e != api.OK || len(words) >= len(tags) {
				t.Fatalf("%v with the tags %v", b, tags)
			}
			words = append(words, text+mark(tags[len(words)]))
		}
	}
	if len(words) != len(tags) {
		t.Fatalf("%v with the tags %v", b, tags)
	}
	return strings.Join(words, ", ")
}

func numbered(lines []string) string {
	var all strings.Builder
	for n, line := range lines {
		all.WriteString(strconv.Itoa(n) + ": " + line + "\n")
	}
	return all.String()
}

// wantPacked says that the program is packed so, a line a bundle, a list of lines a block.
func wantPacked(t *testing.T, p api.Program, m api.Table, want ...[]string) api.Packed {
	t.Helper()
	k, e := Pack(p, m)
	if e != api.OK {
		t.Fatalf("Pack(%v, %v) is %v", p, m, e)
	}
	l := decoded(t, k, m)
	if len(l) != len(k.Tags) {
		t.Fatalf("%d bundles, %d lists of tags", len(l), len(k.Tags))
	}
	var got []string
	for n, b := range l {
		got = append(got, spoken(t, b, k.Tags[n]))
	}
	if lines := slices.Concat(want...); !slices.Equal(got, lines) {
		t.Fatalf("got %d bundles\n%s\nwant %d\n%s", len(got), numbered(got), len(lines), numbered(lines))
	}
	var begins []int
	from := 0
	for block, lines := range want {
		begins = append(begins, from)
		for range lines {
			wantOwnOf(t, k.Tags[from], block)
			from++
		}
	}
	if !slices.Equal(k.Begins, begins) {
		t.Fatalf("blocks begin at %v, want %v", k.Begins, begins)
	}
	return k
}

// wantOwnOf says that what the packer put in itself, and what is not done early, has the tag of the block where it stands.
func wantOwnOf(t *testing.T, tags []api.Tag, block int) {
	t.Helper()
	for _, tag := range tags {
		if tag.Op < -1 || tag.Op < 0 && (tag.Loop || tag.Spec) || (tag.Block != block) != tag.Spec {
			t.Errorf("the tag %v in the bundles of block %d", tag, block)
		}
	}
}

func wantRefused(t *testing.T, p api.Program, m api.Table, want api.Errno) {
	t.Helper()
	if k, e := Pack(p, m); e != want || k.Words != nil || k.Tags != nil || k.Begins != nil {
		t.Errorf("Pack(%v, %v) is %v, %v, want %v", p, m, k, e, want)
	}
}

func wantNumbers(t *testing.T, k api.Packed, m api.Table, want api.Numbers) {
	t.Helper()
	if n, e := Numbers(k, m); n != want || e != api.OK {
		t.Errorf("Numbers(%v, %v) is %v, %v, want %v", k, m, n, e, want)
	}
}

func wantNoNumbers(t *testing.T, k api.Packed, m api.Table, want api.Errno) {
	t.Helper()
	if n, e := Numbers(k, m); n != (api.Numbers{}) || e != want {
		t.Errorf("Numbers(%v, %v) is %v, %v, want %v", k, m, n, e, want)
	}
}

func TestChapterExamples(t *testing.T) {
	p := blocks(with(jumps(1), consts(1, 3)), with(halts(1), prints(1)))
	k := wantPacked(t, p, ones(), []string{"const r1 3 #0.0, jump 1"}, []string{"print r1 #1.0", "halt r1"})
	wantNumbers(t, k, ones(), api.Numbers{Bundles: 3, Ops: 4, Longest: 2})
	wantRefused(t, blocks(with(halts(0), multiplies(1, 2, 3))), units(ones(), 1, 0, 1, 1), api.ErrNoUnit)
	wantRefused(t, api.Program{}, ones(), api.ErrProgram)
}

// The words themselves, by chapter 19: from the lowest bit on Do 6 bits, D 5, A 5, B 5, Imm 32.
func TestTheWords(t *testing.T) {
	p := blocks(with(jumps(2), consts(1, -1)), halts(7), jumps(1))
	k, e := Pack(p, ones())
	jump := func(to uint64) uint64 { return api.Jump | to<<21 }
	want := []uint64{
		api.Const | 1<<6 | math.MaxUint32<<21, 0, 0, jump(2),
		0, 0, 0, api.Halt | 7<<11,
		0, 0, 0, jump(1),
	}
	if e != api.OK || !slices.Equal(k.Words, want) {
		t.Errorf("%v, %v, want %v", k.Words, e, want)
	}
	// Where there are units of Ctl alone, and more than one, of which the first is used.
	k, e = Pack(blocks(jumps(1), loops(31, 0)), units(ones(), 0, 0, 0, 2))
	want = []uint64{jump(1), 0, api.Short | 31<<11 | 1<<16, 0, api.Count | 31<<11, 0, api.Again | 3<<21, 0, jump(0), 0}
	if e != api.OK || !slices.Equal(k.Words, want) {
		t.Errorf("%v, %v, want %v", k.Words, e, want)
	}
}

func TestOneBlock(t *testing.T) {
	m := example()
	wantPacked(t, blocks(halts(3)), m, []string{"halt r3"})
	wantPacked(t, blocks(with(halts(3), prints(3))), m, []string{"print r3 #0.0", "", "halt r3"})
	wantPacked(t, blocks(jumps(0)), m, []string{"jump 0", ""})
	wantPacked(t, blocks(with(jumps(0), adds(1, 2, 3))), m, []string{"add r1 r2 r3 #0.0, jump 0", ""})
	wantPacked(t, blocks(branches(1, 0, 0)), m, []string{"branch r1 0", "", "jump 0", ""})
	wantPacked(t, blocks(loops(4, 0, adds(1, 1, 2))), m, []string{"short r4 1 0", "", "count r4 0", "", "add r1 r1 r2 *0.0, again 4", "", "jump 0", ""})
}

// Turns go to where blocks begin, whichever way they lie.
func TestTurns(t *testing.T) {
	m := example()
	sum := adds(1, 2, 3)
	wantPacked(t, blocks(with(jumps(1), sum, sum, sum), jumps(3), with(jumps(2), sum), with(jumps(1), prints(1)), halts(1)), m,
		[]string{"add r1 r2 r3 #0.0", "add r1 r2 r3 #0.1, jump 3", "add r1 r2 r3 #0.2"}, // to the next one
		[]string{"jump 7", ""},                    // ahead, over one
		[]string{"add r1 r2 r3 #2.0, jump 5", ""}, // to itself
		[]string{"print r1 #3.0, jump 3", ""},     // back
		[]string{"halt r1"})
	wantPacked(t, blocks(branches(5, 1, 2), branches(6, 0, 1), branches(7, 2, 0), branches(8, 1, 1)), m,
		[]string{"branch r5 4", "", "jump 8", ""},
		[]string{"branch r6 0", "", "jump 4", ""},
		[]string{"branch r7 8", "", "jump 0", ""},
		[]string{"branch r8 4", "", "jump 4", ""})
	// The number of a block is no other block's place.
	wantPacked(t, blocks(with(jumps(3), sum, sum, sum, sum), halts(1), halts(2), jumps(2)), m,
		[]string{"add r1 r2 r3 #0.0", "add r1 r2 r3 #0.1", "add r1 r2 r3 #0.2, jump 6", "add r1 r2 r3 #0.3"},
		[]string{"halt r1"}, []string{"halt r2"}, []string{"jump 5", ""})
}

// wantPlan says that modulo tells the plan of which the lines behind it are: which one it is, is that layer's own affair.
func wantPlan(t *testing.T, body []api.Op, m api.Table, every, stages int, cycles ...int) {
	t.Helper()
	if p, e := modulo.Find(body, m); e != api.OK || p.Every != every || p.Stages != stages || !slices.Equal(p.Cycles, cycles) {
		t.Fatalf("these lines are of another plan than %v", p)
	}
}

// A loop's turns within itself are places of its own bundles, wherever it stands.
func TestLoops(t *testing.T) {
	m := example()
	sum, chain := []api.Op{adds(1, 1, 2)}, []api.Op{loads(1, 2, 0), adds(3, 3, 1)}
	wantPlan(t, chain, m, 2, 2, 0, 2)
	wantPacked(t, blocks(with(jumps(1), prints(9)), with(loops(4, 2, sum...), consts(4, 8)), with(loops(5, 3, chain...), consts(5, 9)), loops(6, 1), halts(3)), m,
		[]string{"print r9 #0.0, jump 2", ""},
		[]string{"const r4 8 #1.0", "short r4 1 11", "", "count r4 0", "", "add r1 r1 r2 *1.0, again 7", "", "jump 11", ""},
		[]string{"const r5 9 #2.0",
			"short r5 1 33", "",
			"short r5 2 26", "",
			"count r5 1", "",
			"load r1 r2 0 *2.0", "",
			"add r3 r3 r1 *2.1, load r1 r2 0 *2.0, again 20", "",
			"add r3 r3 r1 *2.1", "",
			"jump 33", "",
			"count r5 0", "",
			"load r1 r2 0 *2.0", "again 28", "add r3 r3 r1 *2.1",
			"jump 33", ""},
		[]string{"short r6 1 2", "", "count r6 0", "", "again 37", "", "jump 2", ""}, // of an empty body
		[]string{"halt r3"})
	// First in the program, its first bundle turned to from its own turns alone; and to itself behind its rounds.
	wantPacked(t, blocks(loops(5, 0, chain...)), m, []string{
		"short r5 1 0", "",
		"short r5 2 14", "",
		"count r5 1", "",
		"load r1 r2 0 *0.0", "",
		"add r3 r3 r1 *0.1, load r1 r2 0 *0.0, again 8", "",
		"add r3 r3 r1 *0.1", "",
		"jump 0", "",
		"count r5 0", "",
		"load r1 r2 0 *0.0", "again 16", "add r3 r3 r1 *0.1",
		"jump 0", ""})
}

func repeated(o api.Op, n int) []api.Op { return slices.Repeat([]api.Op{o}, n) }

// At MaxBody operations rounds overlap, if they can; of one more they don't, and there is no slow way.
func TestLongBodies(t *testing.T) {
	m := lats(example(), 1, 1, 8, 1)
	var pairs []api.Op
	for n := range uint8(api.MaxBody/2 + 1) {
		pairs = append(pairs, loads(n%16, 30, int64(n)), adds(31, 31, n%16))
	}
	for _, count := range []int{api.MaxBody, api.MaxBody + 1} {
		body := pairs[:count]
		p := blocks(jumps(1), loops(4, 2, body...), halts(31))
		k := wantTold(t, p, m)
		l := decoded(t, k, m)
		shorts, times := 0, map[api.Tag]int{}
		for n, b := range l {
			if row := b.Ops[api.Ctl]; len(row) > 0 && row[0].Do == api.Short {
				shorts++
			}
			for _, tag := range k.Tags[n] {
				times[tag]++
			}
		}
		want := 1
		if count <= api.MaxBody {
			plan, e := modulo.Find(body, m)
			if e != api.OK || plan.Stages < 2 {
				t.Fatal(plan, e)
			}
			want = plan.Stages + 1
		}
		if shorts != min(want, 2) {
			t.Errorf("%d operations: %d times short", count, shorts)
		}
		for n := range body {
			if got := times[api.Tag{Block: 1, Loop: true, Op: n}]; got != want {
				t.Errorf("%d operations: operation %d stands %d times, want %d", count, n, got, want)
			}
		}
	}
}

func TestMostBlocks(t *testing.T) {
	m := example()
	p := api.Program{}
	for n := range api.MaxBlocks {
		p.Blocks = append(p.Blocks, with(jumps(n^1), prints(uint8(n%32))))
	}
	p.Blocks[7] = loops(3, 127, adds(1, 1, 2))
	k := wantTold(t, p, m)
	if len(k.Begins) != api.MaxBlocks || k.Begins[127] != 2*127+6 {
		t.Error(k.Begins)
	}
	p.Blocks = append(p.Blocks, halts(0))
	wantRefused(t, p, m, api.ErrLong)
}

func TestMostOperations(t *testing.T) {
	m := ones()
	k := wantTold(t, blocks(with(halts(1), repeated(prints(1), api.MaxOps-1)...)), m)
	wantNumbers(t, k, m, api.Numbers{Bundles: api.MaxOps, Ops: api.MaxOps, Longest: 1})
	wantRefused(t, blocks(with(halts(1), repeated(prints(1), api.MaxOps)...)), m, api.ErrLong)
	wantRefused(t, blocks(with(halts(1), repeated(prints(1), 600)...), loops(1, 0, repeated(prints(1), 423)...)), m, api.ErrLong)
	wantTold(t, blocks(with(halts(1), repeated(prints(1), 600)...), loops(1, 0, repeated(prints(1), 422)...)), m)
	// What is done early makes it no longer: there is as much in the program as there was.
	p := blocks(with(branches(1, 1, 2), repeated(prints(9), 900)...), with(halts(2), consts(2, 5), consts(3, 5)), with(halts(4), repeated(prints(9), 119)...))
	k = wantTold(t, p, delayed(m, 2))
	if early := earlyIn(k); len(early) != 2 {
		t.Errorf("done early: %v", early)
	}
}

func TestNoProgram(t *testing.T) {
	m := example()
	for _, b := range []api.Block{jumps(2), jumps(-1), branches(1, 2, 0), branches(1, 0, -1), branches(32, 0, 0), halts(32), loops(32, 0), loops(0, 2),
		{End: 4}, {End: -1}, {End: api.EndHalt, Then: 1}, {End: api.EndJump, A: 1}, {End: api.EndJump, Else: 1}, {End: api.EndHalt, Body: []api.Op{prints(1)}}} {
		wantRefused(t, blocks(halts(0), b), m, api.ErrProgram)
		wantRefused(t, blocks(b, halts(0)), m, api.ErrProgram)
	}
	for _, o := range []api.Op{{}, {Do: -1}, {Do: api.Jump}, {Do: api.Again}, {Do: api.Kinds}, consts(32, 0), consts(1, 1<<31), adds(1, 32, 2), {Do: api.Add, Imm: 1}} {
		wantRefused(t, blocks(with(halts(0), o)), m, api.ErrOp)
		wantRefused(t, blocks(halts(0), loops(0, 0, prints(1), o)), m, api.ErrOp)
	}
}

func TestNoTable(t *testing.T) {
	for class := range api.Classes {
		for _, spoil := range []func(*api.Table){
			func(m *api.Table) { m.Units[class] = -1 }, func(m *api.Table) { m.Units[class] = 9 },
			func(m *api.Table) { m.Lat[class] = 0 }, func(m *api.Table) { m.Lat[class] = 9 },
			func(m *api.Table) { m.Busy[class] = 0 }, func(m *api.Table) { m.Busy[class] = 5 },
			func(m *api.Table) { m.Delay = -1 }, func(m *api.Table) { m.Delay = 5 },
		} {
			m := example()
			spoil(&m)
			wantRefused(t, blocks(halts(0)), m, api.ErrTable)
			wantNoNumbers(t, api.Packed{}, m, api.ErrTable)
		}
	}
}

// DOC.md's tenth example: a unit that is needed, and not there, is the one thing for which a table refuses.
func TestNoUnit(t *testing.T) {
	wantRefused(t, blocks(halts(0)), units(example(), 8, 8, 8, 0), api.ErrNoUnit)
	for class, o := range []api.Op{adds(1, 2, 3), multiplies(1, 2, 3), loads(1, 2, 3)} {
		m := example()
		m.Units[class] = 0
		wantRefused(t, blocks(with(halts(0), o)), m, api.ErrNoUnit)
		wantRefused(t, blocks(halts(0), loops(0, 0, o)), m, api.ErrNoUnit)
		wantPacked(t, blocks(jumps(1), halts(0)), m, []string{"jump 2", ""}, []string{"halt r0"})
	}
	wantPacked(t, blocks(jumps(1), halts(0)), units(example(), 0, 0, 0, 1), []string{"jump 2", ""}, []string{"halt r0"})
}

// Of several errors the first is answered: the program's, the table's, the units'.
func TestErrorsInOrder(t *testing.T) {
	noTable, noUnit := delayed(units(example(), 1, 1, 1, 0), 9), units(example(), 1, 1, 1, 0)
	for _, m := range []api.Table{noTable, noUnit, {}, example()} {
		wantRefused(t, api.Program{}, m, api.ErrProgram)
		wantRefused(t, blocks(jumps(1)), m, api.ErrProgram)
		wantRefused(t, blocks(with(halts(0), api.Op{})), m, api.ErrOp)
		wantRefused(t, api.Program{Blocks: make([]api.Block, api.MaxBlocks+1)}, m, api.ErrLong)
	}
	wantRefused(t, blocks(halts(0)), noTable, api.ErrTable)
	wantRefused(t, blocks(halts(0)), api.Table{}, api.ErrTable)
	wantRefused(t, blocks(halts(0)), noUnit, api.ErrNoUnit)
}

func TestNumbers(t *testing.T) {
	m := units(ones(), 2, 1, 2, 1)
	sum, load := uint64(200770), uint64(9007199252654351) // chapter 19's
	rows := [][]uint64{{0, 0, 0, 0, 0, 0}, {sum, sum, 0, load, load, 0}, {0, 0, 0, load, 0, 0}, {0, 0, 0, 0, 0, 0}, {sum, 0, 0, load, 0, api.Halt}}
	words := slices.Concat(rows...)
	wantNumbers(t, api.Packed{Words: words, Tags: make([][]api.Tag, 5)}, m, api.Numbers{Bundles: 5, Ops: 8, Empty: 2, Longest: 4})
	wantNumbers(t, api.Packed{Words: words[:6], Tags: make([][]api.Tag, 1)}, m, api.Numbers{Bundles: 1, Empty: 1})
	wantNumbers(t, api.Packed{Words: words[6:12], Tags: make([][]api.Tag, 1)}, m, api.Numbers{Bundles: 1, Ops: 4, Longest: 4})
	wantNumbers(t, api.Packed{Words: words[12:24], Tags: make([][]api.Tag, 2)}, m, api.Numbers{Bundles: 2, Ops: 1, Empty: 1, Longest: 1})
	// What the tags say, and where blocks begin, does not count.
	wantNumbers(t, api.Packed{Words: words[:6], Tags: [][]api.Tag{{{Block: -1}, {Op: 7}}}, Begins: []int{9, -3}}, m, api.Numbers{Bundles: 1, Empty: 1})
	// No words are no bundles, also where there are no units.
	wantNumbers(t, api.Packed{}, m, api.Numbers{})
	wantNumbers(t, api.Packed{Words: []uint64{}, Tags: [][]api.Tag{}, Begins: []int{1}}, units(m, 0, 0, 0, 0), api.Numbers{})
	most := api.Packed{Words: make([]uint64, api.MaxCycles), Tags: make([][]api.Tag, api.MaxCycles)}
	wantNumbers(t, most, units(m, 0, 0, 0, 1), api.Numbers{Bundles: api.MaxCycles, Empty: api.MaxCycles})
}

func TestNoNumbers(t *testing.T) {
	m := ones()
	one := make([][]api.Tag, 1)
	for _, words := range [][]uint64{{0}, {0, 0, 0, 0, 0}, {63, 0, 0, 0}, {api.Halt, 0, 0, 0}, {0, 0, 0, 1 << 54}, {0, 0, 0, math.MaxUint64}} {
		for tags := range 4 {
			wantNoNumbers(t, api.Packed{Words: words, Tags: make([][]api.Tag, tags)}, m, api.ErrBadBundle)
		}
	}
	wantNoNumbers(t, api.Packed{Words: make([]uint64, 1), Tags: one}, units(m, 0, 0, 0, 0), api.ErrBadBundle)
	wantNoNumbers(t, api.Packed{Words: make([]uint64, 8), Tags: nil}, m, api.ErrArg)
	wantNoNumbers(t, api.Packed{Words: make([]uint64, 8), Tags: one}, m, api.ErrArg)
	wantNoNumbers(t, api.Packed{Words: make([]uint64, 8), Tags: make([][]api.Tag, 3)}, m, api.ErrArg)
	wantNoNumbers(t, api.Packed{Tags: one}, m, api.ErrArg)
	wantNoNumbers(t, api.Packed{Tags: one}, units(m, 0, 0, 0, 0), api.ErrArg)
	wantNoNumbers(t, api.Packed{Words: make([]uint64, api.MaxCycles+1), Tags: one}, units(m, 0, 0, 0, 1), api.ErrLong)
	// The table's error is the first, and what is wrong with the words comes ahead of the tags.
	wantNoNumbers(t, api.Packed{Words: []uint64{1}, Tags: one}, delayed(m, 5), api.ErrTable)
	wantNoNumbers(t, api.Packed{Words: append(make([]uint64, api.MaxCycles), 1), Tags: one}, units(m, 0, 0, 0, 1), api.ErrLong)
}
