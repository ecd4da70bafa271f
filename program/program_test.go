package program

import (
	"math"
	"math/rand"
	"reflect"
	"slices"
	"testing"

	"hayloft/api"
	"hayloft/ops"
)

var (
	say  = api.Op{Do: api.Print, A: 1}
	halt = api.Block{End: api.EndHalt}
)

func of(blocks ...api.Block) api.Program { return api.Program{Blocks: blocks} }

func repeated[T any](x T, n int) []T { return slices.Repeat([]T{x}, n) }

func wantCheck(t *testing.T, name string, p api.Program, want api.Errno) {
	t.Helper()
	if got := Check(p); got != want {
		t.Errorf("%s: Check is %d, want %d", name, got, want)
	}
}

// counted is a line of the chapter's table of ends, written out once more.
type counted struct {
	end  int8
	what string
}

var chapter = []counted{
	{0, "T"},   // jump
	{1, "ATE"}, // branch
	{2, "A"},   // halt
	{3, "ABT"}, // loop
}

func (c counted) has(field byte) bool {
	return slices.Contains([]byte(c.what), field)
}

func TestEndsAreCountedAsTheChapterCounts(t *testing.T) {
	if [...]int{api.EndJump, api.EndBranch, api.EndHalt, api.EndLoop} != [...]int{0, 1, 2, 3} {
		t.Error("api counts the ends otherwise")
	}
}

// P4.1, P4.2: the chapter's examples.
func TestExamples(t *testing.T) {
	for _, x := range []struct {
		name string
		p    api.Program
		e    api.Errno
		n    int
	}{
		{"none", of(), api.ErrProgram, 0},
		{"none, as an empty list", api.Program{Blocks: []api.Block{}}, api.ErrProgram, 0},
		{"halt r0", of(halt), api.OK, 1},
		{"jump 1", of(api.Block{Then: 1}), api.ErrProgram, 1},
		{"a halt with Then 1", of(api.Block{End: api.EndHalt, Then: 1}), api.ErrProgram, 1},
		{"a Nop", of(api.Block{Ops: []api.Op{{}}, End: api.EndHalt}), api.ErrOp, 2},
		{"a Jump among its Ops", of(api.Block{Ops: []api.Op{{Do: api.Jump}}, End: api.EndHalt}), api.ErrOp, 2},
		{"a loop of one print, of register 32", of(api.Block{End: api.EndLoop, A: 32, Body: []api.Op{say}}), api.ErrProgram, 2},
		{"a loop of one print, of register 31", of(api.Block{End: api.EndLoop, A: 31, Body: []api.Op{say}}), api.OK, 2},
		{"a jump to itself", of(api.Block{}), api.OK, 1},
	} {
		wantCheck(t, x.name, x.p, x.e)
		if n := Ops(x.p); n != x.n {
			t.Errorf("%s: Ops is %d, want %d", x.name, n, x.n)
		}
	}
}

// P4.1: blocks up to the bound and one past it.
func TestHowManyBlocks(t *testing.T) {
	for n := 1; n <= 130; n++ {
		want := api.OK
		if n > 128 {
			want = api.ErrLong
		}
		wantCheck(t, "blocks", of(repeated(halt, n)...), want)
	}
	bad := api.Block{Ops: []api.Op{{}}, End: 9}
	wantCheck(t, "128 blocks, wrong", of(repeated(bad, 128)...), api.ErrOp)
	wantCheck(t, "129 blocks, wrong", of(repeated(bad, 129)...), api.ErrLong)
	wantCheck(t, "many blocks", of(repeated(halt, 1<<16)...), api.ErrLong)
}

// P4.1, P4.2: operations up to the bound and one past it, wherever they stand.
func TestHowManyOperations(t *testing.T) {
	for _, n := range []int{1023, 1024, 1025, 1026, 4096} {
		want := api.OK
		if n > 1024 {
			want = api.ErrLong
		}
		for name, p := range map[string]api.Program{
			"in Ops":  of(api.Block{Ops: repeated(say, n-1), End: api.EndHalt}),
			"in Body": of(api.Block{End: api.EndLoop, Body: repeated(say, n-1)}),
			"in both": of(api.Block{Ops: repeated(say, 400), End: api.EndLoop, Body: repeated(say, n-401)}),
			"in the last block": of(append(repeated(halt, 127),
				api.Block{Ops: repeated(say, 300), End: api.EndLoop, Body: repeated(say, n-428)})...),
			"in all blocks": of(append(repeated(api.Block{Ops: repeated(say, 3), End: api.EndLoop, Body: repeated(say, 4)}, 127),
				api.Block{Ops: repeated(say, n-127*8-1), End: api.EndHalt})...),
		} {
			wantCheck(t, name, p, want)
			if got := Ops(p); got != n {
				t.Errorf("%s: Ops is %d, want %d", name, got, n)
			}
		}
	}
}

// P4.1: what is too long is told ahead of all that is wrong within it.
func TestTooLongIsToldFirst(t *testing.T) {
	for name, b := range map[string]api.Block{
		"no operations":      {Ops: make([]api.Op, 1024), End: api.EndHalt},
		"no end":             {Ops: repeated(say, 1024), End: 4},
		"a Body of a halt":   {End: api.EndHalt, Body: repeated(say, 1024)},
		"no operations body": {End: api.EndLoop, Body: make([]api.Op, 1024)},
	} {
		wantCheck(t, name, of(b), api.ErrLong)
	}
	wantCheck(t, "wrong ahead of what is too much",
		of(api.Block{Ops: []api.Op{{}}, End: 9}, api.Block{Ops: repeated(say, 1022), End: api.EndHalt}), api.ErrLong)
}

// P4.1: each kind within Ops and within Body, and numbers that are no kind.
func TestKinds(t *testing.T) {
	for n := -128; n <= 127; n++ {
		o := api.Op{Do: int8(n)}
		want := api.ErrOp
		if 1 <= n && n <= 17 {
			want = api.OK
		}
		for at := range 3 {
			list := repeated(say, 3)
			list[at] = o
			wantCheck(t, "in Ops", of(api.Block{Ops: list, End: api.EndHalt}), want)
			wantCheck(t, "in Body", of(api.Block{End: api.EndLoop, Body: list}), want)
		}
	}
}

// P4.1: an operation counts only as chapter 3 takes it.
func TestOperationsThatChapter3Refuses(t *testing.T) {
	for _, o := range []api.Op{
		{Do: api.Add, Imm: 1},
		{Do: api.Add, D: 32},
		{Do: api.Store, A: 32},
		{Do: api.Xor, B: 32},
		{Do: api.Print, D: 1},
		{Do: api.Move, B: 1},
		{Do: api.Const, A: 1},
		{Do: api.Const, Imm: 1 << 31},
		{Do: api.Const, Imm: -1<<31 - 1},
		{Do: api.Load, Imm: math.MaxInt64},
	} {
		wantCheck(t, "in Ops", of(api.Block{Ops: []api.Op{say, o}, End: api.EndHalt}), api.ErrOp)
		wantCheck(t, "in Body", of(api.Block{End: api.EndLoop, Body: []api.Op{say, o}}), api.ErrOp)
	}
	for _, o := range []api.Op{
		{Do: api.Add, D: 31, A: 31, B: 31},
		{Do: api.Const, D: 31, Imm: 1<<31 - 1},
		{Do: api.Store, A: 31, B: 31, Imm: -1 << 31},
	} {
		wantCheck(t, "in Ops", of(api.Block{Ops: []api.Op{o}, End: api.EndHalt}), api.OK)
		wantCheck(t, "in Body", of(api.Block{End: api.EndLoop, Body: []api.Op{o}}), api.OK)
	}
}

// P4.1: every number as an End.
func TestEnds(t *testing.T) {
	for n := -128; n <= 127; n++ {
		want := api.ErrProgram
		if 0 <= n && n <= 3 {
			want = api.OK
		}
		wantCheck(t, "End", of(api.Block{End: int8(n)}), want)
		wantCheck(t, "End behind another block", of(halt, api.Block{End: int8(n)}), want)
	}
}

// P4.1: register A, at every number, of every end.
func TestRegisterOfAnEnd(t *testing.T) {
	for _, c := range chapter {
		for a := range 256 {
			want := api.ErrProgram
			if c.has('A') && a <= 31 || a == 0 {
				want = api.OK
			}
			wantCheck(t, "A", of(api.Block{End: c.end, A: uint8(a)}), want)
		}
	}
}

// P4.1: Then and Else, within and out of the blocks, of every end and in programs of some lengths.
func TestBlocksNumbersOfAnEnd(t *testing.T) {
	numbers := []int{math.MinInt, -1 << 32, -1<<32 + 1, -2, -1, 0, 1, 2, 3, 126, 127, 128, 129, 255, 256, 257, 1 << 32, 1<<32 + 1, math.MaxInt}
	for _, c := range chapter {
		for _, blocks := range []int{1, 2, 3, 127, 128} {
			for _, n := range numbers {
				for _, at := range []int{0, blocks / 2, blocks - 1} {
					for _, x := range []struct {
						name   string
						counts bool
						b      api.Block
					}{
						{"Then", c.has('T'), api.Block{End: c.end, Then: n}},
						{"Else", c.has('E'), api.Block{End: c.end, Else: n}},
					} {
						want := api.ErrProgram
						if n == 0 || x.counts && 0 < n && n < blocks {
							want = api.OK
						}
						list := repeated(halt, blocks)
						list[at] = x.b
						wantCheck(t, x.name, of(list...), want)
					}
				}
			}
		}
	}
}

// P4.1, R6: a Body where it does not count; an empty one is none.
func TestBodyOfAnEnd(t *testing.T) {
	for _, c := range chapter {
		want := api.ErrProgram
		if c.has('B') {
			want = api.OK
		}
		wantCheck(t, "one", of(api.Block{End: c.end, Body: []api.Op{say}}), want)
		wantCheck(t, "two", of(api.Block{End: c.end, Body: []api.Op{say, say}}), want)
		wantCheck(t, "empty", of(api.Block{End: c.end, Body: []api.Op{}}), api.OK)
		wantCheck(t, "nil", of(api.Block{End: c.end, Ops: []api.Op{}}), api.OK)
		wantCheck(t, "with room behind its end", of(api.Block{End: c.end, Body: []api.Op{{Do: 99}}[:0]}), api.OK)
	}
}

// P4.1: a block with more than one thing wrong.
func TestOrderWithinABlock(t *testing.T) {
	bad := []api.Op{say, {}}
	for _, x := range []struct {
		name string
		b    api.Block
		want api.Errno
	}{
		{"Ops ahead of End", api.Block{Ops: bad, End: 4}, api.ErrOp},
		{"Ops ahead of A", api.Block{Ops: bad, End: api.EndHalt, A: 32}, api.ErrOp},
		{"Ops ahead of Then", api.Block{Ops: bad, Then: 1}, api.ErrOp},
		{"Ops ahead of Else", api.Block{Ops: bad, End: api.EndBranch, Else: 1}, api.ErrOp},
		{"Ops ahead of a Body that does not count", api.Block{Ops: bad, End: api.EndHalt, Body: []api.Op{say}}, api.ErrOp},
		{"End ahead of Body", api.Block{End: 4, Body: bad}, api.ErrProgram},
		{"End below 0 ahead of Body", api.Block{End: -1, Body: bad}, api.ErrProgram},
		{"A ahead of Body", api.Block{End: api.EndLoop, A: 32, Body: bad}, api.ErrProgram},
		{"Then ahead of Body", api.Block{End: api.EndLoop, Then: 1, Body: bad}, api.ErrProgram},
		{"Then below 0 ahead of Body", api.Block{End: api.EndLoop, Then: -1, Body: bad}, api.ErrProgram},
		{"Else ahead of Body", api.Block{End: api.EndLoop, Else: 1, Body: bad}, api.ErrProgram},
		{"a Body that does not count ahead of what stands in it", api.Block{End: api.EndHalt, Body: bad}, api.ErrProgram},
		{"Ops ahead of Body", api.Block{Ops: bad, End: api.EndLoop, Body: bad}, api.ErrOp},
		{"Body alone", api.Block{Ops: []api.Op{say}, End: api.EndLoop, A: 31, Body: bad}, api.ErrOp},
	} {
		wantCheck(t, x.name, of(x.b), x.want)
	}
}

// P4.1: of two wrong blocks the first one tells.
func TestOrderOfBlocks(t *testing.T) {
	badOps := api.Block{Ops: []api.Op{{Do: api.Halt}}, End: api.EndHalt}
	badEnd := api.Block{End: 7}
	badBody := api.Block{End: api.EndLoop, Body: []api.Op{{Do: api.Again}}}
	for _, x := range []struct {
		name string
		p    api.Program
		want api.Errno
	}{
		{"Ops, End", of(badOps, badEnd), api.ErrOp},
		{"End, Ops", of(badEnd, badOps), api.ErrProgram},
		{"Body, End", of(badBody, badEnd), api.ErrOp},
		{"End, Body", of(badEnd, badBody), api.ErrProgram},
		{"right, End, Ops", of(halt, badEnd, badOps), api.ErrProgram},
		{"right, Body, End", of(halt, badBody, badEnd), api.ErrOp},
		{"Ops, right, End", of(badOps, halt, badEnd), api.ErrOp},
		{"right, right, End", of(halt, halt, badEnd), api.ErrProgram},
		{"right, right, Body", of(halt, halt, badBody), api.ErrOp},
	} {
		wantCheck(t, x.name, x.p, x.want)
	}
}

// P4.2: Ops counts what Check refuses, too.
func TestOpsOfWhatIsRefused(t *testing.T) {
	for _, x := range []struct {
		p    api.Program
		want int
	}{
		{of(), 0},
		{of(repeated(api.Block{End: -1}, 1000)...), 1000},
		{of(api.Block{Ops: make([]api.Op, 5), End: 99, Body: make([]api.Op, 7)}), 13},
		{of(api.Block{End: api.EndHalt, Body: make([]api.Op, 2)}, api.Block{Ops: make([]api.Op, 3)}), 7},
		{of(api.Block{Ops: make([]api.Op, 1<<16), Body: make([]api.Op, 1<<16)}), 1<<17 + 1},
	} {
		if Check(x.p) == api.OK {
			t.Error("a program that is none is taken")
		}
		if got := Ops(x.p); got != x.want {
			t.Errorf("Ops is %d, want %d", got, x.want)
		}
	}
}

// allOf answers a table with as many units of each class.
func allOf(units int) api.Table {
	var t api.Table
	for class := range api.Classes {
		t.Units[class], t.Lat[class], t.Busy[class] = units, 1, 1
	}
	return t
}

func without(class int) api.Table {
	t := allOf(1)
	t.Units[class] = 0
	return t
}

func wantNeeds(t *testing.T, name string, p api.Program, m api.Table, want api.Errno) {
	t.Helper()
	if got := Needs(p, m); got != want {
		t.Errorf("%s: Needs is %d, want %d", name, got, want)
	}
}

// P4.3: the chapter's examples, and the order of the errors.
func TestNeedsTellsItsErrorsInOrder(t *testing.T) {
	wantNeeds(t, "halt r0 without Mul", of(halt), without(api.Mul), api.OK)
	wantNeeds(t, "halt r0 without Ctl", of(halt), without(api.Ctl), api.ErrNoUnit)

	badOp := of(api.Block{Ops: []api.Op{{}}, End: api.EndHalt})
	long := of(repeated(halt, 129)...)
	for name, m := range map[string]api.Table{"no table": {}, "no unit of Ctl": without(api.Ctl), "all": allOf(1)} {
		wantNeeds(t, "none, "+name, of(), m, api.ErrProgram)
		wantNeeds(t, "no operation, "+name, badOp, m, api.ErrOp)
		wantNeeds(t, "too long, "+name, long, m, api.ErrLong)
	}

	bad := without(api.Ctl)
	bad.Delay = 5
	wantNeeds(t, "no table, no unit of Ctl", of(halt), bad, api.ErrTable)
	wantNeeds(t, "no table at all", of(halt), api.Table{}, api.ErrTable)
	less := allOf(1)
	less.Units[api.Mul] = -1
	wantNeeds(t, "units below 0, not used", of(halt), less, api.ErrTable)
	more := without(api.Ctl)
	more.Units[api.Alu] = 9
	wantNeeds(t, "a unit too many, no unit of Ctl", of(halt), more, api.ErrTable)
}

// P4.3: each kind, in Ops and in Body, against a table without each class.
func TestNeedsOfEveryKind(t *testing.T) {
	for do := int8(1); do <= 17; do++ {
		own := api.Alu
		switch {
		case do >= 15:
			own = api.Mem
		case do >= 12:
			own = api.Mul
		}
		list := []api.Op{{Do: do}}
		for name, p := range map[string]api.Program{
			"Ops":         of(api.Block{Ops: list, End: api.EndHalt}),
			"Body":        of(api.Block{End: api.EndLoop, Body: list}),
			"later block": of(halt, api.Block{End: api.EndLoop}, api.Block{Ops: list}),
			"later Body":  of(halt, api.Block{End: api.EndLoop, Body: list}, halt),
		} {
			wantNeeds(t, name, p, allOf(1), api.OK)
			for class := range api.Classes {
				want := api.OK
				if class == own || class == api.Ctl {
					want = api.ErrNoUnit
				}
				wantNeeds(t, name, p, without(class), want)
			}
		}
	}
}

// P4.3: ends need Ctl alone, whichever they are.
func TestNeedsOfEveryEnd(t *testing.T) {
	for _, c := range chapter {
		m := allOf(0)
		wantNeeds(t, "no unit", of(api.Block{End: c.end}), m, api.ErrNoUnit)
		m.Units[api.Ctl] = 1
		wantNeeds(t, "Ctl alone", of(api.Block{End: c.end}), m, api.OK)
	}
}

// guess answers a program that may be none, wrong more often the greater wrong is.
func guess(r *rand.Rand, wrong int) api.Program {
	var p api.Program
	blocks := 1 + r.Intn(5)
	for range blocks {
		b := api.Block{Ops: guessOps(r, wrong), End: int8(r.Intn(4))}
		c := chapter[b.End]
		odd := func() bool { return r.Intn(100) < wrong }
		if c.has('A') != odd() {
			b.A = uint8(r.Intn(32))
		}
		if odd() {
			b.A = uint8(r.Intn(256))
		}
		if c.has('T') != odd() {
			b.Then = r.Intn(blocks)
		}
		if c.has('E') != odd() {
			b.Else = r.Intn(blocks)
		}
		if odd() {
			b.Then, b.Else = r.Intn(blocks+3)-1, r.Intn(blocks+3)-1
		}
		if c.has('B') != odd() {
			b.Body = guessOps(r, wrong)
		}
		if odd() {
			b.End = int8(r.Intn(7) - 1)
		}
		p.Blocks = append(p.Blocks, b)
	}
	return p
}

func guessOps(r *rand.Rand, wrong int) []api.Op {
	var list []api.Op
	for range r.Intn(4) {
		o := api.Op{Do: int8(1 + r.Intn(17))}
		if r.Intn(100) < wrong {
			o = api.Op{Do: int8(r.Intn(26) - 1), A: uint8(r.Intn(40))}
		}
		list = append(list, o)
	}
	return list
}

// told answers what the promise says of a program: all that is wrong, in its order, the first of it told.
func told(p api.Program) api.Errno {
	var wrong []api.Errno
	add := func(e api.Errno, is bool) {
		if is {
			wrong = append(wrong, e)
		}
	}
	list := func(l []api.Op) {
		for _, o := range l {
			_, known := map[int8]int{1: 0, 2: 0, 3: 0, 4: 0, 5: 0, 6: 0, 7: 0, 8: 0, 9: 0, 10: 0, 11: 0, 12: 0, 13: 0, 14: 0, 15: 0, 16: 0, 17: 0}[o.Do]
			add(api.ErrOp, !known || ops.Check(o) != api.OK)
		}
	}
	add(api.ErrProgram, len(p.Blocks) == 0)
	n := len(p.Blocks)
	for _, b := range p.Blocks {
		list(b.Ops)
		switch b.End {
		case 0:
			add(api.ErrProgram, b.A != 0 || b.Then < 0 || b.Then >= n || b.Else != 0 || len(b.Body) != 0)
		case 1:
			add(api.ErrProgram, b.A > 31 || b.Then < 0 || b.Then >= n || b.Else < 0 || b.Else >= n || len(b.Body) != 0)
		case 2:
			add(api.ErrProgram, b.A > 31 || b.Then != 0 || b.Else != 0 || len(b.Body) != 0)
		case 3:
			add(api.ErrProgram, b.A > 31 || b.Then < 0 || b.Then >= n || b.Else != 0)
		default:
			add(api.ErrProgram, true)
		}
		list(b.Body)
	}
	return append(wrong, api.OK)[0]
}

// P4.1: programs by the thousand against the promise told once more.
func TestCheckOfManyPrograms(t *testing.T) {
	r := rand.New(rand.NewSource(4))
	seen := map[api.Errno]int{}
	for range 30000 {
		p := guess(r, r.Intn(12))
		want := told(p)
		seen[want]++
		if got := Check(p); got != want {
			t.Fatalf("Check(%+v) is %d, want %d", p, got, want)
		}
	}
	for _, e := range []api.Errno{api.OK, api.ErrOp, api.ErrProgram} {
		if seen[e] < 1000 {
			t.Errorf("%d came up only %d times", e, seen[e])
		}
	}
}

// goesBeyond answers whether a Then or an Else that counts is no number below blocks.
func goesBeyond(list []api.Block, blocks int) bool {
	return slices.ContainsFunc(list, func(b api.Block) bool {
		c := chapter[b.End]
		return c.has('T') && b.Then >= blocks || c.has('E') && b.Else >= blocks
	})
}

// P4.4: a program cut behind a block; what is taken has from 1 to 1024 operations.
func TestCutBehindABlock(t *testing.T) {
	r := rand.New(rand.NewSource(44))
	taken, refused := 0, 0
	for range 10000 {
		p := guess(r, 0)
		if e := Check(p); e != api.OK {
			t.Fatalf("Check(%+v) is %d", p, e)
		}
		if n := Ops(p); n < 1 || n > 1024 {
			t.Fatalf("a program of %d operations is taken", n)
		}
		for k := 1; k < len(p.Blocks); k++ {
			want := api.OK
			if goesBeyond(p.Blocks[:k], k) {
				want = api.ErrProgram
				refused++
			} else {
				taken++
			}
			wantCheck(t, "cut", of(p.Blocks[:k]...), want)
		}
	}
	if taken < 1000 || refused < 1000 {
		t.Errorf("only %d cuts taken, %d refused", taken, refused)
	}
	wantCheck(t, "cut to nothing", of(repeated(halt, 3)[:0]...), api.ErrProgram)
}

func guessTable(r *rand.Rand) api.Table {
	t := api.Table{Delay: r.Intn(5)}
	for class := range api.Classes {
		t.Units[class], t.Lat[class], t.Busy[class] = min(r.Intn(4), 2), 1+r.Intn(8), 1+r.Intn(4)
	}
	return t
}

// uses answers which classes a program that was taken uses, by the chapter's names.
func uses(p api.Program) map[int]int {
	used := map[int]int{api.Ctl: len(p.Blocks)}
	for _, b := range p.Blocks {
		for _, o := range append(slices.Clone(b.Ops), b.Body...) {
			class, _ := ops.Class(o.Do)
			used[class]++
		}
	}
	return used
}

// P4.3, P4.5: a unit more takes nothing away; units of classes that are not used make no difference.
func TestAUnitMore(t *testing.T) {
	r := rand.New(rand.NewSource(45))
	seen := map[api.Errno]int{}
	for range 10000 {
		p, m := guess(r, 0), guessTable(r)
		used := uses(p)
		want := api.OK
		for class := range used {
			if m.Units[class] == 0 {
				want = api.ErrNoUnit
			}
		}
		seen[want]++
		wantNeeds(t, "as it is", p, m, want)
		for class := range api.Classes {
			more := m
			more.Units[class]++
			if want == api.OK {
				wantNeeds(t, "a unit more", p, more, api.OK)
			}
			if used[class] > 0 {
				continue
			}
			for units := range 9 {
				other := m
				other.Units[class] = units
				wantNeeds(t, "a class that is not used", p, other, want)
			}
		}
	}
	if seen[api.OK] < 1000 || seen[api.ErrNoUnit] < 1000 {
		t.Errorf("came up: %v", seen)
	}
}

// R2, R3: no argument is changed, nor the room behind its lists' ends, and what is asked twice is answered twice alike.
func TestNothingIsChanged(t *testing.T) {
	deep := func(p api.Program) api.Program {
		q := api.Program{Blocks: slices.Clone(p.Blocks[:cap(p.Blocks)])}
		for i := range q.Blocks {
			q.Blocks[i].Ops = slices.Clone(q.Blocks[i].Ops)
			q.Blocks[i].Body = slices.Clone(q.Blocks[i].Body)
		}
		return q
	}
	r := rand.New(rand.NewSource(3))
	for range 2000 {
		p, m := guess(r, r.Intn(12)), guessTable(r)
		p.Blocks = append(p.Blocks, halt, halt)[:len(p.Blocks)]
		before, n := deep(p), len(p.Blocks)
		e, k, needs := Check(p), Ops(p), Needs(p, m)
		if e2, k2, needs2 := Check(p), Ops(p), Needs(p, m); e != e2 || k != k2 || needs != needs2 {
			t.Fatalf("asked twice: %d %d %d, %d %d %d", e, k, needs, e2, k2, needs2)
		}
		if len(p.Blocks) != n || !reflect.DeepEqual(deep(p), before) {
			t.Fatalf("changed to %+v", p)
		}
	}
}

// FuzzProgram holds Check against the promise told once more, and what follows of it.
func FuzzProgram(f *testing.F) {
	f.Add(int64(1), uint8(0), int8(2), uint8(0), 0, 0, int8(17), uint8(1))
	f.Add(int64(2), uint8(9), int8(3), uint8(32), 1, -1, int8(18), uint8(0))
	f.Add(int64(3), uint8(0), int8(-1), uint8(31), 5, 5, int8(0), uint8(40))
	f.Fuzz(func(t *testing.T, seed int64, wrong uint8, end int8, a uint8, then, orElse int, do int8, d uint8) {
		r := rand.New(rand.NewSource(seed))
		p := guess(r, int(wrong%13))
		o := api.Op{Do: do, D: d}
		p.Blocks = append(p.Blocks, api.Block{Ops: []api.Op{o}, End: end, A: a, Body: []api.Op{o}, Then: then, Else: orElse})
		want := told(p)
		if got := Check(p); got != want {
			t.Fatalf("Check(%+v) is %d, want %d", p, got, want)
		}
		m := guessTable(r)
		if got := Needs(p, m); want != api.OK && got != want {
			t.Fatalf("Needs(%+v) is %d, want %d", p, got, want)
		}
	})
}
