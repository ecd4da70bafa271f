package better

import (
	"fmt"
	"math"
	"math/rand"
	"reflect"
	"slices"
	"strings"
	"testing"

	"hayloft/api"
	"hayloft/ops"
	"hayloft/parse"
	"hayloft/program"
	"hayloft/show"
)

// read answers the program that is told so: its blocks, with commas between their lines, from block 0 on.
func read(t testing.TB, blocks ...string) api.Program {
	t.Helper()
	var text strings.Builder
	for n, lines := range blocks {
		fmt.Fprintf(&text, "block %d:\n%s\n", n, strings.ReplaceAll(lines, ", ", "\n"))
	}
	p, e := parse.Program(text.String())
	if e != nil {
		t.Fatalf("%q: %v", text.String(), e)
	}
	return p
}

// told is a program on one line.
func told(p api.Program) string {
	text, e := show.Text(p)
	if e != api.OK {
		return fmt.Sprint(e, p)
	}
	return strings.ReplaceAll(strings.TrimSpace(text), "\n", ",")
}

// sameBlock answers whether two blocks are one, be an empty list nil or not.
func sameBlock(a, b api.Block) bool {
	return slices.Equal(a.Ops, b.Ops) && slices.Equal(a.Body, b.Body) && a.End == b.End && a.A == b.A && a.Then == b.Then && a.Else == b.Else
}

func same(p, q api.Program) bool { return slices.EqualFunc(p.Blocks, q.Blocks, sameBlock) }

func folded(t testing.TB, p api.Program) api.Program {
	t.Helper()
	return made(t, "Fold", Fold, p)
}

func buried(t testing.TB, p api.Program) api.Program {
	t.Helper()
	return made(t, "Bury", Bury, p)
}

// made answers what is made of a program, and says that it is a program, and that the one that was handed in is as it was.
func made(t testing.TB, name string, do func(api.Program) (api.Program, api.Errno), p api.Program) api.Program {
	t.Helper()
	was := wholeProgram(p)
	q, e := do(p)
	if e != api.OK || program.Check(q) != api.OK {
		t.Fatalf("%s of %s: %v, %s", name, told(p), e, told(q))
	}
	if !reflect.DeepEqual(wholeProgram(p), was) {
		t.Fatalf("%s of %s changed it", name, told(p))
	}
	return q
}

// blocks is a program that is told as read takes it.
type blocks = []string

// wantFold says what Fold makes of a program, that of it it makes nothing else, and that the chapter told a second time makes the same.
func wantFold(t *testing.T, from, to blocks) {
	t.Helper()
	p, want := read(t, from...), read(t, to...)
	q := folded(t, p)
	if !same(q, want) || !same(foldTold(p), want) || !same(folded(t, q), want) {
		t.Errorf("Fold of %s: %s, want %s", told(p), told(q), told(want))
	}
}

// wantBury says the like of Bury.
func wantBury(t *testing.T, from, to blocks) {
	t.Helper()
	p, want := read(t, from...), read(t, to...)
	q := buried(t, p)
	second := buryTold(rand.New(rand.NewSource(25)), p).p
	if !same(q, want) || !same(second, want) || !same(buried(t, q), want) {
		t.Errorf("Bury of %s: %s, want %s", told(p), told(q), told(want))
	}
}

// wantList says what Fold makes of a list, be it a block's Ops or its body.
func wantList(t *testing.T, from, to string) {
	t.Helper()
	wantFold(t, blocks{from + ", halt r31"}, blocks{to + ", halt r31"})
	wantFold(t, blocks{"loop r31 {, " + from + ", }, jump 0"}, blocks{"loop r31 {, " + to + ", }, jump 0"})
}

func TestChapterExamples(t *testing.T) {
	list, to := "const r1 2, const r2 3, times r3 r1 r2, add r4 r3 r9", "const r1 2, const r2 3, const r3 6, add r4 r3 r9"
	wantList(t, list, to)
	wantList(t, "const r1 0, divide r2 r1 r1", "const r1 0, divide r2 r1 r1")
	ends := blocks{"halt r0", "halt r0", "halt r0", "halt r0", "halt r0", "halt r0"}
	wantFold(t, append(blocks{"const r1 0, branch r1 5 6"}, ends...), append(blocks{"const r1 0, jump 6"}, ends...))
	wantBury(t, blocks{list + ", halt r9"}, blocks{"halt r9"})
	wantBury(t, blocks{to + ", halt r9"}, blocks{"halt r9"})
}

// The ninth of DOC.md's examples.
func TestFoldedAndBuried(t *testing.T) {
	p := read(t, "const r1 2, const r2 3, times r3 r1 r2, print r3, halt r3")
	if q := buried(t, folded(t, p)); !same(q, read(t, "const r3 6, print r3, halt r3")) {
		t.Error(told(q))
	}
}

// longer answers a program of so many operations, and as many blocks.
func longer(operations, blocks int) api.Program {
	p := api.Program{Blocks: make([]api.Block, blocks)}
	p.Blocks[0].Ops = slices.Repeat([]api.Op{{Do: api.Const}}, operations-blocks)
	for n := range p.Blocks {
		p.Blocks[n].End = api.EndHalt
	}
	return p
}

// refused are programs that are none, and the errors that tell it.
func refused() map[string]struct {
	p    api.Program
	want api.Errno
} {
	type row = struct {
		p    api.Program
		want api.Errno
	}
	one := func(b api.Block) api.Program { return api.Program{Blocks: []api.Block{b}} }
	list := func(l ...api.Op) []api.Op { return l }
	jump := api.Op{Do: api.Jump}
	return map[string]row{
		"no block":                     {api.Program{}, api.ErrProgram},
		"a list of no block":           {api.Program{Blocks: []api.Block{}}, api.ErrProgram},
		"129 blocks":                   {longer(129, 129), api.ErrLong},
		"1025 operations":              {longer(1025, 1), api.ErrLong},
		"1025 operations, one a Jump":  {api.Program{Blocks: append(longer(1023, 1).Blocks, api.Block{Ops: list(jump)})}, api.ErrLong},
		"a Nop":                        {one(api.Block{Ops: list(api.Op{}), End: api.EndHalt}), api.ErrOp},
		"a Jump":                       {one(api.Block{Ops: list(jump), End: api.EndHalt}), api.ErrOp},
		"kind 24":                      {one(api.Block{Ops: list(api.Op{Do: api.Kinds}), End: api.EndHalt}), api.ErrOp},
		"kind -1":                      {one(api.Block{Ops: list(api.Op{Do: -1}), End: api.EndHalt}), api.ErrOp},
		"register 32":                  {one(api.Block{Ops: list(api.Op{Do: api.Add, D: 32}), End: api.EndHalt}), api.ErrOp},
		"an Imm too great":             {one(api.Block{Ops: list(api.Op{Do: api.Const, Imm: 1 << 31}), End: api.EndHalt}), api.ErrOp},
		"an Add with Imm":              {one(api.Block{Ops: list(api.Op{Do: api.Add, Imm: 1}), End: api.EndHalt}), api.ErrOp},
		"a Nop in a body":              {one(api.Block{End: api.EndLoop, Body: list(api.Op{})}), api.ErrOp},
		"end 4":                        {one(api.Block{End: 4}), api.ErrProgram},
		"end -1":                       {one(api.Block{End: -1}), api.ErrProgram},
		"a jump with A":                {one(api.Block{A: 1}), api.ErrProgram},
		"a branch of register 32":      {one(api.Block{End: api.EndBranch, A: 32}), api.ErrProgram},
		"a jump to no block":           {one(api.Block{Then: 1}), api.ErrProgram},
		"a branch to no block":         {one(api.Block{End: api.EndBranch, Else: 1}), api.ErrProgram},
		"a turn below 0":               {one(api.Block{Then: -1}), api.ErrProgram},
		"a jump with Else":             {api.Program{Blocks: []api.Block{{Else: 1}, {End: api.EndHalt}}}, api.ErrProgram},
		"a halt with Then":             {api.Program{Blocks: []api.Block{{End: api.EndHalt, Then: 1}, {End: api.EndHalt}}}, api.ErrProgram},
		"a branch with a body":         {one(api.Block{End: api.EndBranch, Body: list(api.Op{Do: api.Print})}), api.ErrProgram},
		"an operation ahead of an end": {one(api.Block{Ops: list(jump), End: 4}), api.ErrOp},
		"a block ahead of another one": {api.Program{Blocks: []api.Block{{End: 4}, {Ops: list(jump)}}}, api.ErrProgram},
	}
}

func TestProgramsThatAreNone(t *testing.T) {
	for name, row := range refused() {
		if e := program.Check(row.p); e != row.want {
			t.Fatalf("%s: %v", name, e)
		}
		for _, do := range []func(api.Program) (api.Program, api.Errno){Fold, Bury} {
			if q, e := do(row.p); e != row.want || len(q.Blocks) > 0 {
				t.Errorf("%s: %v, %v, want %v", name, q, e, row.want)
			}
		}
	}
}

func TestShortLists(t *testing.T) {
	wantFold(t, blocks{"halt r0"}, blocks{"halt r0"})
	wantBury(t, blocks{"halt r0"}, blocks{"halt r0"})
	wantFold(t, blocks{"loop r0 {, }, jump 0"}, blocks{"loop r0 {, }, jump 0"})
	wantBury(t, blocks{"loop r0 {, }, jump 0"}, blocks{"loop r0 {, }, jump 0"})
	for _, line := range []string{"const r1 7", "add r1 r2 r3", "move r1 r1", "times r1 r1 r1", "divide r1 r1 r1", "equal r1 r1 r1", "sub r1 r1 r1", "load r1 r1 0", "store r1 r1 0", "print r1"} {
		wantList(t, line, line) // nothing is known, though some come to the same whatever r1 holds
		wantBury(t, blocks{line + ", halt r1"}, blocks{line + ", halt r1"})
	}
}

// sample is numbers for a kind, and what it comes to with them.
type sample struct {
	a, b int64
	want int64
}

func samples() map[int8]sample {
	return map[int8]sample{
		api.Add: {-7, 9, 2}, api.Sub: {-7, 9, -16}, api.And: {-7, 12, 8}, api.Or: {-8, 12, -4}, api.Xor: {-7, 12, -11},
		api.Shl: {-7, 67, -56}, api.Shr: {-7, 65, -4}, api.Less: {-7, 9, 1}, api.Equal: {-7, 9, 0}, api.Move: {-7, 9, -7},
		api.Times: {-7, 9, -63}, api.Divide: {-29, 9, -3}, api.Rest: {-29, 9, -2},
	}
}

// Each kind with both registers known, one of them, none; and with the register that it writes among them.
func TestEachKind(t *testing.T) {
	for do := int8(api.Add); do <= api.Rest; do++ {
		s, ok := samples()[do]
		if !ok {
			t.Fatal(do)
		}
		for _, o := range []api.Op{opOf(int(do), 3, 1, 2, 0), opOf(int(do), 1, 1, 2, 0), opOf(int(do), 2, 1, 2, 0)} {
			name, _ := ops.Text(o)
			left, right := fmt.Sprintf("const r1 %d, ", s.a), fmt.Sprintf("const r2 %d, ", s.b)
			to := fmt.Sprintf("const r%d %d", o.D, s.want)
			wantList(t, left+right+name, left+right+to)
			wantList(t, right+left+name, right+left+to)
			wantList(t, right+name, right+name)
			wantList(t, name, name)
			if do == api.Move {
				wantList(t, left+name, left+to)
			} else {
				wantList(t, left+name, left+name)
			}
			wantList(t, left+right+name+", print r3, "+name, folding(left+right, o, s, "print r3"))
		}
		same := opOf(int(do), 1, 1, 1, 0)
		c, _ := comesTo(do, 5, 5)
		name, _ := ops.Text(same)
		wantList(t, "const r1 5, "+name, fmt.Sprintf("const r1 5, const r1 %d", c))
	}
}

// folding answers what becomes of an operation twice, with another one between: if it writes what it reads, the second one goes on from the first.
func folding(ahead string, o api.Op, s sample, between string) string {
	a, b := s.a, s.b
	switch {
	case o.D == 1:
		a = s.want
	case o.D == 2 && o.Do != api.Move:
		b = s.want
	}
	first := fmt.Sprintf("%sconst r%d %d, %s, ", ahead, o.D, s.want, between)
	if c, ok := comesTo(o.Do, a, b); ok {
		return first + fmt.Sprintf("const r%d %d", o.D, c)
	}
	name, _ := ops.Text(o)
	return first + name
}

// constants answers two Consts, and an operation with them.
func constants(a, b int64, last string) string {
	return fmt.Sprintf("const r1 %d, const r2 %d, %s", a, b, last)
}

// What a Const holds just so and just not, and what wraps round.
func TestBounds(t *testing.T) {
	const low, high = math.MinInt32, math.MaxInt32
	for _, row := range []struct {
		name string
		a, b int64
		want int64
	}{
		{"add", low, -1, low - 1}, {"add", low, 0, low}, {"add", low + 1, -1, low}, {"sub", low, 1, low - 1}, {"sub", low + 1, 1, low},
		{"add", high, 1, high + 1}, {"add", high, 0, high}, {"add", high - 1, 1, high}, {"sub", high, -1, high + 1}, {"sub", 0, low, high + 1}, {"sub", -1, low, high},
		{"times", low, -1, high + 1}, {"times", low, 1, low}, {"times", high, -1, low + 1}, {"times", 1 << 16, 1 << 15, 1 << 31}, {"times", 1 << 16, -1 << 15, low},
		{"times", low, low, 1 << 62}, {"times", high, high, 1<<62 - 1<<32 + 1},
		{"divide", low, -1, high + 1}, {"divide", low, 1, low}, {"divide", high, -1, low + 1}, {"rest", low, -1, 0}, {"rest", low, high, -1},
		{"shl", 1, 31, 1 << 31}, {"shl", -1, 31, low}, {"shl", -1, 32, -1 << 32}, {"shl", 1, 30, 1 << 30}, {"shl", 1, 62, 1 << 62},
		{"shl", 1, 63, math.MinInt64}, {"shl", 2, 63, 0}, {"shl", 3, 63, math.MinInt64}, {"shl", low, 33, 0}, {"shl", 5, 62, 1 << 62}, {"shl", 7, 64, 7}, {"shl", 7, -64, 7}, {"shl", 7, low, 7},
		{"shr", low, 1, -1 << 30}, {"shr", low, 63, -1}, {"shr", high, 63, 0}, {"xor", low, high, -1}, {"or", low, high, -1}, {"and", low, high, 0},
	} {
		line := row.name + " r3 r1 r2"
		to := line
		if low <= row.want && row.want <= high {
			to = fmt.Sprintf("const r3 %d", row.want)
		}
		wantList(t, constants(row.a, row.b, line), constants(row.a, row.b, to))
	}
}

// What is too great for a Const is not known, so that nothing is reckoned on with it.
func TestTooGreatIsNotKnown(t *testing.T) {
	list := constants(1, 63, "shl r3 r1 r2, shr r4 r3 r2, const r5 -1, divide r6 r3 r5, rest r7 r3 r5, less r8 r3 r1")
	wantList(t, list, list)
	list = constants(math.MaxInt32, 1, "add r3 r1 r2, sub r4 r3 r2, move r5 r3, sub r6 r3 r3")
	wantList(t, list, list)
}

func TestTraps(t *testing.T) {
	for _, line := range []string{"divide r3 r1 r2", "rest r3 r1 r2", "divide r1 r1 r2", "rest r2 r2 r2", "divide r3 r9 r2", "rest r3 r9 r2"} {
		list := constants(6, 0, line+", add r4 r3 r3")
		wantList(t, list, list)
	}
	wantList(t, constants(0, 6, "divide r3 r1 r2, rest r4 r1 r2"), constants(0, 6, "const r3 0, const r4 0"))
	wantList(t, constants(6, 0, "add r2 r1 r2, divide r3 r1 r2"), constants(6, 0, "const r2 6, const r3 1"))
}

// A register that was known, and is no longer; and is again.
func TestKnownNoLonger(t *testing.T) {
	for _, line := range []string{"load r1 r9 4", "load r1 r1 4", "add r1 r9 r1", "add r1 r1 r9", "move r1 r9", "times r1 r9 r9", "divide r1 r1 r2", "rest r1 r9 r2"} {
		wantList(t, constants(6, 0, line+", add r3 r1 r2, move r4 r1"), constants(6, 0, line+", add r3 r1 r2, move r4 r1"))
		wantList(t, constants(6, 0, line+", const r1 -4, add r3 r1 r2, move r4 r1"), constants(6, 0, line+", const r1 -4, const r3 -4, const r4 -4"))
		wantList(t, constants(6, 0, line+", move r1 r2, add r3 r1 r2"), constants(6, 0, line+", const r1 0, const r3 0"))
	}
	for _, line := range []string{"store r1 r2 0", "print r1", "load r5 r1 0", "add r5 r1 r9", "divide r5 r9 r2"} { // these leave r1 as it is
		wantList(t, constants(6, 0, line+", move r4 r1"), constants(6, 0, line+", const r4 6"))
	}
	wantList(t, "const r1 1, const r1 2, const r1 3, add r2 r1 r1", "const r1 1, const r1 2, const r1 3, const r2 6")
	wantList(t, "const r0 5, move r31 r0, sub r0 r31 r0, add r31 r31 r0", "const r0 5, const r31 5, const r0 0, const r31 5")
}

// At a list's beginning nothing is known.
func TestBeginnings(t *testing.T) {
	stays := func(l ...string) {
		t.Helper()
		wantFold(t, l, l)
	}
	stays("const r1 4, loop r2 {, add r3 r1 r1, }, jump 1", "halt r3")
	stays("const r1 4, jump 1", "add r3 r1 r1, branch r1 0 1")
	stays("const r1 4, branch r9 1 1", "move r3 r1, halt r3")
	stays("loop r9 {, const r1 4, }, jump 1", "move r3 r1, halt r3")
	stays("loop r9 {, move r3 r1, const r1 4, }, jump 1", "halt r3")
	stays("const r1 4, loop r9 {, move r3 r1, const r1 4, }, jump 1", "halt r3")
	stays("move r3 r1, const r1 4, branch r9 0 1", "halt r3")
	stays("add r3 r0 r0, branch r0 0 1", "move r0 r0, halt r3")
	stays("loop r9 {, const r1 4, }, jump 1", "branch r1 0 1")
	wantFold(t, blocks{"const r1 4, loop r1 {, const r2 3, add r1 r2 r2, add r3 r1 r4, }, jump 1", "add r3 r1 r2, halt r3"},
		blocks{"const r1 4, loop r1 {, const r2 3, const r1 6, add r3 r1 r4, }, jump 1", "add r3 r1 r2, halt r3"})
}

func TestBranches(t *testing.T) {
	rest := blocks{"halt r1", "halt r2"}
	wantEnd := func(from, to string) {
		t.Helper()
		wantFold(t, append(blocks{from}, rest...), append(blocks{to}, rest...))
	}
	wantEnd("const r1 4, branch r1 1 2", "const r1 4, jump 1")
	wantEnd("const r1 -1, branch r1 1 2", "const r1 -1, jump 1")
	wantEnd("const r1 -2147483648, branch r1 2 1", "const r1 -2147483648, jump 2")
	wantEnd("const r1 0, branch r1 1 2", "const r1 0, jump 2")
	wantEnd("const r1 0, branch r1 2 0", "const r1 0, jump 0")
	wantEnd("const r1 3, branch r1 0 2", "const r1 3, jump 0")
	wantEnd("const r1 0, branch r1 2 2", "const r1 0, jump 2")
	wantEnd("branch r1 1 2", "branch r1 1 2")
	wantEnd("branch r0 1 2", "branch r0 1 2")
	wantEnd("branch r1 2 2", "branch r1 2 2")
	wantEnd("const r0 0, branch r0 1 2", "const r0 0, jump 2")
	wantEnd("const r0 1, branch r0 1 2", "const r0 1, jump 1")
	wantEnd("const r2 1, branch r1 1 2", "const r2 1, branch r1 1 2")
	wantEnd("const r1 1, load r1 r1 0, branch r1 1 2", "const r1 1, load r1 r1 0, branch r1 1 2")
	wantEnd("const r1 1, add r1 r1 r2, branch r1 1 2", "const r1 1, add r1 r1 r2, branch r1 1 2")
	wantEnd("load r1 r1 0, const r1 1, branch r1 1 2", "load r1 r1 0, const r1 1, jump 1")
	wantEnd("const r1 1, const r1 0, branch r1 1 2", "const r1 1, const r1 0, jump 2")
	wantEnd("const r1 5, sub r2 r1 r1, branch r2 1 2", "const r1 5, const r2 0, jump 2")
	wantEnd("const r1 5, divide r2 r1 r1, branch r2 1 2", "const r1 5, const r2 1, jump 1")
	wantEnd("const r1 0, divide r2 r1 r1, branch r2 1 2", "const r1 0, divide r2 r1 r1, branch r2 1 2")
	wantEnd("const r1 1, const r2 32, shl r1 r1 r2, branch r1 1 2", "const r1 1, const r2 32, shl r1 r1 r2, branch r1 1 2")
}

// Other ends stay as they are, though their register is known; a branch that becomes a jump leaves nothing of itself.
func TestOtherEnds(t *testing.T) {
	for _, number := range []string{"0", "1", "-1", "7"} {
		for _, end := range []string{"halt r1", "loop r1 {, print r1, }, jump 0", "loop r1 {, }, jump 0", "jump 0"} {
			l := blocks{"const r1 " + number + ", " + end}
			wantFold(t, l, l)
		}
	}
	p := read(t, "const r9 1, branch r9 1 2", "const r9 0, branch r9 1 2", "add r9 r9 r9, branch r9 1 2")
	q := folded(t, p)
	want := []api.Block{
		{Ops: []api.Op{{Do: api.Const, D: 9, Imm: 1}}, End: api.EndJump, Then: 1},
		{Ops: []api.Op{{Do: api.Const, D: 9}}, End: api.EndJump, Then: 2},
		{Ops: []api.Op{{Do: api.Add, D: 9, A: 9, B: 9}}, End: api.EndBranch, A: 9, Then: 1, Else: 2},
	}
	if !slices.EqualFunc(q.Blocks, want, sameBlock) {
		t.Errorf("%v, want %v", q.Blocks, want)
	}
}

// Who reads a register decides what stays.
func TestReaders(t *testing.T) {
	stays := func(l ...string) {
		t.Helper()
		wantBury(t, l, l)
	}
	wantBury(t, blocks{"const r1 4, halt r2"}, blocks{"halt r2"})
	wantBury(t, blocks{"const r0 4, const r31 4, halt r2"}, blocks{"halt r2"})
	stays("const r1 4, print r1, halt r2")
	stays("const r1 4, store r2 r1 0, halt r2")
	stays("const r1 4, store r1 r2 0, halt r2")
	stays("const r1 4, divide r3 r1 r2, halt r2")
	stays("const r1 4, rest r3 r2 r1, halt r2")
	stays("const r1 4, load r3 r1 0, halt r3")
	stays("const r1 4, halt r1")
	stays("const r1 4, branch r1 0 1", "halt r2")
	stays("const r1 4, loop r1 {, }, jump 1", "halt r2")
	stays("const r1 4, loop r2 {, print r1, }, jump 1", "halt r2")
	stays("const r1 4, loop r2 {, add r3 r1 r1, }, jump 1", "halt r2") // a body stays, and reads what it reads
	stays("const r1 4, jump 1", "halt r1")
	stays("const r1 4, jump 1", "jump 2", "loop r2 {, const r1 9, }, jump 3", "print r1, halt r2") // there may be no round
	stays("const r1 4, branch r2 2 1", "const r1 5, jump 2", "halt r1")
	stays("add r1 r1 r2, branch r2 0 1", "halt r2") // read by itself alone, a round later
	stays("const r2 3, jump 1", "add r1 r1 r2, branch r3 1 2", "halt r3")
	wantBury(t, blocks{"const r1 4, const r1 5, halt r1"}, blocks{"const r1 5, halt r1"})
	wantBury(t, blocks{"const r1 4, loop r2 {, const r1 9, print r1, }, jump 1", "halt r2"}, blocks{"loop r2 {, const r1 9, print r1, }, jump 1", "halt r2"})
	wantBury(t, blocks{"const r1 4, jump 1", "const r1 5, halt r1"}, blocks{"jump 1", "const r1 5, halt r1"})
	wantBury(t, blocks{"const r1 4, branch r2 1 2", "const r1 5, halt r1", "halt r2"}, blocks{"branch r2 1 2", "const r1 5, halt r1", "halt r2"})
	wantBury(t, blocks{"add r1 r2 r3, halt r2"}, blocks{"halt r2"})
	wantBury(t, blocks{"add r1 r1 r2, halt r2"}, blocks{"halt r2"})
}

// Every kind where nobody reads what it writes: all but Divide and Rest, Store and Print go.
func TestWhichKindsStay(t *testing.T) {
	for do := api.Const; do <= api.Print; do++ {
		line, e := ops.Text(opOf(do, 1, 2, 3, 4))
		if e != api.OK {
			t.Fatal(do, e)
		}
		staying := line + ", "
		if do <= api.Load && do != api.Divide && do != api.Rest {
			staying = ""
		}
		wantBury(t, blocks{line + ", halt r0"}, blocks{staying + "halt r0"})
		wantBury(t, blocks{line + ", " + line + ", jump 0"}, blocks{staying + staying + "jump 0"})
		wantBury(t, blocks{line + ", loop r0 {, " + line + ", }, jump 1", "halt r0"}, blocks{staying + "loop r0 {, " + line + ", }, jump 1", "halt r0"})
	}
}

// A row of operations each of which is read by the next one alone goes as a whole: in a list, from block to block, round a ring.
func TestRows(t *testing.T) {
	wantBury(t, blocks{"const r1 1, move r2 r1, add r3 r2 r2, load r4 r3 0, times r5 r4 r9, equal r6 r5 r5, halt r9"}, blocks{"halt r9"})
	wantBury(t, blocks{"const r1 1, move r2 r1, divide r3 r2 r2, load r4 r3 0, times r5 r4 r9, halt r9"}, blocks{"const r1 1, move r2 r1, divide r3 r2 r2, halt r9"})
	wantBury(t, blocks{"const r1 1, jump 1", "move r2 r1, branch r9 3 2", "add r3 r2 r2, jump 3", "load r4 r3 0, jump 4", "move r5 r4, halt r9"},
		blocks{"jump 1", "branch r9 3 2", "jump 3", "jump 4", "halt r9"})
	wantBury(t, blocks{"move r1 r2, move r2 r3, move r3 r4, move r4 r5, move r5 r6, branch r9 0 1", "halt r9"}, blocks{"branch r9 0 1", "halt r9"})
	wantBury(t, blocks{"move r1 r2, branch r9 1 2", "move r2 r3, branch r9 2 0", "move r3 r1, branch r9 0 3", "halt r9"}, // these keep one another
		blocks{"move r1 r2, branch r9 1 2", "move r2 r3, branch r9 2 0", "move r3 r1, branch r9 0 3", "halt r9"})
	wantBury(t, blocks{"move r8 r2, branch r9 0 1", "move r2 r3, branch r9 1 2", "move r3 r4, branch r9 0 3", "halt r9"},
		blocks{"branch r9 0 1", "branch r9 1 2", "branch r9 0 3", "halt r9"})
}

func TestBodiesStay(t *testing.T) {
	body := "loop r9 {, const r1 4, add r2 r1 r1, move r3 r3, load r4 r4 0, }, jump 1"
	wantBury(t, blocks{body, "halt r9"}, blocks{body, "halt r9"})
	wantBury(t, blocks{"const r2 7, const r3 7, const r1 7, const r4 2, " + body, "halt r9"}, blocks{"const r3 7, const r4 2, " + body, "halt r9"})
}

// Blocks that are not reached are made better as the others; a block that reaches itself reads what it reads.
func TestBlocksThatAreNotReached(t *testing.T) {
	wantFold(t, blocks{"halt r0", "const r1 3, add r2 r1 r1, branch r2 0 1"}, blocks{"halt r0", "const r1 3, const r2 6, jump 0"})
	wantBury(t, blocks{"halt r0", "const r1 3, add r2 r1 r1, branch r3 0 1"}, blocks{"halt r0", "branch r3 0 1"})
	wantBury(t, blocks{"const r1 3, halt r0", "print r1, jump 0"}, blocks{"halt r0", "print r1, jump 0"})
	wantBury(t, blocks{"print r1, const r1 3, const r2 4, branch r0 0 1", "halt r0"}, blocks{"print r1, const r1 3, branch r0 0 1", "halt r0"})
	wantBury(t, blocks{"const r1 3, const r2 4, jump 0"}, blocks{"jump 0"})
	wantBury(t, blocks{"const r1 3, add r2 r2 r1, jump 0"}, blocks{"const r1 3, add r2 r2 r1, jump 0"})
	wantFold(t, blocks{"const r1 0, branch r1 0 1", "halt r1"}, blocks{"const r1 0, jump 1", "halt r1"})
	wantFold(t, blocks{"const r1 1, branch r1 0 1", "halt r1"}, blocks{"const r1 1, jump 0", "halt r1"})
}

// Behind a fold less is read: of the branch its register, of the block to which it never goes all.
func TestBuriedBehindFolded(t *testing.T) {
	p := read(t, "const r1 0, const r2 7, branch r1 1 2", "print r2, halt r0", "halt r0")
	if q := buried(t, p); !same(q, p) {
		t.Error(told(q))
	}
	if q := buried(t, folded(t, p)); !same(q, read(t, "jump 2", "print r2, halt r0", "halt r0")) {
		t.Error(told(q))
	}
}
