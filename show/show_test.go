package show

import (
	"fmt"
	"math"
	"reflect"
	"slices"
	"strings"
	"testing"

	"hayloft/api"
	"hayloft/parse"
	"hayloft/program"
)

// said puts lines into a text, a byte 0A behind each.
func said(lines ...string) string { return strings.Join(lines, "\n") + "\n" }

func of(blocks ...api.Block) api.Program { return api.Program{Blocks: blocks} }

func halts(a uint8, list ...api.Op) api.Block {
	return api.Block{Ops: list, End: api.EndHalt, A: a}
}

func loops(a uint8, then int, body ...api.Op) api.Block {
	return api.Block{End: api.EndLoop, A: a, Body: body, Then: then}
}

func prints(a uint8) api.Op { return api.Op{Do: api.Print, A: a} }

// plain is a program without room behind its lists and without empty ones, so that it can be compared.
func plain(p api.Program) api.Program {
	q := api.Program{Blocks: slices.Clone(p.Blocks)}
	for i := range q.Blocks {
		q.Blocks[i].Ops = append([]api.Op(nil), q.Blocks[i].Ops...)
		q.Blocks[i].Body = append([]api.Op(nil), q.Blocks[i].Body...)
	}
	return q
}

// wantRead holds what parse reads of a text against a program.
func wantRead(t *testing.T, text string, want api.Program) {
	t.Helper()
	p, err := parse.Program(text)
	if err != nil {
		t.Errorf("%.300q is not read: %v", text, err)
		return
	}
	if !reflect.DeepEqual(plain(p), plain(want)) {
		t.Errorf("%.300q is read as %+v, want %+v", text, p, want)
	}
}

// wantText holds a program's text against one, and against what parse reads of it (P6.2).
func wantText(t *testing.T, p api.Program, want string) {
	t.Helper()
	text, e := Text(p)
	if e != api.OK || text != want {
		t.Errorf("%+v: %.300q, %d, want %.300q", p, text, e, want)
		return
	}
	wantRead(t, text, p)
}

// wantRefused holds a program against an error, with an empty text beside it.
func wantRefused(t *testing.T, name string, p api.Program, want api.Errno) {
	t.Helper()
	text, e := Text(p)
	if e != want || text != "" {
		t.Errorf("%s: %.100q, %d, want none, %d", name, text, e, want)
	}
	if check := program.Check(p); check != want {
		t.Errorf("%s: Check is %d, want %d", name, check, want)
	}
}

// P6.1: the chapter's examples.
func TestChapterExamples(t *testing.T) {
	wantText(t, of(halts(0)), "block 0:\n  halt r0\n")
	first := loops(1, 1, prints(1))
	first.Ops = []api.Op{{Do: api.Const, D: 1, Imm: 5}}
	wantText(t, of(first, halts(1)),
		"block 0:\n  const r1 5\n  loop r1 {\n    print r1\n  }\n  jump 1\nblock 1:\n  halt r1\n")
	wantRefused(t, "none", api.Program{}, api.ErrProgram)
}

// lines is each kind of operation and its line, written out.
var lines = []struct {
	o    api.Op
	line string
}{
	{api.Op{Do: 1, D: 1, Imm: 5}, "const r1 5"},
	{api.Op{Do: 2, D: 1, A: 2, B: 3}, "add r1 r2 r3"},
	{api.Op{Do: 3, D: 4, A: 5, B: 6}, "sub r4 r5 r6"},
	{api.Op{Do: 4, D: 7, A: 8, B: 9}, "and r7 r8 r9"},
	{api.Op{Do: 5, D: 10, A: 11, B: 12}, "or r10 r11 r12"},
	{api.Op{Do: 6, D: 13, A: 14, B: 15}, "xor r13 r14 r15"},
	{api.Op{Do: 7, D: 16, A: 17, B: 18}, "shl r16 r17 r18"},
	{api.Op{Do: 8, D: 19, A: 20, B: 21}, "shr r19 r20 r21"},
	{api.Op{Do: 9, D: 22, A: 23, B: 24}, "less r22 r23 r24"},
	{api.Op{Do: 10, D: 25, A: 26, B: 27}, "equal r25 r26 r27"},
	{api.Op{Do: 11, D: 28, A: 29}, "move r28 r29"},
	{api.Op{Do: 12, D: 30, A: 31, B: 0}, "times r30 r31 r0"},
	{api.Op{Do: 13, D: 1, A: 1, B: 2}, "divide r1 r1 r2"},
	{api.Op{Do: 14, D: 2, A: 1, B: 1}, "rest r2 r1 r1"},
	{api.Op{Do: 15, D: 3, A: 4, Imm: -8}, "load r3 r4 -8"},
	{api.Op{Do: 16, A: 5, B: 6, Imm: 255}, "store r5 r6 255"},
	{api.Op{Do: 17, A: 31}, "print r31"},
}

// P6.1: each kind as a line of Ops and of a Body, with its blanks.
func TestEachKindOfOperation(t *testing.T) {
	if len(lines) != api.Print {
		t.Fatal("not every kind has its line")
	}
	var all []api.Op
	var inOps, inBody string
	for i, x := range lines {
		if int(x.o.Do) != i+1 {
			t.Fatal("the lines are not in the chapter's order")
		}
		wantText(t, of(halts(1, x.o)), "block 0:\n  "+x.line+"\n  halt r1\n")
		wantText(t, of(loops(1, 0, x.o)), "block 0:\n  loop r1 {\n    "+x.line+"\n  }\n  jump 0\n")
		all = append(all, x.o)
		inOps += "  " + x.line + "\n"
		inBody += "    " + x.line + "\n"
	}
	both := loops(2, 0, all...)
	both.Ops = all
	wantText(t, of(both), "block 0:\n"+inOps+"  loop r2 {\n"+inBody+"  }\n  jump 0\n")
}

// P6.1: each end, with registers and blocks of one digit and of more.
func TestEachEnd(t *testing.T) {
	const blocks = 128
	begin := func(b api.Block) api.Program {
		p := of(slices.Repeat([]api.Block{halts(0)}, blocks)...)
		p.Blocks[0] = b
		return p
	}
	var behind string
	for n := 1; n < blocks; n++ {
		behind += fmt.Sprintf("block %d:\n  halt r0\n", n)
	}
	want := func(b api.Block, end ...string) {
		t.Helper()
		wantText(t, begin(b), said(slices.Concat([]string{"block 0:"}, end)...)+behind)
	}
	numbers := []int{0, 1, 9, 10, 11, 99, 100, 126, 127}
	for _, then := range numbers {
		want(api.Block{End: api.EndJump, Then: then}, fmt.Sprintf("  jump %d", then))
	}
	for _, a := range []uint8{0, 1, 9, 10, 30, 31} {
		want(halts(a), fmt.Sprintf("  halt r%d", a))
		for _, then := range numbers {
			want(loops(a, then), fmt.Sprintf("  loop r%d {", a), "  }", fmt.Sprintf("  jump %d", then))
			for _, orElse := range numbers {
				want(api.Block{End: api.EndBranch, A: a, Then: then, Else: orElse}, fmt.Sprintf("  branch r%d %d %d", a, then, orElse))
			}
		}
	}
}

// P6.1: each register from 0 to 31, in each place where one stands.
func TestEachRegister(t *testing.T) {
	for r := range uint8(32) {
		wantText(t, of(halts(r, api.Op{Do: api.Add, D: r, A: r ^ 1, B: 31 - r}, prints(r))),
			fmt.Sprintf("block 0:\n  add r%d r%d r%d\n  print r%d\n  halt r%d\n", r, r^1, 31-r, r, r))
		wantText(t, of(loops(r, 0, api.Op{Do: api.Store, A: r, B: 31 - r, Imm: int64(r)})),
			fmt.Sprintf("block 0:\n  loop r%d {\n    store r%d r%d %d\n  }\n  jump 0\n", r, r, 31-r, r))
	}
}

// P6.1: a loop's Body of no operation, of one, and of many, each with lines of Ops ahead or without.
func TestBodies(t *testing.T) {
	for _, n := range []int{0, 1, 2, 3, 64, 65, 1022} {
		b := loops(3, 0, slices.Repeat([]api.Op{prints(4)}, n)...)
		end := "  loop r3 {\n" + strings.Repeat("    print r4\n", n) + "  }\n  jump 0\n"
		wantText(t, of(b), "block 0:\n"+end)
		b.Ops = []api.Op{prints(5)}
		wantText(t, of(b), "block 0:\n  print r5\n"+end)
	}
	b := loops(3, 0)
	b.Body = []api.Op{}
	wantText(t, of(b), "block 0:\n  loop r3 {\n  }\n  jump 0\n")
}

// P6.1: numbers at their ends, in each kind that has one.
func TestNumbers(t *testing.T) {
	for _, x := range []struct {
		n    int64
		text string
	}{
		{-1 << 31, "-2147483648"}, {-1<<31 + 1, "-2147483647"}, {-10, "-10"}, {-9, "-9"}, {-1, "-1"}, {0, "0"}, {1, "1"},
		{9, "9"}, {10, "10"}, {1000000, "1000000"}, {1<<31 - 2, "2147483646"}, {1<<31 - 1, "2147483647"},
	} {
		list := []api.Op{{Do: api.Const, D: 1, Imm: x.n}, {Do: api.Load, D: 2, A: 3, Imm: x.n}, {Do: api.Store, A: 4, B: 5, Imm: x.n}}
		b := loops(0, 0, list...)
		b.Ops = list
		wantText(t, of(b), said("block 0:",
			"  const r1 "+x.text, "  load r2 r3 "+x.text, "  store r4 r5 "+x.text,
			"  loop r0 {",
			"    const r1 "+x.text, "    load r2 r3 "+x.text, "    store r4 r5 "+x.text,
			"  }", "  jump 0"))
	}
	for _, n := range []int64{-1<<31 - 1, 1 << 31, math.MinInt64, math.MaxInt64} {
		wantRefused(t, "a number past its end", of(halts(0, api.Op{Do: api.Const, Imm: n})), api.ErrOp)
	}
}

// P6.1: as many blocks as there may be, each of its number.
func TestBlockNumbers(t *testing.T) {
	for _, blocks := range []int{1, 2, 9, 10, 11, 12, 99, 100, 101, 102, 127, 128} {
		var p api.Program
		var want string
		for n := range blocks {
			p.Blocks = append(p.Blocks, api.Block{End: api.EndJump, Then: blocks - 1 - n})
			want += fmt.Sprintf("block %d:\n  jump %d\n", n, blocks-1-n)
		}
		wantText(t, p, want)
	}
}

// P6.1: every error of program.Check, an empty text beside it.
func TestRefused(t *testing.T) {
	wantRefused(t, "no block, and not nil", api.Program{Blocks: []api.Block{}}, api.ErrProgram)
	wantRefused(t, "129 blocks", of(slices.Repeat([]api.Block{halts(0)}, 129)...), api.ErrLong)
	wantRefused(t, "1025 operations", of(halts(0, slices.Repeat([]api.Op{prints(0)}, 1024)...)), api.ErrLong)
	wantRefused(t, "1025 operations with a body", of(loops(0, 0, slices.Repeat([]api.Op{prints(0)}, 1024)...)), api.ErrLong)
	for _, do := range []int8{-128, -1, api.Nop, api.Jump, api.Branch, api.Halt, api.Count, api.Short, api.Again, api.Kinds, 127} {
		wantRefused(t, fmt.Sprint("kind ", do), of(halts(0, api.Op{Do: do})), api.ErrOp)
		wantRefused(t, fmt.Sprint("kind ", do, " of a body"), of(loops(0, 0, api.Op{Do: do})), api.ErrOp)
	}
	for _, end := range []int8{-128, -1, 4, 5, 127} {
		wantRefused(t, fmt.Sprint("end ", end), of(api.Block{End: end}), api.ErrProgram)
	}
	for _, b := range []api.Block{halts(32), halts(255), loops(32, 0), {End: api.EndBranch, A: 32}} {
		wantRefused(t, "a register that is none", of(b), api.ErrProgram)
	}
	for _, n := range []int{-1, 2, 128, math.MinInt, math.MaxInt} {
		for _, b := range []api.Block{{Then: n}, {End: api.EndBranch, Then: n}, {End: api.EndBranch, Else: n}, loops(0, n)} {
			wantRefused(t, "a block that is none", of(b, halts(0)), api.ErrProgram)
			wantRefused(t, "a block that is none, of the last block", of(halts(0), b), api.ErrProgram)
		}
	}
	nop := api.Op{}
	wantRefused(t, "an operation ahead of an end", of(api.Block{Ops: []api.Op{nop}, End: 9}), api.ErrOp)
	wantRefused(t, "an end ahead of a body", of(loops(32, 0, nop)), api.ErrProgram)
	wantRefused(t, "the second block", of(halts(0), halts(40), halts(0, nop)), api.ErrProgram)
}

// P6.1: fields of a block that its end does not use.
func TestFieldsThatABlockDoesNotUse(t *testing.T) {
	body := []api.Op{prints(1)}
	for name, b := range map[string]api.Block{
		"jump with A":      {End: api.EndJump, A: 1},
		"jump with Else":   {End: api.EndJump, Else: 1},
		"jump with Body":   {End: api.EndJump, Body: body},
		"branch with Body": {End: api.EndBranch, Body: body},
		"halt with Then":   {End: api.EndHalt, Then: 1},
		"halt with Else":   {End: api.EndHalt, Else: 1},
		"halt with Body":   {End: api.EndHalt, Body: body},
		"loop with Else":   {End: api.EndLoop, Body: body, Else: 1},
	} {
		wantRefused(t, name, of(b, halts(0)), api.ErrProgram)
	}
	empty := body[:0]
	wantText(t, of(api.Block{Ops: empty, End: api.EndJump, Body: empty}), "block 0:\n  jump 0\n")
	wantText(t, of(api.Block{Ops: empty, End: api.EndBranch, Body: empty}), "block 0:\n  branch r0 0 0\n")
	wantText(t, of(api.Block{Ops: empty, End: api.EndHalt, Body: empty}), "block 0:\n  halt r0\n")
}

// P6.1: fields of an operation that its kind does not use, and registers that are none.
func TestFieldsThatAnOperationDoesNotUse(t *testing.T) {
	for _, x := range lines {
		do := x.o.Do
		for field, o := range map[string]api.Op{"d": {Do: do, D: 1}, "a": {Do: do, A: 1}, "b": {Do: do, B: 1}, "i": {Do: do, Imm: 1}} {
			for _, p := range []api.Program{of(halts(0, o)), of(loops(0, 0, o))} {
				if uses(do, field) {
					wantText(t, p, slowText(p))
				} else {
					wantRefused(t, x.line+" with "+field, p, api.ErrOp)
				}
			}
		}
		for _, o := range []api.Op{{Do: do, D: 32}, {Do: do, A: 32}, {Do: do, B: 32}, {Do: do, Imm: 1 << 31}} {
			wantRefused(t, "past its bound", of(halts(0, o)), api.ErrOp)
			wantRefused(t, "past its bound, in a body", of(loops(0, 0, o)), api.ErrOp)
		}
	}
}

// P6.1: a text of 65536 bytes and one of 65537. No program that Check takes has so long a text
// (see the next test), so that the bound is asked where it is held.
func TestBoundOfATextsLength(t *testing.T) {
	for _, n := range []int{0, 1, 65535, 65536} {
		text := strings.Repeat("x", n)
		if got, e := within(text); got != text || e != api.OK {
			t.Errorf("%d bytes: %d bytes, %d", n, len(got), e)
		}
	}
	for _, n := range []int{65537, 65538, 1 << 17} {
		if got, e := within(strings.Repeat("x", n)); got != "" || e != api.ErrLong {
			t.Errorf("%d bytes: %d bytes, %d", n, len(got), e)
		}
	}
}

// P6.1: the longest texts that programs have.
func TestLongestTexts(t *testing.T) {
	store := api.Op{Do: api.Store, A: 31, B: 31, Imm: -1 << 31}
	line := "store r31 r31 -2147483648\n"
	wantText(t, of(halts(31, slices.Repeat([]api.Op{store}, 1023)...)),
		"block 0:\n"+strings.Repeat("  "+line, 1023)+"  halt r31\n")

	var p api.Program
	var want strings.Builder
	for n := range 128 {
		p.Blocks = append(p.Blocks, loops(31, 127, slices.Repeat([]api.Op{store}, 7)...))
		fmt.Fprintf(&want, "block %d:\n  loop r31 {\n%s  }\n  jump 127\n", n, strings.Repeat("    "+line, 7))
	}
	wantText(t, p, want.String())
	if want.Len() >= 65536 {
		t.Error("a program has a text past the bound after all: test the bound by Text")
	}
}
