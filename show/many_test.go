package show

import (
	"fmt"
	"math/rand"
	"reflect"
	"slices"
	"strings"
	"testing"

	"hayloft/api"
	"hayloft/parse"
	"hayloft/program"
)

// names and what stands behind them, written out once more: d, a, b a register each, i a number.
var names = strings.Fields("? const:di add:dab sub:dab and:dab or:dab xor:dab shl:dab shr:dab less:dab equal:dab move:da " +
	"times:dab divide:dab rest:dab load:dai store:abi print:a")

func uses(do int8, field string) bool {
	_, what, _ := strings.Cut(names[do], ":")
	return strings.Contains(what, field)
}

// chanceOp answers an operation of a program.
func chanceOp(r *rand.Rand) api.Op {
	o := api.Op{Do: int8(1 + r.Intn(17))}
	if uses(o.Do, "d") {
		o.D = uint8(r.Intn(32))
	}
	if uses(o.Do, "a") {
		o.A = uint8(r.Intn(32))
	}
	if uses(o.Do, "b") {
		o.B = uint8(r.Intn(32))
	}
	if uses(o.Do, "i") {
		o.Imm = int64(int32(r.Uint32())) >> r.Intn(32)
	}
	return o
}

func chanceOps(r *rand.Rand) []api.Op {
	var list []api.Op
	for range r.Intn(4) {
		list = append(list, chanceOp(r))
	}
	return list
}

// chanceBlock answers a block of a program of as many.
func chanceBlock(r *rand.Rand, blocks int) api.Block {
	b := api.Block{Ops: chanceOps(r), End: int8(r.Intn(4))}
	if b.End != api.EndJump {
		b.A = uint8(r.Intn(32))
	}
	if b.End != api.EndHalt {
		b.Then = r.Intn(blocks)
	}
	if b.End == api.EndBranch {
		b.Else = r.Intn(blocks)
	}
	if b.End == api.EndLoop {
		b.Body = chanceOps(r)
	}
	return b
}

// chance answers a program that program.Check takes.
func chance(r *rand.Rand) api.Program {
	blocks := 1 + r.Intn(5)
	if r.Intn(20) == 0 {
		blocks = 1 + r.Intn(128)
	}
	var p api.Program
	for range blocks {
		p.Blocks = append(p.Blocks, chanceBlock(r, blocks))
	}
	return p
}

// slowLine is an operation's line as the chapters have it, told a second time.
func slowLine(o api.Op) string {
	name, what, _ := strings.Cut(names[o.Do], ":")
	for _, c := range what {
		switch c {
		case 'd':
			name += fmt.Sprintf(" r%d", o.D)
		case 'a':
			name += fmt.Sprintf(" r%d", o.A)
		case 'b':
			name += fmt.Sprintf(" r%d", o.B)
		default:
			name += fmt.Sprintf(" %d", o.Imm)
		}
	}
	return name
}

// slowText is P6.1 told a second time: all lines bare, then the blanks by what a line begins with and stands between.
func slowText(p api.Program) string {
	var bare []string
	for n, b := range p.Blocks {
		bare = append(bare, fmt.Sprintf("block %d:", n))
		for _, o := range b.Ops {
			bare = append(bare, slowLine(o))
		}
		ends := [][]string{
			{fmt.Sprintf("jump %d", b.Then)},
			{fmt.Sprintf("branch r%d %d %d", b.A, b.Then, b.Else)},
			{fmt.Sprintf("halt r%d", b.A)},
			{fmt.Sprintf("loop r%d {", b.A)},
		}
		bare = append(bare, ends[b.End]...)
		for _, o := range b.Body {
			bare = append(bare, slowLine(o))
		}
		if b.End == api.EndLoop {
			bare = append(bare, "}", fmt.Sprintf("jump %d", b.Then))
		}
	}
	var out string
	open := false
	for _, l := range bare {
		open = open && l != "}"
		switch {
		case open:
			l = "    " + l
		case !strings.HasPrefix(l, "block"):
			l = "  " + l
		}
		out += l + "\n"
		open = open || strings.HasSuffix(l, "{")
	}
	return out
}

// P6.1, P6.2: programs by the thousand, against the promise told once more, and there and back.
func TestManyPrograms(t *testing.T) {
	r := rand.New(rand.NewSource(6))
	for range 5000 {
		p := chance(r)
		if e := program.Check(p); e != api.OK {
			t.Fatalf("Check(%+v) is %d", p, e)
		}
		wantText(t, p, slowText(p))
	}
}

// dressed puts blanks, remarks and lines without words wherever they can stand.
func dressed(r *rand.Rand, text string) string {
	blanks := func(least int) string {
		var out strings.Builder
		for range least + r.Intn(3) {
			out.WriteByte(" \t"[r.Intn(2)])
		}
		return out.String()
	}
	remark := func() string { return []string{"", "#", "# halt r0", "#}", "#\xff\x00\r # }", "##"}[r.Intn(6)] }
	var out strings.Builder
	for l := range strings.Lines(text) {
		for r.Intn(3) == 0 {
			out.WriteString(blanks(0) + remark() + "\n")
		}
		out.WriteString(blanks(0))
		for i, w := range strings.Fields(l) {
			if i > 0 {
				out.WriteString(blanks(1))
			}
			out.WriteString(w)
		}
		out.WriteString(blanks(1) + remark() + "\n")
	}
	return out.String()
}

// wantOneForm holds a text that is read against the text of it: that is read as the same, and written as it is.
func wantOneForm(t *testing.T, text string) string {
	t.Helper()
	p, err := parse.Program(text)
	if err != nil {
		t.Fatalf("%.300q is not read: %v", text, err)
	}
	once, e := Text(p)
	if e != api.OK {
		t.Fatalf("%.300q is not written: %d", text, e)
	}
	wantText(t, p, once)
	again, err := parse.Program(once)
	if err != nil {
		t.Fatalf("%.300q is not read: %v", once, err)
	}
	wantText(t, again, once)
	return once
}

// P6.2: a text with blanks, remarks and empty lines, once read, is written in the one form and read as the same again.
func TestOneForm(t *testing.T) {
	got := wantOneForm(t, "\n# a row\nblock\t0: # first\n\n\tconst   r1\t-5\nloop r1 { # }\n print r1 #\n#\n}\njump 1 \n  block 1:\nhalt r1")
	want := "block 0:\n  const r1 -5\n  loop r1 {\n    print r1\n  }\n  jump 1\nblock 1:\n  halt r1\n"
	if got != want {
		t.Errorf("%q, want %q", got, want)
	}
	r := rand.New(rand.NewSource(62))
	for range 2000 {
		text := slowText(chance(r))
		for range 3 {
			if got := wantOneForm(t, dressed(r, text)); got != text {
				t.Fatalf("%q, want %q", got, text)
			}
		}
	}
}

// changed answers a program that differs from p in one thing; it may be none any more.
func changed(r *rand.Rand, p api.Program) api.Program {
	q := plain(p)
	b := &q.Blocks[r.Intn(len(q.Blocks))]
	list := &b.Ops
	if b.End == api.EndLoop && r.Intn(2) == 0 {
		list = &b.Body
	}
	switch r.Intn(14) {
	case 0:
		b.A = uint8(r.Intn(33))
	case 1:
		b.Then = r.Intn(len(q.Blocks) + 1)
	case 2:
		b.Else = r.Intn(len(q.Blocks) + 1)
	case 3: // an end that the same fields can stand with
		b.End = int8(r.Intn(4))
	case 4:
		q.Blocks = append(q.Blocks, chanceBlock(r, len(q.Blocks)+1))
	case 5:
		q.Blocks = q.Blocks[:len(q.Blocks)-1]
	case 6:
		*list = slices.Insert(*list, r.Intn(len(*list)+1), chanceOp(r))
	case 7: // what a loop does ahead of its rounds, and in them
		if n := len(b.Ops); n > 0 && b.End == api.EndLoop {
			b.Body = slices.Insert(b.Body, 0, b.Ops[n-1])
			b.Ops = b.Ops[:n-1]
		}
	case 8:
		i, j := r.Intn(len(q.Blocks)), r.Intn(len(q.Blocks))
		q.Blocks[i], q.Blocks[j] = q.Blocks[j], q.Blocks[i]
	default:
		if len(*list) == 0 {
			return q
		}
		o := &(*list)[r.Intn(len(*list))]
		switch r.Intn(6) {
		case 0:
			o.Do = int8(1 + r.Intn(17))
		case 1:
			o.D = uint8(r.Intn(33))
		case 2:
			o.A = uint8(r.Intn(33))
		case 3:
			o.B = uint8(r.Intn(33))
		case 4:
			o.Imm ^= 1 << r.Intn(33)
		default:
			o.Imm = -o.Imm
		}
	}
	return q
}

// P6.3: programs that differ in any one thing have texts that differ.
func TestTextsThatDiffer(t *testing.T) {
	r := rand.New(rand.NewSource(63))
	differ := 0
	for range 20000 {
		p := chance(r)
		for len(p.Blocks) > 8 {
			p = chance(r)
		}
		q := changed(r, p)
		first, _ := Text(p)
		second, e := Text(q)
		if check := program.Check(q); e != check || (e == api.OK) != (second != "") {
			t.Fatalf("%+v: %q, %d, Check is %d", q, second, e, check)
		}
		same := reflect.DeepEqual(plain(p), plain(q))
		if same != (first == second) {
			t.Fatalf("%+v and %+v: %q and %q", p, q, first, second)
		}
		if !same && e == api.OK {
			differ++
		}
	}
	if differ < 4000 {
		t.Errorf("only %d programs differed", differ)
	}
}

// P6.3: all programs of one small kind have texts of their own.
func TestEveryEndHasATextOfItsOwn(t *testing.T) {
	of2 := func(b api.Block) api.Program { return of(b, halts(0)) }
	seen := map[string]api.Program{}
	for end := range int8(4) {
		for a := range uint8(12) {
			for then := range 2 {
				for orElse := range 2 {
					for n := range 4 {
						list := []api.Op{prints(1), prints(1), prints(1)}
						b := api.Block{Ops: list[:n], End: end, A: a, Body: list[n:], Then: then, Else: orElse}
						if end != api.EndLoop {
							b.Body = nil
						}
						if program.Check(of2(b)) != api.OK {
							continue
						}
						text, e := Text(of2(b))
						if other, ok := seen[text]; e != api.OK || ok && !reflect.DeepEqual(plain(other), plain(of2(b))) {
							t.Errorf("%+v: %q, %d, as that of %+v", b, text, e, other)
						}
						seen[text] = of2(b)
					}
				}
			}
		}
	}
	if want := 4 * (2 + 12*4 + 12 + 12*2); len(seen) != want {
		t.Errorf("%d texts, want %d", len(seen), want)
	}
}

// R3: nothing of the program handed in is changed, nor the room behind its lists; R2: what is asked twice is answered twice alike.
func TestNothingIsChanged(t *testing.T) {
	junk := api.Op{Do: 99, D: 99, A: 99, B: 99, Imm: 99}
	r := rand.New(rand.NewSource(3))
	for range 300 {
		p := chance(r)
		roomy := func(list []api.Op) []api.Op {
			return slices.Concat(list, []api.Op{junk, junk})[:len(list)]
		}
		for i := range p.Blocks {
			b := &p.Blocks[i]
			b.Ops = roomy(b.Ops)
			b.Body = roomy(b.Body)
		}
		kept := plain(p)
		spare := api.Block{End: 99, A: 99}
		n := len(p.Blocks)
		p.Blocks = append(p.Blocks, spare, spare)[:n]
		first, e := Text(p)
		second, _ := Text(p)
		if e != api.OK || first != second {
			t.Fatalf("%+v: %q, then %q", p, first, second)
		}
		if !reflect.DeepEqual(plain(p), kept) || !reflect.DeepEqual(p.Blocks[:n+2][n:], []api.Block{spare, spare}) {
			t.Fatal("the blocks were changed")
		}
		for _, b := range p.Blocks {
			for _, list := range [][]api.Op{b.Ops, b.Body} {
				if behind := list[len(list) : len(list)+2]; behind[0] != junk || behind[1] != junk {
					t.Fatal("the room behind a list was changed")
				}
			}
			clear(b.Ops)
			clear(b.Body)
		}
		if first != second || first != slowText(kept) {
			t.Fatal("a text shows what was written to its program")
		}
	}
}

// FuzzShow holds the text of a read program against the slow one, and against what is read of it.
func FuzzShow(f *testing.F) {
	f.Add("block 0:\nconst r1 5\nhalt r1")
	f.Add("block 0:\nloop r1 {\nadd r2 r2 r3\n}\njump 1\nblock 1:\nprint r2\nbranch r2 0 1\n")
	f.Add("block 0: # x\n\tstore r1 r2 -2147483648\n\njump 0 ")
	f.Fuzz(func(t *testing.T, text string) {
		p, err := parse.Program(text)
		if err != nil {
			return
		}
		wantText(t, p, slowText(p))
	})
}
