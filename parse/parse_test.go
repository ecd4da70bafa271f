package parse

import (
	"errors"
	"reflect"
	"slices"
	"strconv"
	"strings"
	"testing"

	"hayloft/api"
	"hayloft/ops"
	"hayloft/program"
)

// said puts lines into a text.
func said(lines ...string) string { return strings.Join(lines, "\n") }

// wantFault holds what Program answers against a fault, and its program against none.
func wantFault(t *testing.T, text string, code api.Errno, at int, word string) {
	t.Helper()
	p, err := Program(text)
	fault, ok := err.(*api.Fault)
	if !ok {
		t.Errorf("%.200q: error %v, want a fault", text, err)
		return
	}
	if want := (api.Fault{Code: code, At: at, Word: word}); *fault != want {
		t.Errorf("%.200q: fault %.200v, want %.200v", text, *fault, want)
	}
	if !errors.Is(err, code) {
		t.Errorf("%.200q: errors.Is does not find %d", text, code)
	}
	if p.Blocks != nil {
		t.Errorf("%.200q: program %v beside an error", text, p)
	}
}

// wantAt holds the fault against a word of the text that stands there once, marked by < and >.
func wantAt(t *testing.T, marked string) {
	t.Helper()
	ahead, rest, _ := strings.Cut(marked, "<")
	word, behind, ok := strings.Cut(rest, ">")
	if !ok {
		t.Fatalf("%q: no mark", marked)
	}
	wantFault(t, ahead+word+behind, api.ErrSyntax, len(ahead), word)
}

// plain is a program without room behind its lists and without empty ones, so that it can be compared.
func plain(p api.Program) api.Program {
	q := api.Program{Blocks: slices.Clone(p.Blocks)}
	for i := range q.Blocks {
		q.Blocks[i].Ops = append([]api.Op(nil), q.Blocks[i].Ops...)
		q.Blocks[i].Body = append([]api.Op(nil), q.Blocks[i].Body...)
	}
	return q
}

func wantProgram(t *testing.T, text string, want api.Program) {
	t.Helper()
	p, err := Program(text)
	if err != nil {
		t.Errorf("%.300q: %v", text, err)
		return
	}
	if !reflect.DeepEqual(plain(p), plain(want)) {
		t.Errorf("%.300q: %+v, want %+v", text, p, want)
	}
	if e := program.Check(p); e != api.OK {
		t.Errorf("%.300q: Check of what is read is %d", text, e)
	}
}

func of(blocks ...api.Block) api.Program { return api.Program{Blocks: blocks} }

func halts(a uint8, list ...api.Op) api.Block {
	return api.Block{Ops: list, End: api.EndHalt, A: a}
}

// P5.1: the chapter's examples.
func TestChapterExamples(t *testing.T) {
	wantProgram(t, said("block 0:", "const r1 5", "halt r1"), of(halts(1, api.Op{Do: api.Const, D: 1, Imm: 5})))
	wantProgram(t, said("block 0:", "loop r1 {", "add r2 r2 r3", "}", "jump 1", "block 1:", "print r2", "halt r2"), of(
		api.Block{End: api.EndLoop, A: 1, Body: []api.Op{{Do: api.Add, D: 2, A: 2, B: 3}}, Then: 1},
		halts(2, api.Op{Do: api.Print, A: 2}),
	))
	wantFault(t, "block 1:", api.ErrSyntax, 6, "1:")
	wantFault(t, said("block 0:", "add r1 r2"), api.ErrSyntax, 18, "")
	wantFault(t, said("block 0:", "halt r1 r2"), api.ErrSyntax, 17, "r2")
	wantFault(t, said("block 0:", "halt r1 r2", ""), api.ErrSyntax, 17, "r2")
	wantFault(t, "", api.ErrSyntax, 0, "")
	wantFault(t, said("block 0:", "jump 7"), api.ErrProgram, 0, "")
}

// P5.1: a text of 65536 bytes and one of 65537.
func TestLongTexts(t *testing.T) {
	text := said("block 0:", "halt r1", "")
	want := of(halts(1))
	for _, fill := range []string{"\n", " ", "\t", "#"} {
		wantProgram(t, text+strings.Repeat(fill, 65536-len(text)), want)
		wantFault(t, text+strings.Repeat(fill, 65537-len(text)), api.ErrLong, 0, "")
	}
	wantProgram(t, strings.Repeat("\n", 65536-len(text))+text, want)
	wantFault(t, strings.Repeat("\n", 65537-len(text))+text, api.ErrLong, 0, "")
	for _, fill := range []string{"\n", " ", "\t", "#"} {
		wantFault(t, strings.Repeat(fill, 65536), api.ErrSyntax, 65536, "")
		wantFault(t, strings.Repeat(fill, 65537), api.ErrLong, 0, "")
	}
	long := strings.Repeat("a", 65536)
	wantFault(t, long, api.ErrSyntax, 0, long)
	wantFault(t, long+"a", api.ErrLong, 0, "")
	wantFault(t, strings.Repeat(" ", 65535)+"x", api.ErrSyntax, 65535, "x")
	wantFault(t, strings.Repeat("block 0:\n", 20000), api.ErrLong, 0, "")
	wantFault(t, "x\x00"+strings.Repeat("\xff", 1<<20), api.ErrLong, 0, "")
	wantFault(t, "x"+strings.Repeat("\n", 65536), api.ErrLong, 0, "")
}

// row is an operation's line, as the chapters 3 and 5 have it.
type row struct {
	name string
	do   int8
	what string // d, a, b a register each; i a number
}

// rows is written out once more, so that nothing of the program says what it must be.
var rows = []row{
	{"const", 1, "di"}, {"add", 2, "dab"}, {"sub", 3, "dab"}, {"and", 4, "dab"}, {"or", 5, "dab"}, {"xor", 6, "dab"},
	{"shl", 7, "dab"}, {"shr", 8, "dab"}, {"less", 9, "dab"}, {"equal", 10, "dab"}, {"move", 11, "da"},
	{"times", 12, "dab"}, {"divide", 13, "dab"}, {"rest", 14, "dab"}, {"load", 15, "dai"}, {"store", 16, "abi"}, {"print", 17, "a"},
}

// line answers the row's words and what they say, by registers and a number.
func (r row) line(d, a, b uint8, imm int64) (string, api.Op) {
	o := api.Op{Do: r.do}
	words := []string{r.name}
	for _, c := range r.what {
		switch c {
		case 'd':
			o.D = d
			words = append(words, "r"+strconv.Itoa(int(d)))
		case 'a':
			o.A = a
			words = append(words, "r"+strconv.Itoa(int(a)))
		case 'b':
			o.B = b
			words = append(words, "r"+strconv.Itoa(int(b)))
		default:
			o.Imm = imm
			words = append(words, strconv.FormatInt(imm, 10))
		}
	}
	return strings.Join(words, " "), o
}

// P5.1: each operation, as a block's and as a body's, with registers that are unlike.
func TestEveryOperation(t *testing.T) {
	for _, r := range rows {
		l, o := r.line(1, 12, 31, -77)
		if s, e := ops.Text(o); e != api.OK || s != l {
			t.Fatalf("%q is %q in chapter 3", l, s)
		}
		wantProgram(t, said("block 0:", l, "halt r0"), of(halts(0, o)))
		wantProgram(t, said("block 0:", "print r9", l, l, "halt r0"), of(halts(0, api.Op{Do: api.Print, A: 9}, o, o)))
		wantProgram(t, said("block 0:", "loop r3 {", l, "print r9", "}", "jump 0"),
			of(api.Block{End: api.EndLoop, A: 3, Body: []api.Op{o, {Do: api.Print, A: 9}}}))
	}
}

// P5.1: each end, with every register and with numbers that are unlike.
func TestEveryEnd(t *testing.T) {
	tail := said("", "block 1:", "jump 2", "block 2:", "halt r2", "")
	rest := []api.Block{{End: api.EndJump, Then: 2}, halts(2)}
	for a := range uint8(32) {
		r := "r" + strconv.Itoa(int(a))
		for end, b := range map[string]api.Block{
			"halt " + r:                          {End: api.EndHalt, A: a},
			"jump 2":                             {End: api.EndJump, Then: 2},
			"branch " + r + " 1 2":               {End: api.EndBranch, A: a, Then: 1, Else: 2},
			"branch " + r + " 2 0":               {End: api.EndBranch, A: a, Then: 2},
			"loop " + r + " {\n}\njump 1":        {End: api.EndLoop, A: a, Then: 1},
			"loop " + r + " {\n\n}\n# x\njump 2": {End: api.EndLoop, A: a, Then: 2},
		} {
			wantProgram(t, "block 0:\n"+end+tail, of(append([]api.Block{b}, rest...)...))
		}
	}
}

// turn is a place of a text where a line's first word stands: what stands ahead of it, and the words that can stand there.
type turn struct {
	name, ahead string
	can         []string
}

func turns() []turn {
	var names []string
	for _, r := range rows {
		names = append(names, r.name)
	}
	inBlock := append([]string{"jump", "branch", "halt", "loop"}, names...)
	inBody := append([]string{"}"}, names...)
	return []turn{
		{"ahead of all", "", []string{"block"}},
		{"behind a block line", "block 0:\n", inBlock},
		{"behind an operation", "block 0:\nprint r1\n", inBlock},
		{"in a loop", "block 0:\nloop r1 {\n", inBody},
		{"in a loop, behind an operation", "block 0:\nloop r1 {\nprint r1\n", inBody},
		{"behind a loop", "block 0:\nloop r1 {\nprint r1\n}\n", []string{"jump"}},
		{"behind a jump", "block 0:\njump 0\n", []string{"block"}},
		{"behind a branch", "block 0:\nbranch r1 0 0\n", []string{"block"}},
		{"behind a halt", "block 0:\nhalt r0\n", []string{"block"}},
		{"behind a loop's jump", "block 0:\nloop r1 {\n}\njump 0\n", []string{"block"}},
		{"behind a second block line", "block 0:\nhalt r0\nblock 1:\n", inBlock},
		{"in a second block's loop", "block 0:\nhalt r0\nblock 1:\nloop r2 {\n", inBody},
	}
}

// P5.1: every first word of a line where it can stand and where it can't.
func TestEveryFirstWord(t *testing.T) {
	words := []string{"block", "jump", "branch", "halt", "loop", "}"}
	for _, r := range rows {
		words = append(words, r.name)
	}
	none := []string{
		"nop", "count", "short", "again", "{", "{}", "}}", "loop{", "block:", "Block", "BLOCK", "Add", "ADD", "adds", "ad",
		"0:", "0", "1", "-1", "r1", "r", "end", "goto", ":", "-", "blocks", "bloc", "\x00", "add\x00", "add\r", "\r", "\v", "\f",
		"\u00a0", "\u00e4dd", "\xff\xfe", "x#", "add#", "}#", "constr1", "\"", "mul", "alu", "delay",
	}
	for _, u := range turns() {
		for _, w := range slices.Concat(words, none) {
			for _, tail := range []string{"", "\n", " r1", " 0: x", " # y\nblock 0:"} {
				text := u.ahead + " " + w + tail
				if !slices.Contains(u.can, w) {
					wantFault(t, text, api.ErrSyntax, len(u.ahead)+1, w)
					continue
				}
				_, err := Program(text)
				var fault *api.Fault
				if errors.As(err, &fault) && fault.Code == api.ErrSyntax && fault.At <= len(u.ahead)+1 {
					t.Errorf("%s: %q is refused at %d", u.name, text, fault.At)
				}
			}
		}
	}
}

// kind is a kind of line: what stands ahead of it, its first word, and what must stand behind that: r a register, n a number, or the word itself.
type kind struct {
	ahead, first string
	wants        []string
}

func kinds() []kind {
	all := []kind{
		{"", "block", []string{"0:"}},
		{"block 0:\nhalt r1\n", "block", []string{"1:"}},
		{"block 0:\n", "jump", []string{"n"}},
		{"block 0:\n", "branch", []string{"r", "n", "n"}},
		{"block 0:\n", "halt", []string{"r"}},
		{"block 0:\n", "loop", []string{"r", "{"}},
		{"block 0:\nloop r1 {\n", "}", nil},
		{"block 0:\nloop r1 {\n}\n", "jump", []string{"n"}},
	}
	for _, r := range rows {
		var wants []string
		for _, c := range r.what {
			want := "r"
			if c == 'i' {
				want = "n"
			}
			wants = append(wants, want)
		}
		all = append(all, kind{"block 0:\n", r.name, wants}, kind{"block 0:\nloop r1 {\n", r.name, wants})
	}
	return all
}

// right answers a word that a want takes.
func right(want string) string {
	switch want {
	case "r":
		return "r1"
	case "n":
		return "0"
	}
	return want
}

// P5.1: a word that is missing, of each kind of line, with the place that is told.
func TestAWordTooFew(t *testing.T) {
	for _, k := range kinds() {
		l := k.first
		for i := range len(k.wants) {
			for _, dress := range []string{l, "\t " + l, l + " ", l + "\t \t", l + " # r1 0 {", l + "\t#", l + " #\x00\xff"} {
				text := k.ahead + dress
				wantFault(t, text, api.ErrSyntax, len(text), "")
				wantFault(t, text+"\n", api.ErrSyntax, len(text), "")
				wantFault(t, text+"\n\n"+right(k.wants[i])+"\n", api.ErrSyntax, len(text), "")
				wantFault(t, text+"\nnop\n", api.ErrSyntax, len(text), "")
				wantFault(t, "#\n\n"+text+"\n", api.ErrSyntax, len(text)+3, "")
			}
			l += " " + right(k.wants[i])
		}
	}
}

// P5.1: a word more than the line has, of each kind of line.
func TestAWordTooMany(t *testing.T) {
	for _, k := range kinds() {
		text := k.ahead + k.first
		for _, want := range k.wants {
			text += " " + right(want)
		}
		for _, more := range []string{"r1", "0", "{", "}", "block", "halt", "0:", ":", "x", "\r", "\x00", "-", "r2#"} {
			for _, tail := range []string{"", "\n", " y", " # z", "\nnop"} {
				wantFault(t, text+" "+more+tail, api.ErrSyntax, len(text)+1, more)
				wantFault(t, text+" \t "+more+tail, api.ErrSyntax, len(text)+3, more)
			}
		}
	}
}

// P5.1: a word of a line that is not what must stand there, in each place of each kind of line.
func TestAWordThatIsNotWanted(t *testing.T) {
	for _, k := range kinds() {
		for i, want := range k.wants {
			text := k.ahead + k.first
			for _, ahead := range k.wants[:i] {
				text += " " + right(ahead)
			}
			wrong := []string{"r32", "r", "x", ":", "}", "{}", "{{", "r1#", "0#", "{#", "0:#", "block", "-", "00", "r00", "1.", "2147483648"}
			switch want {
			case "r":
				wrong = append(wrong, "0", "1", "{", "0:")
			case "n":
				wrong = append(wrong, "r1", "{", "0:")
			case "{":
				wrong = append(wrong, "r1", "0", "0:", "(")
			default:
				wrong = append(wrong, "r1", "0", "{", "2:", "00:", "01:", "-0:", "-1:", "+0:", "0::", ":0", "0.:")
			}
			for _, w := range wrong {
				wantFault(t, text+" "+w, api.ErrSyntax, len(text)+1, w)
				wantFault(t, text+" "+w+" r1 0 { x\nnop", api.ErrSyntax, len(text)+1, w)
			}
		}
	}
}

// P5.1: registers from r0 to r31, and what is none.
func TestRegisters(t *testing.T) {
	for n := range 32 {
		a := uint8(n)
		r := "r" + strconv.Itoa(n)
		wantProgram(t, said("block 0:", "move "+r+" r7", "add r1 r2 "+r, "print "+r, "halt "+r),
			of(halts(a, api.Op{Do: api.Move, D: a, A: 7}, api.Op{Do: api.Add, D: 1, A: 2, B: a}, api.Op{Do: api.Print, A: a})))
	}
	for _, w := range []string{
		"r", "r32", "r33", "r40", "r99", "r100", "r255", "r256", "r257", "r287", "r288", "r4294967296", "r18446744073709551616",
		"r18446744073709551617", "r1" + strings.Repeat("0", 400), "r00", "r01", "r031", "r007", "r000", "r-0", "r-1", "r+1", "r+0", "R1",
		"rr1", "1", "0", "1r", "r1r", "r1,", "r1:", "r1.", "r0x1", "r1_0", "-r1", "+r1", "r1e0", "r1\r", "r1\x00", "\x00r1",
		"r\u0661", "r\uff11", "r1{", "r1#", "r1#x", "$1", "%1", "x1", "\xffr1",
	} {
		for _, ahead := range []string{
			"halt ", "print ", "loop ", "branch ", "const ", "store r1 ", "load ", "load r2 ", "times r1 ", "times r1 r2 ",
		} {
			text := "block 0:\n" + ahead
			wantFault(t, text+w+" ", api.ErrSyntax, len(text), w)
			wantFault(t, text+w+" 0 0", api.ErrSyntax, len(text), w)
		}
	}
}

// P5.1: numbers at their bounds, one past each, and what is none.
func TestNumbers(t *testing.T) {
	for _, n := range []int64{
		0, 1, -1, 9, 10, -10, 255, 256, 65535, 65536, -65536, 2147483646, 2147483647, -2147483647, -2147483648,
	} {
		w := strconv.FormatInt(n, 10)
		wantProgram(t, said("block 0:", "const r1 "+w, "load r1 r2 "+w, "store r3 r4 "+w, "halt r0"), of(halts(0,
			api.Op{Do: api.Const, D: 1, Imm: n}, api.Op{Do: api.Load, D: 1, A: 2, Imm: n}, api.Op{Do: api.Store, A: 3, B: 4, Imm: n})))
	}
	for _, w := range []string{
		"2147483648", "2147483649", "-2147483649", "-2147483650", "4294967295", "4294967296", "4294967297", "-4294967296",
		"9223372036854775807", "9223372036854775808", "-9223372036854775808", "-9223372036854775809",
		"18446744073709551615", "18446744073709551616", "18446744073709551617", "-18446744073709551616", "-18446744073709551615",
		"340282366920938463463374607431768211456", "1" + strings.Repeat("0", 500), "-1" + strings.Repeat("0", 500),
		"-0", "+0", "+1", "+2147483647", "-", "+", "--1", "-+1", "+-1", "1-", "00", "01", "007", "-00", "-01", "-007", "00000000001",
		strings.Repeat("0", 300), "1.", ".1", "1.0", "1e0", "0x1", "0b1", "0o1", "1_0", "1,", "1:", "one", "r1", "r", "x", "1x", "x1",
		"\x00", "1\x00", "1\r", "\u0661", "\uff11", "\xff", "\u22121", "1#", "1#2", "'1'", "NaN", "inf",
	} {
		for _, ahead := range []string{"const r1 ", "load r1 r2 ", "store r1 r2 ", "jump ", "branch r1 ", "branch r1 0 ", "loop r1 {\n}\njump "} {
			text := "block 0:\n" + ahead
			wantFault(t, text+w, api.ErrSyntax, len(text), w)
			wantFault(t, text+w+" 1 2 3\n", api.ErrSyntax, len(text), w)
		}
	}
}

// P5.1: a number that is right and no block's is program.Check's, not the line's.
func TestNumbersThatAreNoBlocks(t *testing.T) {
	for _, w := range []string{"1", "2", "128", "2147483647", "-1", "-2147483648"} {
		for _, end := range []string{"jump " + w, "branch r1 " + w + " 0", "branch r1 0 " + w, "loop r1 {\n}\njump " + w} {
			wantFault(t, "block 0:\n"+end, api.ErrProgram, 0, "")
			wantFault(t, "# remark\n\nblock 0:\nconst r1 5\n"+end+"\n", api.ErrProgram, 0, "")
		}
	}
}

// P5.1: block lines whose number isn't the next one, or is none.
func TestBlockLines(t *testing.T) {
	text := ""
	for n := range 12 {
		for _, w := range []string{
			"", "0", "1", "9", "10", "11", "12", "-1", "00", "01", "09", "010", "+0", "+1", "-0", "x", "r1", "0x0", "2147483648",
			"18446744073709551616", "4294967296", "\u0660",
		} {
			if w != strconv.Itoa(n) {
				wantFault(t, text+"block "+w+":", api.ErrSyntax, len(text)+6, w+":")
				wantFault(t, text+" block\t"+w+": x\n", api.ErrSyntax, len(text)+7, w+":")
			}
		}
		own := strconv.Itoa(n)
		for _, w := range []string{own, own + ".", own + "::", own + ":x", own + ":#", ":" + own, own + ";", own + ":\r", own + "\uff1a"} {
			wantFault(t, text+"block "+w, api.ErrSyntax, len(text)+6, w)
			wantFault(t, text+"block "+w+" :\nhalt r0", api.ErrSyntax, len(text)+6, w)
		}
		wantFault(t, text+"block : "+own+":", api.ErrSyntax, len(text)+6, ":")
		wantFault(t, text+"block"+own+":", api.ErrSyntax, len(text), "block"+own+":")
		text += "block " + own + ":\nhalt r" + own + "\n"
		p, err := Program(text)
		if err != nil || len(p.Blocks) != n+1 || p.Blocks[n].A != uint8(n) {
			t.Errorf("%q: %v, %v", text, p, err)
		}
	}
}

// P5.1: a line that is missing is told at the text's end, wherever that is.
func TestALineTooFew(t *testing.T) {
	whole := []string{
		"block 0:", "const r1 5", "loop r1 {", "print r1", "}", "jump 1", "block 1:", "add r1 r1 r1", "branch r1 0 2", "block 2:", "halt r1",
	}
	ends := []int{6, 9, 11} // behind so many lines a block has ended
	for n := range len(whole) + 1 {
		for _, tail := range []string{"", "\n", "\n\n", " ", "\t\n ", " # halt r1", "\n# halt r1", "\n#\n\t \n"} {
			text := said(whole[:n]...) + tail
			if !slices.Contains(ends, n) {
				wantFault(t, text, api.ErrSyntax, len(text), "")
				continue
			}
			_, err := Program(text)
			if n < len(whole) && !errors.Is(err, api.ErrProgram) || n == len(whole) && err != nil {
				t.Errorf("%q: %v", text, err)
			}
		}
	}
}

// P5.1: program.Check's errors, each as a fault at 0 without a word.
func TestFaultsOfCheck(t *testing.T) {
	blocks := func(n int) string {
		var text strings.Builder
		for i := range n {
			text.WriteString("block " + strconv.Itoa(i) + ":\nhalt r0\n")
		}
		return text.String()
	}
	many := func(n int, l string) string { return strings.Repeat(l+"\n", n) }
	for _, x := range []struct {
		name, text string
		ops        int
	}{
		{"128 blocks", blocks(128), 128},
		{"1024 operations", "block 0:\n" + many(1023, "print r1") + "halt r0", 1024},
		{"1024 operations, in a body", "block 0:\nloop r1 {\n" + many(1023, "print r1") + "}\njump 0", 1024},
		{"1024 operations, in both", "block 0:\n" + many(500, "print r1") + "loop r1 {\n" + many(523, "print r1") + "}\njump 0", 1024},
	} {
		p, err := Program(x.text)
		if err != nil || program.Ops(p) != x.ops {
			t.Errorf("%s: %v, %d operations", x.name, err, program.Ops(p))
		}
	}
	for _, text := range []string{
		blocks(129), blocks(1000),
		"block 0:\n" + many(1024, "print r1") + "halt r0",
		"block 0:\nloop r1 {\n" + many(1024, "print r1") + "}\njump 0",
		"block 0:\n" + many(501, "print r1") + "loop r1 {\n" + many(523, "print r1") + "}\njump 0",
		"block 0:\n" + many(7000, "print r1") + "jump 99",
		strings.Replace(blocks(129), "halt r0", "jump 999", 1),
	} {
		wantFault(t, text, api.ErrLong, 0, "")
	}
	wantFault(t, blocks(129)+"x", api.ErrSyntax, len(blocks(129)), "x")
	wantFault(t, "block 0:\n"+many(2000, "print r1"), api.ErrSyntax, 9+2000*9, "")
}

// P5.1: of two faults the first one from the left is told; program.Check's comes behind all.
func TestWhichFaultIsTold(t *testing.T) {
	wantAt(t, "block <1:> x")
	wantAt(t, "block <1:>\nnop")
	wantAt(t, "<blok> 1:")
	wantAt(t, "block 0: <x> y\nnop")
	wantAt(t, "block 0:\nadd <r32> r33 r34 r35")
	wantAt(t, "block 0:\nadd r1 <r33> r34 r35")
	wantAt(t, "block 0:\nadd r1 r2 <r34> r35")
	wantAt(t, "block 0:\nadd r1 r2 r3 <r35> r36")
	wantAt(t, "block 0:\nconst <1> 2147483648")
	wantAt(t, "block 0:\nconst r1 <2147483648> x")
	wantAt(t, "block 0:\nbranch r1 <x> y")
	wantAt(t, "block 0:\nbranch r1 7 <y>")
	wantAt(t, "block 0:\nloop <r32> x\njump 0")
	wantAt(t, "block 0:\nloop r1 <x>\njump 0")
	wantAt(t, "block 0:\nloop r1 { <add> r1 r2 r3 }")
	wantAt(t, "block 0:\nloop r1 {\n} <jump> 0")
	wantAt(t, "block 0:\nloop r1 {\n<jump> 0\n}\nhalt r0")
	wantAt(t, "block 0:\nloop r1 {\n<loop> r2 {\n}\njump 0\n}\njump 0")
	wantAt(t, "block 0:\nloop r1 {\n}\n<block> 1:\nhalt r0")
	wantAt(t, "block 0:\nloop r1 {\n}\n<}>\njump 0")
	wantAt(t, "block 0:\nprint r1\n<block> 1:\nhalt r0")
	wantAt(t, "block 0:\nhalt r0\n<halt> r0")
	wantAt(t, "block 0:\njump 7\nblock <0:>\nhalt r0")
	wantAt(t, "block 0:\njump 7\nblock <2:>\nhalt r0")
	wantAt(t, "block 0:\njump -5\nblock 1:\nhalt <r99>")
	wantFault(t, "block 0:\nhalt\nblock 7:", api.ErrSyntax, 13, "")
	wantFault(t, "block\nblock 0:", api.ErrSyntax, 5, "")
	wantFault(t, "block 0:\njump 7\nblock 1:", api.ErrSyntax, 24, "")
	wantFault(t, "block 0:\njump 7\nblock 1:\nhalt r1\n", api.ErrProgram, 0, "")
}

// P5.1: only the two blanks part words, and only 0A parts lines; a # that does not begin a word is the word's own.
func TestEveryByteBetweenWords(t *testing.T) {
	for b := range 256 {
		c := string([]byte{byte(b)})
		inLine := "block 0:\nhalt" + c + "r1"
		between := "block 0:" + c + "halt r1"
		switch c {
		case " ", "\t":
			wantProgram(t, inLine, of(halts(1)))
			wantFault(t, between, api.ErrSyntax, 9, "halt")
		case "\n":
			wantFault(t, inLine, api.ErrSyntax, 13, "")
			wantProgram(t, between, of(halts(1)))
		default:
			wantFault(t, inLine, api.ErrSyntax, 9, "halt"+c+"r1")
			wantFault(t, between, api.ErrSyntax, 6, "0:"+c+"halt")
		}
		if c == " " || c == "\t" || c == "\n" {
			wantProgram(t, "block 0:\nhalt r31"+c, of(halts(31)))
			wantProgram(t, c+"block 0:\nhalt r31", of(halts(31)))
			continue
		}
		wantFault(t, "block 0:\nhalt r31"+c, api.ErrSyntax, 14, "r31"+c)
		if c != "#" {
			wantFault(t, c+"block 0:\nhalt r31", api.ErrSyntax, 0, c+"block")
			wantFault(t, "block 0:\nhalt r31 "+c, api.ErrSyntax, 18, c)
		}
	}
}

// P5.2: remarks at a line's begin and behind words are none of the words; right at a word they are the word's.
func TestRemarks(t *testing.T) {
	want := of(halts(1, api.Op{Do: api.Print, A: 1}))
	for _, r := range []string{"#", "# ", "#x", "##", "# halt r2", "#halt r2", "#\x00\xff\r", "#\t# }", "# block 9:"} {
		wantProgram(t, said(r, "block 0: "+r, "\t"+r, "print r1\t"+r, r, "halt r1 "+r, r), want)
		wantProgram(t, said(r, "", "block 0: "+r, "print r1 "+r, "halt r1 "+r, r, ""), want)
		word, _, _ := strings.Cut(r, " ")
		word, _, _ = strings.Cut(word, "\t")
		wantAt(t, said("<block"+word+">"+r[len(word):]+" 0:", "print r1", "halt r1"))
		wantAt(t, said("block <0:"+word+">"+r[len(word):], "print r1", "halt r1"))
		wantAt(t, said("block 0:", "print <r1"+word+">"+r[len(word):], "halt r1"))
		wantAt(t, said("block 0:", "<halt"+word+">"+r[len(word):]+" r1"))
	}
	wantFault(t, "block 0:\n#print r1\nprint # r1\nhalt r1", api.ErrSyntax, 29, "")
	wantFault(t, "#block 0:\nhalt r1", api.ErrSyntax, 10, "halt")
	wantProgram(t, said("block 0:", "loop r1 { # }", "# }", "} # }", "# jump 1", "jump 0 # 1"), of(api.Block{End: api.EndLoop, A: 1}))
}
