package parse

import (
	"math/big"
	"math/rand"
	"reflect"
	"regexp"
	"slices"
	"strconv"
	"strings"
	"testing"

	"hayloft/api"
	"hayloft/program"
)

// chance answers a program of some blocks that program.Check takes.
func chance(r *rand.Rand) api.Program {
	var p api.Program
	blocks := 1 + r.Intn(6)
	if r.Intn(20) == 0 {
		blocks = 1 + r.Intn(128)
	}
	for range blocks {
		b := api.Block{Ops: chanceOps(r), End: int8(r.Intn(4))}
		if b.End != api.EndJump {
			b.A = uint8(r.Intn(32))
		}
		if b.End != api.EndHalt {
			b.Then = r.Intn(blocks)
		}
		if b.End == api.EndBranch {
			b.Else = r.Intn(blocks)
		}
		if b.End == api.EndLoop {
			b.Body = chanceOps(r)
		}
		p.Blocks = append(p.Blocks, b)
	}
	return p
}

func chanceOps(r *rand.Rand) []api.Op {
	var list []api.Op
	for range r.Intn(4) {
		imm := int64(int32(r.Uint32())) >> r.Intn(32)
		_, o := rows[r.Intn(len(rows))].line(uint8(r.Intn(32)), uint8(r.Intn(32)), uint8(r.Intn(32)), imm)
		list = append(list, o)
	}
	return list
}

// written answers a program's lines, as chapter 6 has them, without blanks ahead.
func written(p api.Program) []string {
	var out []string
	register := func(a uint8) string { return "r" + strconv.Itoa(int(a)) }
	list := func(l []api.Op) {
		for _, o := range l {
			for _, r := range rows {
				if r.do == o.Do {
					text, _ := r.line(o.D, o.A, o.B, o.Imm)
					out = append(out, text)
				}
			}
		}
	}
	for i, b := range p.Blocks {
		out = append(out, "block "+strconv.Itoa(i)+":")
		list(b.Ops)
		switch b.End {
		case api.EndJump:
			out = append(out, "jump "+strconv.Itoa(b.Then))
		case api.EndBranch:
			out = append(out, "branch "+register(b.A)+" "+strconv.Itoa(b.Then)+" "+strconv.Itoa(b.Else))
		case api.EndHalt:
			out = append(out, "halt "+register(b.A))
		default:
			out = append(out, "loop "+register(b.A)+" {")
			list(b.Body)
			out = append(out, "}", "jump "+strconv.Itoa(b.Then))
		}
	}
	return out
}

// dressed puts blanks, remarks and lines without words wherever they can stand.
func dressed(r *rand.Rand, lines []string) string {
	blanks := func(least int) string {
		var out strings.Builder
		for range least + r.Intn(3) {
			out.WriteByte(" \t"[r.Intn(2)])
		}
		return out.String()
	}
	remark := func() string {
		return []string{"", "#", "# halt r0", "#}", "#\xff\x00\r # }", "##"}[r.Intn(6)]
	}
	var out strings.Builder
	for _, l := range lines {
		for r.Intn(3) == 0 {
			out.WriteString(blanks(0) + remark() + "\n")
		}
		out.WriteString(blanks(0))
		for i, w := range strings.Split(l, " ") {
			if i > 0 {
				out.WriteString(blanks(1))
			}
			out.WriteString(w)
		}
		out.WriteString(blanks(1) + remark() + "\n")
	}
	return out.String()
}

// P5.2: a program's text is read as it was, whatever blanks, remarks and lines without words stand in it.
func TestThereAndBack(t *testing.T) {
	r := rand.New(rand.NewSource(5))
	for range 4000 {
		p := chance(r)
		if e := program.Check(p); e != api.OK {
			t.Fatalf("Check(%+v) is %d", p, e)
		}
		lines := written(p)
		wantProgram(t, said(lines...), p)
		wantProgram(t, said(lines...)+"\n", p)
		wantProgram(t, "  "+strings.Join(lines, "\n    ")+"\n", p)
		for range 3 {
			wantProgram(t, dressed(r, lines), p)
		}
	}
}

// token is a word or an end, as the slow reader below sees it.
type token struct {
	at   int
	word string
	kind byte // 'w' a word, 'l' a line's end, 't' the text's end
}

// tokens goes over the text byte by byte; nothing of the program is used. Lines without words tell nothing.
func tokens(text string) []token {
	var out []token
	word, begin, remark, words := "", 0, false, 0
	flush := func() {
		if word != "" {
			out = append(out, token{begin, word, 'w'})
			words++
		}
		word = ""
	}
	endLine := func(at int) {
		flush()
		if words > 0 {
			out = append(out, token{at, "", 'l'})
		}
		remark, words = false, 0
	}
	for i := 0; i < len(text); i++ {
		switch c := text[i]; {
		case c == 0x0a:
			endLine(i)
		case remark:
		case c == 0x20 || c == 0x09:
			flush()
		case c == '#' && word == "":
			remark = true
		default:
			if word == "" {
				begin = i
			}
			word += text[i : i+1]
		}
	}
	endLine(len(text))
	return append(out, token{len(text), "", 't'})
}

var (
	aRegister = regexp.MustCompile(`\Ar(0|[1-9]|[12][0-9]|3[01])\z`)
	aNumber   = regexp.MustCompile(`\A(0|-?[1-9][0-9]*)\z`)
)

// numberOf answers a number of the text; nothing of the program is used.
func numberOf(word string) (int64, bool) {
	n, ok := new(big.Int).SetString(word, 10)
	if !aNumber.MatchString(word) || !ok || n.Cmp(big.NewInt(-1<<31)) < 0 || n.Cmp(big.NewInt(1<<31-1)) > 0 {
		return 0, false
	}
	return n.Int64(), true
}

// step is what a line does that begins with a word in a turn: what must stand behind it, and which turn comes.
type step struct {
	wants string // d, a, b a register each; i, T, E a number; { itself; : the next block's number
	turn  byte   // o ahead of a block line, b in a block, l in a loop, j behind a loop
}

// steps answers the lines that can stand in a turn.
func steps(turn byte) map[string]step {
	out := map[string]step{}
	if turn == 'b' || turn == 'l' {
		for _, r := range rows {
			out[r.name] = step{r.what, turn}
		}
	}
	switch turn {
	case 'o':
		out["block"] = step{":", 'b'}
	case 'b':
		out["jump"], out["branch"], out["halt"], out["loop"] = step{"T", 'o'}, step{"ATE", 'o'}, step{"A", 'o'}, step{"A{", 'l'}
	case 'l':
		out["}"] = step{"", 'j'}
	default:
		out["jump"] = step{"T", 'o'}
	}
	return out
}

// slowRead reads a program token by token, by the turns above.
func slowRead(text string) (api.Program, *api.Fault) {
	var p api.Program
	if len(text) > 65536 {
		return p, &api.Fault{Code: api.ErrLong}
	}
	turn, all := byte('o'), tokens(text)
	for i := 0; ; {
		first := all[i]
		if first.kind == 't' && turn == 'o' && len(p.Blocks) > 0 {
			break
		}
		s, ok := steps(turn)[first.word]
		if !ok {
			return api.Program{}, &api.Fault{Code: api.ErrSyntax, At: first.at, Word: first.word}
		}
		i++
		var o api.Op
		for _, w := range []byte(s.wants) {
			if !slowWord(&p, &o, w, all[i].word) {
				return api.Program{}, &api.Fault{Code: api.ErrSyntax, At: all[i].at, Word: all[i].word}
			}
			i++
		}
		if all[i].kind != 'l' {
			return api.Program{}, &api.Fault{Code: api.ErrSyntax, At: all[i].at, Word: all[i].word}
		}
		i++
		slowLine(&p, o, turn, first.word)
		turn = s.turn
	}
	if e := program.Check(p); e != api.OK {
		return api.Program{}, &api.Fault{Code: e}
	}
	return p, nil
}

// slowWord takes one word behind a line's first, and answers whether it is what is wanted.
func slowWord(p *api.Program, o *api.Op, want byte, word string) bool {
	last := len(p.Blocks) - 1
	switch want {
	case ':':
		p.Blocks = append(p.Blocks, api.Block{})
		return word == strconv.Itoa(last+1)+":"
	case '{':
		return word == "{"
	case 'i', 'T', 'E':
		n, ok := numberOf(word)
		switch want {
		case 'i':
			o.Imm = n
		case 'T':
			p.Blocks[last].Then = int(n)
		default:
			p.Blocks[last].Else = int(n)
		}
		return ok
	}
	if !aRegister.MatchString(word) {
		return false
	}
	n, _ := strconv.Atoi(word[1:])
	switch want {
	case 'd':
		o.D = uint8(n)
	case 'a':
		o.A = uint8(n)
	case 'b':
		o.B = uint8(n)
	default:
		p.Blocks[last].A = uint8(n)
	}
	return true
}

// slowLine keeps what a line says that was read to its end.
func slowLine(p *api.Program, o api.Op, turn byte, first string) {
	b := &p.Blocks[len(p.Blocks)-1]
	at := slices.IndexFunc(rows, func(r row) bool { return r.name == first })
	switch {
	case at >= 0 && turn == 'b':
		o.Do = rows[at].do
		b.Ops = append(b.Ops, o)
	case at >= 0:
		o.Do = rows[at].do
		b.Body = append(b.Body, o)
	case turn == 'b':
		b.End = map[string]int8{"jump": 0, "branch": 1, "halt": 2, "loop": 3}[first]
	}
}

// wantAsSlow holds Program against the slow reader, and answers the fault's number.
func wantAsSlow(t *testing.T, text string) api.Errno {
	t.Helper()
	want, wantFault := slowRead(text)
	p, err := Program(text)
	if wantFault == nil {
		if err != nil || !reflect.DeepEqual(plain(p), plain(want)) {
			t.Fatalf("%q: %+v, %v, want %+v", text, p, err, want)
		}
		return api.OK
	}
	fault, ok := err.(*api.Fault)
	if !ok || *fault != *wantFault || p.Blocks != nil {
		t.Fatalf("%q: %+v, %v, want %v", text, p, err, wantFault)
	}
	return fault.Code
}

// spoilt changes a text a little: a word, a byte or a line is put in, left out or changed.
func spoilt(r *rand.Rand, text string) string {
	words := []string{
		"block", "0:", "1:", "jump", "branch", "halt", "loop", "{", "}", "#", "nop", "count", "r0", "r31", "r32", "r01", "0", "1", "2", "-1",
		"-0", "2147483647", "2147483648", "-2147483648", "-2147483649", "const", "add", "print", "x", ":", "\n", "\r", "#x", "7",
	}
	at := r.Intn(len(text) + 1)
	end := min(at+r.Intn(6), len(text))
	switch r.Intn(6) {
	case 0: // most often no block's number
		return strings.Replace(text, "jump ", "jump 9", 1)
	case 1:
		return text[:at] + words[r.Intn(len(words))] + text[at:]
	case 2:
		return text[:at] + text[end:]
	case 3:
		return text[:at] + string([]byte{byte(r.Intn(256))}) + text[end:]
	case 4:
		lines := strings.Split(text, "\n")
		i := r.Intn(len(lines))
		return strings.Join(slices.Delete(slices.Clone(lines), i, i+1), "\n")
	}
	parts := strings.SplitAfter(text, " ")
	parts[r.Intn(len(parts))] = words[r.Intn(len(words))] + " "
	return strings.Join(parts, "")
}

// P5.1: texts by the thousand, right ones and spoilt ones, against the promise told once more.
func TestManyTexts(t *testing.T) {
	r := rand.New(rand.NewSource(51))
	seen := map[api.Errno]int{}
	for range 6000 {
		text := said(written(chance(r))...)
		if r.Intn(2) == 0 {
			text = dressed(r, strings.Split(text, "\n"))
		}
		for range 4 {
			seen[wantAsSlow(t, text)]++
			text = spoilt(r, text)
		}
	}
	for _, e := range []api.Errno{api.OK, api.ErrSyntax, api.ErrProgram} {
		if seen[e] < 300 {
			t.Errorf("%d came up only %d times", e, seen[e])
		}
	}
}

// P5.1: a text cut at every byte.
func TestCutAtEveryByte(t *testing.T) {
	text := "# row\nblock 0: # first\n\tconst r1 -25\n\nloop r12 { #\n add r2 r2 r3\n}\n jump 1\nblock 1:\nload r1 r2 7\nbranch r2 0 2\nblock 2:\nhalt r31 \n"
	for i := range len(text) + 1 {
		wantAsSlow(t, text[:i])
		wantAsSlow(t, text[i:])
		wantAsSlow(t, text[:i]+" "+text[i:])
		wantAsSlow(t, text[:i]+"\n"+text[i:])
		wantAsSlow(t, text[:i]+"#"+text[i:])
	}
}

// R2, R3: what is handed out is new memory, each list its own, and what is asked twice is answered twice alike.
func TestWhatIsHandedOutIsNew(t *testing.T) {
	text := said("block 0:", "print r1", "print r2", "print r3", "loop r1 {", "print r4", "print r5", "print r6", "}", "jump 1",
		"block 1:", "print r7", "print r8", "print r9", "halt r1", "")
	first, err := Program(text)
	if err != nil {
		t.Fatal(err)
	}
	kept := plain(first)
	junk := api.Op{Do: 99, Imm: 99}
	lists := [][]api.Op{first.Blocks[0].Ops, first.Blocks[0].Body, first.Blocks[1].Ops}
	for _, l := range lists {
		_ = append(l, junk, junk, junk)
	}
	if !reflect.DeepEqual(plain(first), kept) {
		t.Error("two lists of an answer share memory")
	}
	for _, l := range lists {
		for i := range l {
			l[i] = junk
		}
	}
	first.Blocks[0].A = 30
	_ = append(first.Blocks, api.Block{End: 9})
	wantProgram(t, text, kept)
	wantProgram(t, text, kept)

	_, err1 := Program("block 0:\nnop")
	err1.(*api.Fault).At = 99
	wantFault(t, "block 0:\nnop", api.ErrSyntax, 9, "nop")
}

// FuzzText holds Program against the slow reader, and what is read against its own text.
func FuzzText(f *testing.F) {
	f.Add("block 0:\nconst r1 5\nhalt r1")
	f.Add("block 0:\nloop r1 {\nadd r2 r2 r3\n}\njump 1\nblock 1:\nprint r2\nbranch r2 0 1\n")
	f.Add("block 0: # x\n\tstore r1 r2 -2147483648\n\njump 7 ")
	f.Fuzz(func(t *testing.T, text string) {
		if wantAsSlow(t, text) != api.OK {
			return
		}
		p, _ := Program(text)
		wantProgram(t, said(written(p)...), p)
	})
}
