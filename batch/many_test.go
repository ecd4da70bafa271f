package batch

import (
	"fmt"
	"math/rand"
	"slices"
	"strings"
	"testing"

	"hayloft/api"
)

// chanceLine answers an operation's line of so many registers.
func chanceLine(r *rand.Rand, registers int) string {
	of := func() int { return r.Intn(registers) }
	three := []string{"add", "sub", "and", "or", "xor", "shl", "shr", "less", "equal", "times", "add", "sub", "times"}
	switch r.Intn(12) {
	case 0:
		return fmt.Sprintf("const r%d %d", of(), r.Intn(9)-3)
	case 1:
		return fmt.Sprintf("move r%d r%d", of(), of())
	case 2, 3:
		return fmt.Sprintf("load r%d r%d %d", of(), of(), r.Intn(600)-300)
	case 4:
		return fmt.Sprintf("store r%d r%d %d", of(), of(), r.Intn(600)-300)
	case 5, 6:
		return fmt.Sprintf("print r%d", of())
	case 7:
		return fmt.Sprintf("%s r%d r%d r%d", []string{"divide", "rest"}[r.Intn(2)], of(), of(), of())
	}
	return fmt.Sprintf("%s r%d r%d r%d", three[r.Intn(len(three))], of(), of(), of())
}

func chanceLines(r *rand.Rand, registers int) []string {
	var l []string
	for range r.Intn(7) {
		l = append(l, chanceLine(r, registers))
	}
	return l
}

// chanceText answers the text of a program, mostly of one that comes to an end.
func chanceText(r *rand.Rand) string {
	blocks, registers := 1+r.Intn(5), 2+r.Intn(8)
	var l []string
	for n := range blocks {
		// Some go back, most ahead.
		then := func() int {
			if r.Intn(4) == 0 {
				return r.Intn(blocks)
			}
			return min(n+1+r.Intn(2), blocks-1)
		}
		of := r.Intn(registers)
		lines := chanceLines(r, registers)
		switch end := r.Intn(5); {
		case n == blocks-1 || end == 0 && r.Intn(3) == 0:
			lines = append(lines, fmt.Sprintf("halt r%d", of))
		case end == 1:
			lines = append(lines, fmt.Sprintf("jump %d", then()))
		case end == 2:
			lines = append(lines, fmt.Sprintf("loop r%d {", of))
			lines = append(append(lines, chanceLines(r, registers)...), "}", fmt.Sprintf("jump %d", then()))
		default:
			lines = append(lines, fmt.Sprintf("branch r%d %d %d", of, then(), then()))
		}
		l = append(l, strings.Join(lines, ", "))
	}
	return textOf(l...)
}

// spoiled answers a text with a byte more, one less, or another one; mostly it is no program any more.
func spoiled(r *rand.Rand, text string) string {
	n := r.Intn(len(text))
	with := string("0123456789 \n:{}#rxbhj"[r.Intn(21)])
	return text[:n] + []string{"", with, with + text[n:n+1]}[r.Intn(3)] + text[n+1:]
}

func chanceTexts(r *rand.Rand, count int) []string {
	var l []string
	for n := range count {
		switch r.Intn(9) {
		case 0:
			l = append(l, spoiled(r, chanceText(r)))
		case 1:
			l = append(l, []string{"", "x", "block 0:\njump 9\n", "block 0:\nhalt r3\n"}[r.Intn(4)])
		case 2:
			l = append(l, append(l, chanceText(r))[r.Intn(n+1)]) // one that was there
		default:
			l = append(l, chanceText(r))
		}
	}
	return l
}

func chanceTable(r *rand.Rand) api.Table {
	m := api.Table{Delay: r.Intn(api.MaxDelay + 1)}
	for class := range api.Classes {
		m.Units[class], m.Lat[class], m.Busy[class] = 1+r.Intn(api.MaxUnits), 1+r.Intn(api.MaxLatency), 1+r.Intn(api.MaxBusy)
		if r.Intn(3) == 0 {
			m.Units[class], m.Lat[class], m.Busy[class] = 1, 1, 1
		}
	}
	if r.Intn(4) == 0 {
		m.Units[r.Intn(api.Classes)] = 0
	}
	return m
}

func chanceState(r *rand.Rand) api.State {
	s := api.State{Regs: make([]int64, r.Intn(33)), Mem: make([]int64, r.Intn(257))}
	for _, l := range [][]int64{s.Regs, s.Mem} {
		for n := range l {
			l[n] = int64(r.Intn(14) - 3)
			if r.Intn(9) == 0 {
				l[n] = int64(r.Uint64())
			}
		}
	}
	return s
}

// P26.1 and P26.3 of many texts, tables, states, steps and workers.
func TestManyTexts(t *testing.T) {
	r := rand.New(rand.NewSource(26))
	errs, ends := map[api.Errno]int{}, map[[2]api.Errno]int{}
	for range 250 {
		texts := chanceTexts(r, r.Intn(20))
		for _, x := range wantRun(t, texts, chanceTable(r), chanceState(r), r.Intn(700)-20, r.Intn(20)-1) {
			errs[x.E]++
			if x.E == api.OK {
				ends[[2]api.Errno{x.Seq.E, x.Pipe.E}]++
			}
		}
	}
	if min(errs[api.OK], errs[api.ErrSyntax], errs[api.ErrNoUnit], errs[api.ErrProgram]) < 50 {
		t.Errorf("by errors %v", errs)
	}
	for _, e := range []api.Errno{api.OK, api.ErrDivide, api.ErrFuel} {
		if ends[[2]api.Errno{e, e}] < 50 {
			t.Errorf("by ends %v", ends)
		}
	}
}

// cuts answers lists that put one behind the other are that list: some of two parts, some of more, among them empty ones.
func cuts(r *rand.Rand, texts []string) [][]string {
	at := []int{0, len(texts)}
	for range r.Intn(4) {
		at = append(at, r.Intn(len(texts)+1))
	}
	slices.Sort(at)
	var l [][]string
	for n := range at[1:] {
		l = append(l, texts[at[n]:at[n+1]])
	}
	return l
}

// P26.2: a text's Result hangs neither on the others nor on who works.
func TestParts(t *testing.T) {
	r := rand.New(rand.NewSource(262))
	for range 80 {
		texts, m, s, steps := chanceTexts(r, r.Intn(40)), chanceTable(r), chanceState(r), r.Intn(400)
		whole := run(t, texts, m, s, steps, 1+r.Intn(16))
		wantResults(t, run(t, texts, m, s, steps, r.Intn(1000)-500), whole)
		ones := [][]string{}
		for n := range texts {
			ones = append(ones, texts[n:n+1])
		}
		half := r.Intn(len(texts) + 1)
		for _, parts := range [][][]string{{texts[:half], texts[half:]}, ones, cuts(r, texts)} {
			var l []api.Result
			for _, part := range parts {
				l = append(l, run(t, part, m, s, steps, r.Intn(20)-1)...)
			}
			wantResults(t, l, whole)
		}
		// In another order each is what it was.
		order := r.Perm(len(texts))
		var turned []string
		for _, n := range order {
			turned = append(turned, texts[n])
		}
		for at, x := range run(t, turned, m, s, steps, 4) {
			wantResults(t, []api.Result{x}, whole[order[at]:order[at]+1])
		}
	}
}

// P11: over many runs, with every number of workers.
func TestTheSameEachTime(t *testing.T) {
	r := rand.New(rand.NewSource(11))
	for range 4 {
		texts, m, s := chanceTexts(r, api.MaxTexts), chanceTable(r), chanceState(r)
		want := all(t, texts, m, s, 300)
		for range 3 {
			for workers := -1; workers < 20; workers++ {
				wantResults(t, run(t, texts, m, s, 300, workers), want)
			}
		}
	}
}

// withRoom answers a list with room behind its end.
func withRoom[T any](l []T, behind T) []T { return append(slices.Clone(l), behind, behind)[:len(l)] }

// whole answers a list with all that stands in the room behind its end.
func whole[T any](l []T) []T { return l[:cap(l)] }

// listsOf answers all that results hold in lists.
func listsOf(l []api.Result) [][]int64 {
	var lists [][]int64
	for _, x := range l {
		lists = append(lists, x.Seq.Prints, x.Seq.Mem, x.Pipe.Prints, x.Pipe.Mem)
	}
	return lists
}

// wantOwn writes into each list of results, with the room behind its end, and says that no other one shows it.
func wantOwn(t testing.TB, results []api.Result) {
	t.Helper()
	lists := listsOf(results)
	for n, l := range lists {
		for k := range whole(l) {
			whole(l)[k] = int64(-1000 - n)
		}
	}
	for n, l := range lists {
		if slices.ContainsFunc(whole(l), func(value int64) bool { return value != int64(-1000-n) }) {
			t.Fatal("two lists of an answer share something")
		}
	}
}

// R3: nothing of what is handed in is changed or kept, and nothing that is handed out is shared: neither with it nor with any other Result.
func TestArgumentsAndAnswersShareNothing(t *testing.T) {
	r := rand.New(rand.NewSource(3))
	for range 60 {
		texts, m, s := withRoom(chanceTexts(r, r.Intn(30)), "behind"), chanceTable(r), chanceState(r)
		texts = append(texts, texts...) // each twice
		s = api.State{Regs: withRoom(s.Regs, 99), Mem: withRoom(s.Mem, 99)}
		before, registers, cells := slices.Clone(whole(texts)), slices.Clone(whole(s.Regs)), slices.Clone(whole(s.Mem))
		stays := func(when string) {
			t.Helper()
			if !slices.Equal(whole(texts), before) || !slices.Equal(whole(s.Regs), registers) || !slices.Equal(whole(s.Mem), cells) {
				t.Fatalf("what was handed in was changed %s", when)
			}
		}
		want := all(t, texts, m, s, 200)
		l := run(t, texts, m, s, 200, 5)
		again := run(t, texts, m, s, 200, 5)
		stays("by Run")
		wantOwn(t, l)
		clear(whole(l))
		stays("by an answer")
		wantResults(t, again, want)
		clear(whole(texts))
		clear(whole(s.Regs))
		clear(whole(s.Mem))
		wantResults(t, again, want)
	}
}

// Equal texts stand side by side, each with a Result of its own.
func TestEqualTexts(t *testing.T) {
	text := textOf("print r1, print r2, store r0 r1 5, halt r1")
	for _, workers := range workerCounts() {
		l := wantRun(t, slices.Repeat([]string{text}, api.MaxTexts), ones(), regs(0, 8, 9), 50, workers)
		for _, x := range l {
			wantEnd(t, x, api.OK, 8, 8, 9)
		}
		wantOwn(t, l)
	}
}

// fuzzed answers texts, a table, a state, steps and workers of a text and numbers; the table and the state are mostly let in.
func fuzzed(text string, seed int64, steps, workers int) ([]string, api.Table, api.State) {
	r := rand.New(rand.NewSource(seed))
	texts, m, s := append(chanceTexts(r, r.Intn(5)), strings.Split(text, ";")...), chanceTable(r), chanceState(r)
	switch r.Intn(12) {
	case 0:
		m.Lat[r.Intn(api.Classes)] = workers
	case 1:
		s.Regs = make([]int64, max(0, steps%50))
	}
	return texts, m, s
}

func FuzzBatch(f *testing.F) {
	r := rand.New(rand.NewSource(2626))
	for n := range 30 {
		f.Add(strings.Join(chanceTexts(r, r.Intn(6)), ";"), int64(n), r.Intn(300), r.Intn(20))
	}
	f.Add(strings.Repeat(";", 129), int64(9), 1, 1)
	f.Fuzz(func(t *testing.T, text string, seed int64, steps, workers int) {
		steps %= 3000
		texts, m, s := fuzzed(text, seed, steps, workers)
		switch {
		case len(texts) > api.MaxTexts:
			wantError(t, texts, m, s, steps, workers, api.ErrLong)
		case slices.ContainsFunc(m.Lat[:], func(lat int) bool { return lat < 1 || lat > api.MaxLatency }):
			wantError(t, texts, m, s, steps, workers, api.ErrTable)
		case len(s.Regs) > api.Registers:
			wantError(t, texts, m, s, steps, workers, api.ErrArg)
		default:
			wantRun(t, texts, m, s, steps, workers)
		}
	})
}
