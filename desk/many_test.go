package desk

import (
	"errors"
	"fmt"
	"math"
	"math/rand"
	"slices"
	"strings"
	"testing"

	"hayloft/api"
	"hayloft/pack"
	"hayloft/parse"
	"hayloft/pipe"
	"hayloft/serial"
	"hayloft/table"
)

// asked is whatever can be asked as a desk can.
type asked interface {
	Table(text string) error
	Put(name, text string) error
	Drop(name string) api.Errno
	Names() []string
	Open(name string, s api.State, packed bool) (int, api.Errno)
	Go(run, n int) (api.Outcome, api.Errno)
	Close(run int) api.Errno
}

// second is the chapter told a second time, slowly: it holds texts, and makes each run anew from its beginning whenever it is gone on with.
type second struct {
	table string
	held  []program
	runs  []*told // all that were begun; run n is the one ahead of place n
}

type program struct{ name, text string }

type told struct {
	closed      bool
	text, table string
	s           api.State
	packed      bool
	asked       []int
}

func newSecond() *second {
	return &second{table: "alu 2 lat 1 busy 1\nmul 1 lat 3 busy 1\nmem 1 lat 2 busy 1\nctl 1 lat 1 busy 1\ndelay 1\n"}
}

func (x *second) Table(text string) error {
	_, err := table.Parse(text)
	if err == nil {
		x.table = text
	}
	return err
}

func (x *second) place(name string) int {
	return slices.IndexFunc(x.held, func(p program) bool { return p.name == name })
}

func (x *second) count() int {
	count := len(x.held)
	for _, run := range x.runs {
		if !run.closed {
			count++
		}
	}
	return count
}

func (x *second) Put(name, text string) error {
	if len(name) < 1 || len(name) > 32 || strings.Trim(name, ofNames) != "" {
		return &api.Fault{Code: api.ErrArg}
	}
	at := x.place(name)
	if at < 0 && x.count() >= 256 {
		return &api.Fault{Code: api.ErrFull}
	}
	if _, err := parse.Program(text); err != nil {
		return err
	}
	if at < 0 {
		x.held = append(x.held, program{name, text})
	} else {
		x.held[at].text = text
	}
	return nil
}

func (x *second) Drop(name string) api.Errno {
	at := x.place(name)
	if at < 0 {
		return api.ErrNone
	}
	x.held = slices.Delete(x.held, at, at+1)
	return api.OK
}

func (x *second) Names() (l []string) {
	for _, p := range x.held {
		l = append(l, p.name)
	}
	return sorted(l)
}

// anew answers a run's machine at its beginning.
func (run *told) anew() (runner, api.Errno) {
	p, err := parse.Program(run.text)
	if err != nil {
		panic(err)
	}
	m, err := table.Parse(run.table)
	if err != nil {
		panic(err)
	}
	if !run.packed {
		one, e := serial.New(p, run.s)
		return one, e
	}
	k, e := pack.Pack(p, m)
	if e != api.OK {
		return nil, e
	}
	wide, e := pipe.New(k.Words, m, run.s)
	return wide, e
}

func (x *second) Open(name string, s api.State, packed bool) (int, api.Errno) {
	at := x.place(name)
	if at < 0 {
		return 0, api.ErrNone
	}
	if x.count() >= 256 {
		return 0, api.ErrFull
	}
	run := &told{text: x.held[at].text, table: x.table, s: api.State{Regs: slices.Clone(s.Regs), Mem: slices.Clone(s.Mem)}, packed: packed}
	if _, e := run.anew(); e != api.OK {
		return 0, e
	}
	x.runs = append(x.runs, run)
	return len(x.runs), api.OK
}

func (x *second) run(n int) *told {
	if n < 1 || n > len(x.runs) || x.runs[n-1].closed {
		return nil
	}
	return x.runs[n-1]
}

func (x *second) Go(run, n int) (o api.Outcome, e api.Errno) {
	one := x.run(run)
	if one == nil {
		return o, api.ErrNone
	}
	one.asked = append(one.asked, n)
	m, _ := one.anew()
	for _, n := range one.asked {
		o = m.Run(n)
	}
	return o, api.OK
}

func (x *second) Close(run int) api.Errno {
	one := x.run(run)
	if one == nil {
		return api.ErrNone
	}
	one.closed = true
	return api.OK
}

// call is one call of what can be asked: it answers what that told, and whether it was refused.
type call func(d asked) (told string, refused bool)

// ofError answers what an error tells, whatever kind it is of.
func ofError(err error) (string, bool) {
	if f, is := err.(*api.Fault); is && f != nil {
		return fmt.Sprintf("fault %d %d %q", f.At, f.Code, f.Word), true
	}
	return fmt.Sprintf("%v", err), err != nil
}

func ofOutcome(o api.Outcome) string {
	return fmt.Sprint(o.E, " ", o.Value, " ", o.Steps, " ", o.Prints, " ", o.Mem)
}

func tableCall(text string) call {
	return func(d asked) (string, bool) { return ofError(d.Table(text)) }
}

func putCall(name, text string) call {
	return func(d asked) (string, bool) { return ofError(d.Put(name, text)) }
}

func dropCall(name string) call {
	return func(d asked) (string, bool) { e := d.Drop(name); return fmt.Sprint(int(e)), e != api.OK }
}

func namesCall() call {
	return func(d asked) (string, bool) { return fmt.Sprintf("%q", d.Names()), false }
}

func openCall(name string, s api.State, packed bool) call {
	return func(d asked) (string, bool) {
		run, e := d.Open(name, s, packed)
		return fmt.Sprint(run, " ", int(e)), e != api.OK
	}
}

func goCall(run, n int) call {
	return func(d asked) (string, bool) {
		o, e := d.Go(run, n)
		return fmt.Sprint(ofOutcome(o), " ", int(e)), e != api.OK
	}
}

func closeCall(run int) call {
	return func(d asked) (string, bool) { e := d.Close(run); return fmt.Sprint(int(e)), e != api.OK }
}

// chanceLine answers an operation's line of so many registers.
func chanceLine(r *rand.Rand, registers int) string {
	of := func() int { return r.Intn(registers) }
	switch kind := []string{"add", "sub", "times", "xor", "less", "const", "move", "load", "store", "print", "divide", "add"}[r.Intn(12)]; kind {
	case "const":
		return fmt.Sprintf("const r%d %d", of(), r.Intn(9)-3)
	case "move":
		return fmt.Sprintf("move r%d r%d", of(), of())
	case "load", "store":
		return fmt.Sprintf("%s r%d r%d %d", kind, of(), of(), r.Intn(600)-300)
	case "print":
		return fmt.Sprintf("print r%d", of())
	default:
		return fmt.Sprintf("%s r%d r%d r%d", kind, of(), of(), of())
	}
}

func chanceLines(r *rand.Rand, registers int) (l []string) {
	for range r.Intn(6) {
		l = append(l, chanceLine(r, registers))
	}
	return l
}

// chanceText answers the text of a program, mostly of one that comes to an end.
func chanceText(r *rand.Rand) string {
	blocks, registers := 1+r.Intn(4), 2+r.Intn(6)
	var l []string
	for n := range blocks {
		then := func() int { return min(n+1+r.Intn(2), blocks-1-r.Intn(2)*r.Intn(2)*r.Intn(blocks)) }
		lines, of := chanceLines(r, registers), r.Intn(registers)
		switch end := r.Intn(4); {
		case n == blocks-1:
			lines = append(lines, fmt.Sprintf("halt r%d", of))
		case end == 0:
			lines = append(lines, fmt.Sprintf("jump %d", then()))
		case end == 1:
			lines = append(append(append(lines, fmt.Sprintf("loop r%d {", of)), chanceLines(r, registers)...), "}", fmt.Sprintf("jump %d", then()))
		default:
			lines = append(lines, fmt.Sprintf("branch r%d %d %d", of, then(), then()))
		}
		l = append(l, strings.Join(lines, ", "))
	}
	return textOf(l...)
}

// spoiled answers a text with a byte more, one less, or another one.
func spoiled(r *rand.Rand, text string) string {
	n, with := r.Intn(len(text)), string("0123456789 \n:{}#rxbhj"[r.Intn(21)])
	return text[:n] + []string{"", with, with + text[n:n+1]}[r.Intn(3)] + text[n+1:]
}

func chanceTable(r *rand.Rand) api.Table {
	m := api.Table{Delay: r.Intn(api.MaxDelay + 1)}
	for class := range api.Classes {
		m.Units[class], m.Lat[class], m.Busy[class] = 1+r.Intn(api.MaxUnits), 1+r.Intn(api.MaxLatency), 1+r.Intn(api.MaxBusy)
	}
	if r.Intn(4) == 0 {
		m.Units[r.Intn(api.Classes)] = 0
	}
	return m
}

func chanceState(r *rand.Rand) api.State {
	s := api.State{Regs: make([]int64, r.Intn(33)), Mem: make([]int64, r.Intn(257))}
	for _, l := range [][]int64{s.Regs, s.Mem} {
		for n := range l {
			l[n] = int64(r.Intn(12) - 3)
			if r.Intn(12) == 0 {
				l[n] = int64(r.Uint64())
			}
		}
	}
	switch r.Intn(20) {
	case 0:
		s.Regs = make([]int64, 33)
	case 1:
		s.Mem = make([]int64, 257)
	}
	return s
}

// chanceName answers one of few names, now and then what is none.
func chanceName(r *rand.Rand) string {
	names := []string{"a", "b", "A", "0", "_", "aa", "Z9", "", "#", "a b", strings.Repeat("n", 32), strings.Repeat("n", 33)}
	return names[r.Intn(len(names))]
}

// chanceCall answers a call of a desk on which there were some runs.
func chanceCall(r *rand.Rand, runs int) call {
	run := r.Intn(runs+3) - 1
	switch r.Intn(14) {
	case 0:
		m := chanceTable(r)
		text, _ := table.Text(m)
		if r.Intn(2) == 0 {
			text = spoiled(r, text)
		}
		return tableCall(text)
	case 1, 2, 3:
		text := chanceText(r)
		if r.Intn(4) == 0 {
			text = spoiled(r, text)
		}
		return putCall(chanceName(r), text)
	case 4:
		return dropCall(chanceName(r))
	case 5:
		return closeCall(run)
	case 6:
		return namesCall()
	case 7, 8, 9:
		return openCall(chanceName(r), chanceState(r), r.Intn(2) == 0)
	}
	return goCall(run, []int{r.Intn(10) - 2, r.Intn(100), math.MinInt}[r.Intn(5)%3])
}

// several answers calls, one behind the other.
func several(r *rand.Rand, count int) (l []call) {
	for n := range count {
		l = append(l, chanceCall(r, n/5))
	}
	return l
}

// wantCalls says that a desk tells of calls what the chapter tells.
func wantCalls(t testing.TB, d *Desk, x *second, l []call) (refused int) {
	t.Helper()
	for n, c := range l {
		got, is := c(d)
		want, was := c(x)
		if got != want || is != was {
			t.Fatalf("call %d of %d: %s, want %s", n, len(l), got, want)
		}
		if was {
			refused++
		}
	}
	return refused
}

func TestManyCalls(t *testing.T) {
	r := rand.New(rand.NewSource(27))
	calls, refused := 0, 0
	for range 150 {
		l := several(r, 20+r.Intn(150))
		calls, refused = calls+len(l), refused+wantCalls(t, New(), newSecond(), l)
	}
	if refused < calls/10 || refused > calls*3/4 {
		t.Errorf("%d of %d were refused", refused, calls)
	}
}

// The same near the bound of what is held.
func TestManyCallsOfAFullDesk(t *testing.T) {
	r := rand.New(rand.NewSource(256))
	full := map[string]int{}
	for range 20 {
		d, x := New(), newSecond()
		var l []call
		for n := range api.MaxHeld - r.Intn(4) {
			if name := fmt.Sprint("p", n); n < 2 || r.Intn(2) == 0 {
				l = append(l, putCall(name, five()))
			} else {
				l = append(l, openCall(fmt.Sprint("p", r.Intn(2)), api.State{}, r.Intn(2) == 0))
			}
		}
		wantCalls(t, d, x, l)
		for range 200 {
			c := chanceCall(r, 140)
			got, _ := c(d)
			if want, _ := c(x); got != want {
				t.Fatalf("%s, want %s", got, want)
			}
			full[got]++
		}
	}
	if full["fault 0 4 \"\""] < 20 || full["0 4"] < 20 {
		t.Errorf("full: %d, %d", full["fault 0 4 \"\""], full["0 4"])
	}
}

// P27.7 (P13): of two desks one is asked what is refused besides; they tell the same.
func TestWhatIsRefusedChangesNothing(t *testing.T) {
	r := rand.New(rand.NewSource(13))
	for range 150 {
		with, without := New(), New()
		for _, c := range several(r, 150) {
			got, refused := c(with)
			if refused {
				continue
			}
			if want, _ := c(without); got != want {
				t.Fatalf("%s, want %s", got, want)
			}
		}
	}
}

// R2: desks that are asked the same tell the same, each by itself.
func TestDesksKnowNothingOfOneAnother(t *testing.T) {
	r := rand.New(rand.NewSource(2))
	for range 30 {
		one, other := several(r, 120), several(r, 120)
		d, e, f, g := New(), New(), New(), New()
		for n := range one {
			a, _ := one[n](d)
			b, _ := other[n](e)
			c, _ := one[n](f)
			if a != c {
				t.Fatalf("%s, want %s", c, a)
			}
			if c, _ := other[n](g); c != b {
				t.Fatalf("%s, want %s", c, b)
			}
		}
	}
}

// most is how many steps a run is asked for at most.
const most = 3000

// P27.8 (P1): of one program and state the run of either machine, asked until it ends, ends alike.
func TestEitherMachineEndsAlike(t *testing.T) {
	r := rand.New(rand.NewSource(1))
	ends := map[api.Errno]int{}
	for range 500 {
		d, m := New(), chanceTable(r)
		for class := range api.Classes {
			m.Units[class] = max(m.Units[class], 1)
		}
		if r.Intn(4) > 0 {
			set(t, d, m)
		} else {
			m = first()
		}
		text, s := chanceText(r), chanceState(r)
		s.Regs, s.Mem = s.Regs[:min(len(s.Regs), 32)], s.Mem[:min(len(s.Mem), 256)]
		put(t, d, "p", text)
		one, wide := open(t, d, "p", s, false), open(t, d, "p", s, true)
		a := goOn(t, d, one, most)
		b := goOn(t, d, wide, 0)
		// P3: within as many cycles as there are bundles, for each step.
		for left := most * bundlesOf(t, text, m); left > 0 && b.E == api.ErrFuel; {
			n := 1 + r.Intn(2*most)
			b, left = goOn(t, d, wide, n), left-n
			if a.E != api.ErrFuel && !begins(a.Prints, b.Prints) {
				t.Fatalf("%s, %v: prints %v, %v", text, m, a.Prints, b.Prints)
			}
			if a.E == api.ErrFuel && len(b.Prints) > len(a.Prints) {
				break
			}
		}
		ends[a.E]++
		if a.E == api.ErrFuel {
			if !begins(a.Prints, b.Prints) && !begins(b.Prints, a.Prints) {
				t.Fatalf("%s, %v: prints %v, %v", text, m, a.Prints, b.Prints)
			}
			continue
		}
		if a.E != b.E || a.Value != b.Value || !slices.Equal(a.Prints, b.Prints) || a.E == api.OK && !slices.Equal(a.Mem, b.Mem) {
			t.Fatalf("%s, %v: %s, %s", text, m, ofOutcome(a), ofOutcome(b))
		}
	}
	if ends[api.OK] < 200 || ends[api.ErrDivide] < 20 || ends[api.ErrFuel] < 10 {
		t.Errorf("by ends %v", ends)
	}
}

func bundlesOf(t testing.TB, text string, m api.Table) int {
	t.Helper()
	p, err := parse.Program(text)
	if err != nil {
		t.Fatal(err)
	}
	k, e := pack.Pack(p, m)
	if e != api.OK {
		t.Fatal(e)
	}
	return len(k.Tags)
}

// begins answers whether a list begins with another one.
func begins(l, with []int64) bool { return len(with) <= len(l) && slices.Equal(l[:len(with)], with) }

// withRoom answers a list with room behind its end.
func withRoom(l []int64) []int64 { return append(slices.Clone(l), 99, 99)[:len(l)] }

// whole answers a list with all that stands in the room behind its end.
func whole[T any](l []T) []T { return l[:cap(l)] }

// R3: a state that is handed in is neither changed nor kept, and no answer is shared with another one or with the desk.
func TestArgumentsAndAnswersShareNothing(t *testing.T) {
	r := rand.New(rand.NewSource(3))
	for range 150 {
		d, x := New(), newSecond()
		wantCalls(t, d, x, []call{putCall("p", chanceText(r))})
		for run := 1; run < 7; run++ {
			s := chanceState(r)
			s = api.State{Regs: withRoom(s.Regs[:min(len(s.Regs), 32)]), Mem: withRoom(s.Mem[:min(len(s.Mem), 256)])}
			registers, cells := slices.Clone(whole(s.Regs)), slices.Clone(whole(s.Mem))
			wantCalls(t, d, x, []call{openCall("p", s, run%2 == 0)})
			o := goOn(t, d, run, 3)
			if want, _ := x.Go(run, 3); !sameOutcome(o, want) {
				t.Fatalf("%v, want %v", o, want)
			}
			if !slices.Equal(whole(s.Regs), registers) || !slices.Equal(whole(s.Mem), cells) {
				t.Fatal("a state was changed")
			}
			clear(whole(s.Regs))
			clear(whole(s.Mem))
			for _, l := range [][]int64{o.Prints, o.Mem} {
				for n := range whole(l) {
					whole(l)[n] = 77
				}
			}
			a, b := goOn(t, d, run, 500), goOn(t, d, run, 0)
			want, _ := x.Go(run, 500)
			for _, l := range [][]int64{a.Prints, a.Mem} {
				clear(whole(l))
			}
			for _, got := range []api.Outcome{b, goOn(t, d, run, 0)} {
				if !sameOutcome(got, want) {
					t.Fatalf("%v, want %v", got, want)
				}
			}
		}
	}
}

// What is left of a desk's errors: each is the caller's own, a fault of which errors.Is finds the number.
func TestFaultsAreTheCallersOwn(t *testing.T) {
	d := holding(t, 256, 0)
	for _, ask := range []func() error{
		func() error { return d.Put("#", five()) },
		func() error { return d.Put("new", five()) },
		func() error { return d.Put("p0", "block 1:") },
		func() error { return d.Table("alu 9") },
		func() error { return (*Desk)(nil).Table("") },
		func() error { return (*Desk)(nil).Put("p", "") },
	} {
		var one, other *api.Fault
		if !errors.As(ask(), &one) || !errors.As(ask(), &other) {
			t.Fatal("no fault")
		}
		want := *one
		*one = api.Fault{Code: api.OK, At: 99, Word: "other"}
		if *other != want || one == other {
			t.Errorf("%v, want %v", *other, want)
		}
		wantFault(t, ask(), want)
	}
}

// FuzzDesk makes calls of bytes and holds what they tell against the chapter.
func FuzzDesk(f *testing.F) {
	f.Add("p", five(), "alu 0 lat 1 busy 1\nmul 1 lat 1 busy 1\nmem 1 lat 1 busy 1\nctl 1 lat 1 busy 1\ndelay 0\n", 1, 9, int64(1))
	f.Add("", "", "", 0, -1, int64(2))
	r := rand.New(rand.NewSource(2727))
	for n := range 20 {
		text, _ := table.Text(chanceTable(r))
		f.Add(chanceName(r), chanceText(r), text, r.Intn(9)-1, r.Intn(100), int64(n))
	}
	f.Fuzz(func(t *testing.T, name, text, lines string, run, n int, seed int64) {
		r := rand.New(rand.NewSource(seed))
		n %= most
		own := []call{putCall(name, text), tableCall(lines), openCall(name, chanceState(r), true), openCall(name, chanceState(r), false), goCall(run, n), goCall(1, n), goCall(2, n), namesCall(), closeCall(run), dropCall(name)}
		var l []call
		for range 30 {
			l = append(append(l, chanceCall(r, 6)), own[r.Intn(len(own))])
		}
		wantCalls(t, New(), newSecond(), append(own[:7:7], l...))
	})
}
