package desk

import (
	"errors"
	"fmt"
	"slices"
	"strings"
	"testing"

	"hayloft/api"
	"hayloft/parse"
	"hayloft/table"
)

// textOf answers the text of blocks, told with commas between their lines, from block 0 on.
func textOf(blocks ...string) string {
	var text strings.Builder
	for n, lines := range blocks {
		fmt.Fprintf(&text, "block %d:\n%s\n", n, strings.ReplaceAll(lines, ", ", "\n"))
	}
	return text.String()
}

// five is the chapter's program, which halts with 5.
func five() string { return textOf("const r1 5, halt r1") }

// first is the table that a desk has at first.
func first() api.Table {
	return api.Table{Units: [api.Classes]int{2, 1, 1, 1}, Lat: [api.Classes]int{1, 3, 2, 1}, Busy: [api.Classes]int{1, 1, 1, 1}, Delay: 1}
}

// ones is a table of one each, without a delay.
func ones() api.Table {
	return api.Table{Units: [api.Classes]int{1, 1, 1, 1}, Lat: [api.Classes]int{1, 1, 1, 1}, Busy: [api.Classes]int{1, 1, 1, 1}}
}

// lines answers a table's text.
func lines(t testing.TB, m api.Table) string {
	t.Helper()
	text, e := table.Text(m)
	if e != api.OK {
		t.Fatal(m, e)
	}
	return text
}

func regs(l ...int64) api.State { return api.State{Regs: l} }

// wantFault says that an error is a fault of that kind: of that code, place and word.
func wantFault(t testing.TB, err error, want api.Fault) {
	t.Helper()
	if f, is := err.(*api.Fault); !is || f == nil || *f != want {
		t.Errorf("%#v, want %#v", err, want)
	}
}

// wantPlain says that an error is a fault at 0 without a word.
func wantPlain(t testing.TB, err error, want api.Errno) {
	t.Helper()
	wantFault(t, err, api.Fault{Code: want})
	if !errors.Is(err, want) {
		t.Errorf("%v is not %v", err, want)
	}
}

// wantErrno says what a call answered that answers a number of an error alone.
func wantErrno(t testing.TB, got, want api.Errno) {
	t.Helper()
	if got != want {
		t.Errorf("%v, want %v", got, want)
	}
}

func wantNames(t testing.TB, d *Desk, want ...string) {
	t.Helper()
	if got := d.Names(); !slices.Equal(got, want) {
		t.Errorf("names %q, want %q", got, want)
	}
}

func set(t testing.TB, d *Desk, m api.Table) {
	t.Helper()
	if err := d.Table(lines(t, m)); err != nil {
		t.Fatal(m, err)
	}
}

func put(t testing.TB, d *Desk, name, text string) {
	t.Helper()
	if err := d.Put(name, text); err != nil {
		t.Fatal(name, err)
	}
}

// open answers a run's number.
func open(t testing.TB, d *Desk, name string, s api.State, packed bool) int {
	t.Helper()
	run, e := d.Open(name, s, packed)
	if e != api.OK {
		t.Fatal(name, packed, e)
	}
	return run
}

// goOn answers what has come of a run.
func goOn(t testing.TB, d *Desk, run, n int) api.Outcome {
	t.Helper()
	o, e := d.Go(run, n)
	if e != api.OK {
		t.Fatal(run, n, e)
	}
	return o
}

// wantOpen says that the desk begins a run of that number, of a state without anything.
func wantOpen(t testing.TB, d *Desk, name string, packed bool, want int) {
	t.Helper()
	wantOpenOf(t, d, name, api.State{}, packed, want)
}

func wantOpenOf(t testing.TB, d *Desk, name string, s api.State, packed bool, want int) {
	t.Helper()
	if run := open(t, d, name, s, packed); run != want {
		t.Errorf("run %d, want %d", run, want)
	}
}

// wantNoRun says that the desk refuses to begin a run.
func wantNoRun(t testing.TB, d *Desk, name string, s api.State, packed bool, want api.Errno) {
	t.Helper()
	if run, e := d.Open(name, s, packed); run != 0 || e != want {
		t.Errorf("open %q, packed %v, %d registers, %d cells: %d, %v, want %v", name, packed, len(s.Regs), len(s.Mem), run, e, want)
	}
}

// wantNoGo says that the desk has no such run to go on with.
func wantNoGo(t testing.TB, d *Desk, run, n int, want api.Errno) {
	t.Helper()
	if o, e := d.Go(run, n); e != want || !sameOutcome(o, api.Outcome{}) || o.Prints != nil || o.Mem != nil {
		t.Errorf("go %d: %v, %v, want %v", run, o, e, want)
	}
}

// sameOutcome answers whether two outcomes are one, be an empty list nil or not.
func sameOutcome(a, b api.Outcome) bool {
	return a.E == b.E && a.Value == b.Value && a.Steps == b.Steps && slices.Equal(a.Prints, b.Prints) && slices.Equal(a.Mem, b.Mem)
}

// wantEnd says how a run stands, but for steps and what its cells hold.
func wantEnd(t testing.TB, o api.Outcome, end api.Errno, value int64, prints ...int64) {
	t.Helper()
	cells := 0
	if end == api.OK {
		cells = api.Cells
	}
	if o.E != end || o.Value != value || !slices.Equal(o.Prints, prints) || len(o.Mem) != cells {
		t.Errorf("%v, value %d, prints %v, %d cells, want %v, %d, %v", o.E, o.Value, o.Prints, len(o.Mem), end, value, prints)
	}
}

func TestChapterExamples(t *testing.T) {
	d := New()
	put(t, d, "p", five())
	wantPlain(t, d.Put("", five()), api.ErrArg)
	wantNames(t, d, "p")
	wantOpen(t, d, "p", false, 1)
	wantEnd(t, goOn(t, d, 1, 9), api.OK, 5)
	wantOpen(t, d, "p", true, 2)
	wantEnd(t, goOn(t, d, 2, 9), api.OK, 5)
	if err := d.Table("alu 0 lat 1 busy 1\nmul 1 lat 1 busy 1\nmem 1 lat 1 busy 1\nctl 1 lat 1 busy 1\ndelay 0\n"); err != nil {
		t.Error(err)
	}
	wantNoRun(t, d, "p", api.State{}, true, api.ErrNoUnit)
	wantOpen(t, d, "p", false, 3)
	wantErrno(t, d.Close(1), api.OK)
	wantNoGo(t, d, 1, 1, api.ErrNone)
	wantErrno(t, d.Drop("q"), api.ErrNone)
}

func TestNew(t *testing.T) {
	d := New()
	wantNames(t, d)
	wantErrno(t, d.Drop("p"), api.ErrNone)
	for _, run := range []int{-1, 0, 1} {
		wantErrno(t, d.Close(run), api.ErrNone)
		wantNoGo(t, d, run, 1, api.ErrNone)
	}
	for _, packed := range []bool{false, true} {
		wantNoRun(t, d, "p", api.State{}, packed, api.ErrNone)
	}
	// Of two desks each has its own.
	other := New()
	put(t, d, "p", five())
	wantOpen(t, d, "p", true, 1)
	wantNames(t, other)
	wantErrno(t, other.Drop("p"), api.ErrNone)
	wantErrno(t, other.Close(1), api.ErrNone)
	put(t, other, "q", five())
	wantOpen(t, other, "q", true, 1)
	wantErrno(t, other.Close(1), api.OK)
	wantEnd(t, goOn(t, d, 1, 9), api.OK, 5)
}

// What is no desk: ErrNil ahead of all else, none and zeros.
func TestNoDesk(t *testing.T) {
	for _, d := range []*Desk{nil, {}} {
		for _, text := range []string{"", "x", lines(t, first()), five(), strings.Repeat("x", api.MaxText+1)} {
			wantPlain(t, d.Table(text), api.ErrNil)
			for _, name := range []string{"", "p", "#", strings.Repeat("p", 33)} {
				wantPlain(t, d.Put(name, text), api.ErrNil)
				wantErrno(t, d.Drop(name), api.ErrNil)
				for _, s := range []api.State{{}, regs(make([]int64, 33)...), {Mem: make([]int64, 257)}} {
					wantNoRun(t, d, name, s, false, api.ErrNil)
					wantNoRun(t, d, name, s, true, api.ErrNil)
				}
			}
		}
		for _, run := range numbersOfNoRun() {
			wantErrno(t, d.Close(run), api.ErrNil)
			for _, n := range []int{-1, 0, 1, api.MaxSteps + 1} {
				wantNoGo(t, d, run, n, api.ErrNil)
			}
		}
		if l := d.Names(); l != nil {
			t.Error(l)
		}
	}
}

// P27.1 and P27.2: the table that a desk has at first, and those that it is given.
func TestTheTableThatHolds(t *testing.T) {
	d := New()
	if d.table != first() {
		t.Error(d.table)
	}
	wantTable(t, d, first())
	for _, m := range otherTables(first()) {
		set(t, d, m)
		wantTable(t, d, m)
	}
}

// Texts of one table, in other orders, with blanks more and remarks; and one of as many bytes as there can be.
func TestTablesAsTexts(t *testing.T) {
	for _, text := range []string{
		"delay 4\nctl 2 lat 2 busy 1\n\nmem 3 lat 8 busy 2\nmul 8 lat 4 busy 4\nalu 1 lat 1 busy 1",
		"\tdelay  4 # a remark\nctl 2 lat 2 busy 1#\n# none\nmem 3\tlat 8 busy 2\nmul 8 lat 4 busy 4\n   alu 1 lat 1 busy 1 \n\n",
	} {
		d := New()
		if err := d.Table(text); err != nil {
			t.Fatal(err)
		}
		wantTable(t, d, api.Table{Units: [api.Classes]int{1, 8, 3, 2}, Lat: [api.Classes]int{1, 4, 8, 2}, Busy: [api.Classes]int{1, 4, 2, 1}, Delay: 4})
	}
	m := ones()
	long := lines(t, m) + "#"
	long += strings.Repeat("x", api.MaxText-len(long))
	d := New()
	if err := d.Table(long); err != nil || len(long) != api.MaxText {
		t.Fatal(err, len(long))
	}
	wantTable(t, d, m)
	set(t, d, first())
	wantPlain(t, d.Table(long+"x"), api.ErrLong)
	wantTable(t, d, first())
}

// noTables are texts that are none of a table, each with its fault.
func noTables() map[string]api.Fault {
	four := "alu 1 lat 1 busy 1\nmul 1 lat 1 busy 1\nmem 1 lat 1 busy 1\nctl 1 lat 1 busy 1\n" // 76 bytes
	return map[string]api.Fault{
		"":                                      {Code: api.ErrSyntax},
		"fpu 1":                                 {Code: api.ErrSyntax, Word: "fpu"},
		"Alu 1":                                 {Code: api.ErrSyntax, Word: "Alu"},
		"\n \xff\x00":                           {Code: api.ErrSyntax, At: 2, Word: "\xff\x00"},
		"alu 9":                                 {Code: api.ErrTable, At: 4, Word: "9"},
		"alu 1 lat 0":                           {Code: api.ErrTable, At: 10, Word: "0"},
		"alu 1 lat 9":                           {Code: api.ErrTable, At: 10, Word: "9"},
		"alu 1 lat 1 busy 0":                    {Code: api.ErrTable, At: 17, Word: "0"},
		"alu 1 lat 1 busy 5":                    {Code: api.ErrTable, At: 17, Word: "5"},
		"delay 5":                               {Code: api.ErrTable, At: 6, Word: "5"},
		"delay 99999999999999999999":            {Code: api.ErrTable, At: 6, Word: "99999999999999999999"},
		"delay -1":                              {Code: api.ErrSyntax, At: 6, Word: "-1"},
		"delay 01":                              {Code: api.ErrSyntax, At: 6, Word: "01"},
		"delay 1 2":                             {Code: api.ErrSyntax, At: 8, Word: "2"},
		"alu 2 lat":                             {Code: api.ErrSyntax, At: 9},
		"alu 2 lat # 3":                         {Code: api.ErrSyntax, At: 10},
		"alu 2 busy":                            {Code: api.ErrSyntax, At: 6, Word: "busy"},
		"alu 2 lat 1 busy 1\nalu":               {Code: api.ErrSyntax, At: 19, Word: "alu"},
		four:                                    {Code: api.ErrSyntax, At: 76},
		four + "delay":                          {Code: api.ErrSyntax, At: 81},
		four + "delay 1\ndelay 1":               {Code: api.ErrSyntax, At: 84, Word: "delay"},
		strings.Repeat("#", api.MaxText):        {Code: api.ErrSyntax, At: api.MaxText},
		strings.Repeat("#", api.MaxText+1):      {Code: api.ErrLong},
		four + strings.Repeat(" ", api.MaxText): {Code: api.ErrLong},
	}
}

func TestTablesThatAreRefused(t *testing.T) {
	d := New()
	for _, m := range []api.Table{first(), ones()} {
		set(t, d, m)
		for text, want := range noTables() {
			wantFault(t, d.Table(text), want)
			_, err := table.Parse(text)
			wantFault(t, err, want)
			if d.table != m {
				t.Fatalf("%q: the table is %v", text, d.table)
			}
		}
		wantTable(t, d, m)
	}
}

// noPrograms are texts that are none of a program, each with its fault.
func noPrograms() map[string]api.Fault {
	return map[string]api.Fault{
		"":                                       {Code: api.ErrSyntax},
		"x":                                      {Code: api.ErrSyntax, Word: "x"},
		" # nothing\n\n":                         {Code: api.ErrSyntax, At: 12},
		"block":                                  {Code: api.ErrSyntax, At: 5},
		"block 1:":                               {Code: api.ErrSyntax, At: 6, Word: "1:"},
		"block 0 :":                              {Code: api.ErrSyntax, At: 6, Word: "0"},
		"block 0:":                               {Code: api.ErrSyntax, At: 8},
		"block 0:\nadd r1 r2":                    {Code: api.ErrSyntax, At: 18},
		"block 0:\nadd r1 r2\nhalt r1":           {Code: api.ErrSyntax, At: 18},
		"block 0:\nhalt r1 r2":                   {Code: api.ErrSyntax, At: 17, Word: "r2"},
		"block 0:\nhalt r32":                     {Code: api.ErrSyntax, At: 14, Word: "r32"},
		"block 0:\nhalt r01":                     {Code: api.ErrSyntax, At: 14, Word: "r01"},
		"block 0:\nnop\nhalt r1":                 {Code: api.ErrSyntax, At: 9, Word: "nop"},
		"block 0:\n}":                            {Code: api.ErrSyntax, At: 9, Word: "}"},
		"block 0:\nconst r1 2147483648\nhalt r1": {Code: api.ErrSyntax, At: 18, Word: "2147483648"},
		"block 0:\nloop r1 {\n":                  {Code: api.ErrSyntax, At: 19},
		"block 0:\nloop r1 {\n}":                 {Code: api.ErrSyntax, At: 20},
		"block 0:\nloop r1 {\n}\nhalt r1":        {Code: api.ErrSyntax, At: 21, Word: "halt"},
		"block 0:\nhalt r1\nblock 0:":            {Code: api.ErrSyntax, At: 23, Word: "0:"},
		"block 0:\nprint r1\n\x00":               {Code: api.ErrSyntax, At: 18, Word: "\x00"},
		"block 0:\njump 7":                       {Code: api.ErrProgram},
		"block 0:\njump -1":                      {Code: api.ErrProgram},
		"block 0:\nbranch r1 0 7":                {Code: api.ErrProgram},
		"block 0:\nloop r1 {\n}\njump 9":         {Code: api.ErrProgram},
		textOf(slices.Repeat([]string{"halt r0"}, api.MaxBlocks+1)...):      {Code: api.ErrLong},
		"block 0:\n" + strings.Repeat("print r0\n", api.MaxOps) + "halt r0": {Code: api.ErrLong},
		strings.Repeat(" ", api.MaxText):                                    {Code: api.ErrSyntax, At: api.MaxText},
		strings.Repeat(" ", api.MaxText+1):                                  {Code: api.ErrLong},
		five() + strings.Repeat("#", api.MaxText):                           {Code: api.ErrLong},
	}
}

func TestTextsThatAreRefused(t *testing.T) {
	d := New()
	put(t, d, "old", five())
	for text, want := range noPrograms() {
		_, err := parse.Program(text)
		wantFault(t, err, want)
		for _, name := range []string{"new", "old", "_", strings.Repeat("Z", 32)} {
			wantFault(t, d.Put(name, text), want)
			wantNames(t, d, "old")
		}
		// The old program stays, and a name that no program was given is none.
		run := open(t, d, "old", api.State{}, false)
		wantEnd(t, goOn(t, d, run, 9), api.OK, 5)
		wantErrno(t, d.Close(run), api.OK)
		wantNoRun(t, d, "new", api.State{}, false, api.ErrNone)
		wantErrno(t, d.Drop("new"), api.ErrNone)
	}
}

// The longest texts that are taken: of bytes, of blocks, of operations.
func TestTheLongestTexts(t *testing.T) {
	d := New()
	for n, text := range []string{
		five() + strings.Repeat("#", api.MaxText-len(five())),
		textOf(slices.Repeat([]string{"halt r0"}, api.MaxBlocks)...),
		"block 0:\n" + strings.Repeat("print r0\n", api.MaxOps-1) + "halt r0",
	} {
		put(t, d, fmt.Sprint(n), text)
		for _, packed := range []bool{false, true} {
			if o := goOn(t, d, open(t, d, fmt.Sprint(n), api.State{}, packed), api.MaxSteps); o.E != api.OK {
				t.Errorf("text %d, packed %v: %v", n, packed, o.E)
			}
		}
	}
	if len(five()+strings.Repeat("#", api.MaxText-len(five()))) != api.MaxText {
		t.Error("of another length")
	}
}
