package desk

import (
	"fmt"
	"math/rand"
	"slices"
	"strings"
	"testing"

	"hayloft/api"
)

// ofNames are the bytes of which names are, rising.
const ofNames = "0123456789ABCDEFGHIJKLMNOPQRSTUVWXYZ_abcdefghijklmnopqrstuvwxyz"

// wantName says whether a text is let in as a name; the desk is as it was behind it.
func wantName(t testing.TB, d *Desk, name string, is bool) {
	t.Helper()
	before := d.Names()
	if !is {
		for _, text := range []string{five(), "", "x", strings.Repeat("x", api.MaxText+1)} {
			wantPlain(t, d.Put(name, text), api.ErrArg)
		}
		wantNoRun(t, d, name, api.State{}, false, api.ErrNone)
		wantErrno(t, d.Drop(name), api.ErrNone)
		wantNames(t, d, before...)
		return
	}
	put(t, d, name, five())
	if l := d.Names(); len(l) != len(before)+1 || !slices.Contains(l, name) {
		t.Errorf("%q is put: %q", name, l)
	}
	run := open(t, d, name, api.State{}, true)
	wantEnd(t, goOn(t, d, run, 9), api.OK, 5)
	wantErrno(t, d.Close(run), api.OK)
	wantErrno(t, d.Drop(name), api.OK)
	wantErrno(t, d.Drop(name), api.ErrNone)
	wantNames(t, d, before...)
}

func TestEveryByteOfAName(t *testing.T) {
	d := New()
	put(t, d, "held", five())
	for n := range 256 {
		b := string([]byte{byte(n)})
		is := strings.Contains(ofNames, b)
		for _, name := range []string{b, "a" + b, b + "Z", "0" + b + "_", strings.Repeat("x", 31) + b, b + strings.Repeat("9", 31), strings.Repeat(b, 32)} {
			wantName(t, d, name, is)
		}
	}
}

func TestHowLongANameIs(t *testing.T) {
	d := New()
	for _, bytes := range []int{0, 1, 2, 31, 32, 33, 34, 64, 1 << 16, 1<<16 + 1, 1 << 20} {
		for _, b := range []string{"a", "Z", "_", "0"} {
			wantName(t, d, strings.Repeat(b, bytes), bytes >= 1 && bytes <= 32)
		}
	}
	// Bytes count, not runes; and letters of other alphabets are none.
	for _, name := range []string{"é", "ä", "aé", strings.Repeat("é", 16), "Ω", "٣", "a\u0301", "\u212a", "ſ", "\xff", "a b", "a-b", "a.b", "a\n", "-1", " "} {
		wantName(t, d, name, false)
	}
}

// Names: rising byte by byte, whatever the order in which they came.
func TestNames(t *testing.T) {
	d := New()
	if l := d.Names(); len(l) != 0 {
		t.Error(l)
	}
	put(t, d, "p", five())
	wantNames(t, d, "p")
	rise := []string{"0", "00", "01", "1", "10", "2", "9", "A", "A0", "AA", "A_", "Aa", "B", "Z", "ZZ", "_", "_0", "_Z", "__", "_a", "a", "a0", "aA", "aZ", "a_", "aa", "aaa", "ab", "b", "p", "z", "zz", strings.Repeat("z", 32)}
	r := rand.New(rand.NewSource(274))
	for turn := range len(rise) {
		d, held := New(), []string{}
		for n, at := range r.Perm(len(rise)) {
			put(t, d, rise[at], five())
			held = append(held, rise[at])
			if n%8 == 0 {
				wantNames(t, d, sorted(held)...)
			}
		}
		wantNames(t, d, rise...)
		for n := turn; n < len(rise); n += 2 {
			wantErrno(t, d.Drop(rise[n]), api.OK)
			held = slices.DeleteFunc(held, func(name string) bool { return name == rise[n] })
			wantNames(t, d, sorted(held)...)
		}
	}
}

// sorted answers names by their bytes, each by how many are below it.
func sorted(names []string) []string {
	l := make([]string, len(names))
	for _, name := range names {
		below := 0
		for _, other := range names {
			if other < name {
				below++
			}
		}
		l[below] = name
	}
	return l
}

// What Names answers is the caller's own.
func TestNamesShareNothing(t *testing.T) {
	d := New()
	for _, name := range []string{"b", "c", "a"} {
		put(t, d, name, five())
	}
	l, other := d.Names(), d.Names()
	for n := range l[:cap(l)] {
		l[:cap(l)][n] = "#"
	}
	if !slices.Equal(other, []string{"a", "b", "c"}) {
		t.Error(other)
	}
	wantNames(t, d, "a", "b", "c")
	put(t, d, "0", five())
	wantErrno(t, d.Drop("b"), api.OK)
	if !slices.Equal(other, []string{"a", "b", "c"}) {
		t.Error(other)
	}
	wantNames(t, d, "0", "a", "c")
}

// Put over a name that is held takes its place; Drop and Put again are a new one.
func TestPutOver(t *testing.T) {
	d := New()
	halts := func(name string, want int64) {
		t.Helper()
		for _, packed := range []bool{false, true} {
			run := open(t, d, name, api.State{}, packed)
			wantEnd(t, goOn(t, d, run, 9), api.OK, want)
			wantErrno(t, d.Close(run), api.OK)
		}
	}
	for n := range 9 {
		put(t, d, "p", textOf(fmt.Sprintf("const r1 %d, halt r1", n)))
		put(t, d, "P", textOf(fmt.Sprintf("const r1 %d, halt r1", -n)))
		wantNames(t, d, "P", "p")
		halts("p", int64(n))
		halts("P", int64(-n))
		wantFault(t, d.Put("p", "block 7:"), api.Fault{Code: api.ErrSyntax, At: 6, Word: "7:"})
		wantNames(t, d, "P", "p")
		halts("p", int64(n))
	}
	wantErrno(t, d.Drop("p"), api.OK)
	wantErrno(t, d.Drop("p"), api.ErrNone)
	wantNoRun(t, d, "p", api.State{}, false, api.ErrNone)
	wantNames(t, d, "P")
	halts("P", -8)
	put(t, d, "p", five())
	halts("p", 5)
}

func TestDrop(t *testing.T) {
	d := New()
	for _, name := range []string{"", "p", "#", strings.Repeat("p", 33)} {
		wantErrno(t, d.Drop(name), api.ErrNone)
	}
	put(t, d, "p", five())
	for _, name := range []string{"", "P", "p ", "pp", "#", "\x00", strings.Repeat("p", 33)} {
		wantErrno(t, d.Drop(name), api.ErrNone)
		wantNames(t, d, "p")
	}
	wantErrno(t, d.Drop("p"), api.OK)
	wantNames(t, d)
	wantErrno(t, d.Drop("p"), api.ErrNone)
}

// holding answers a desk with as many programs, p0 and so on, and runs, from 1 on; there is no run without a program.
func holding(t testing.TB, programs, runs int) *Desk {
	t.Helper()
	d := New()
	for n := range programs {
		put(t, d, fmt.Sprint("p", n), five())
	}
	for n := range runs {
		wantOpen(t, d, "p0", n%3 == 0, n+1)
	}
	return d
}

// A desk that holds all that it can: no new name and no run, but the names that are there.
func wantFull(t testing.TB, d *Desk) {
	t.Helper()
	names := d.Names()
	for _, text := range []string{five(), "", "x", strings.Repeat("x", api.MaxText+1)} {
		wantPlain(t, d.Put("new", text), api.ErrFull)
		wantPlain(t, d.Put("#", text), api.ErrArg)
	}
	for _, packed := range []bool{false, true} {
		for _, s := range []api.State{{}, regs(make([]int64, 33)...), {Mem: make([]int64, 257)}} {
			wantNoRun(t, d, "p0", s, packed, api.ErrFull)
			wantNoRun(t, d, "new", s, packed, api.ErrNone)
		}
	}
	put(t, d, "p0", textOf("times r1 r1 r1, halt r1"))
	wantFault(t, d.Put("p0", "x"), api.Fault{Code: api.ErrSyntax, Word: "x"})
	wantPlain(t, d.Put("p0", "block 0:\njump 1"), api.ErrProgram)
	wantNames(t, d, names...)
	// ErrFull comes ahead of what can't be packed too.
	m := first()
	m.Units[api.Mul] = 0
	set(t, d, m)
	wantNoRun(t, d, "p0", api.State{}, true, api.ErrFull)
	set(t, d, first())
	put(t, d, "p0", five())
}

func TestHowManyAreHeld(t *testing.T) {
	for _, programs := range []int{1, 2, 100, 128, 255, 256} {
		runs := api.MaxHeld - programs
		d := holding(t, programs, runs)
		wantFull(t, d)
		// What is dropped makes room, for either, and as often.
		for n := range 3 {
			if programs > 1 {
				wantErrno(t, d.Drop("p1"), api.OK)
				put(t, d, "p1", five())
				wantFull(t, d)
				wantErrno(t, d.Drop("p1"), api.OK)
				wantOpen(t, d, "p0", n%2 == 0, runs+1)
				wantFull(t, d)
				wantErrno(t, d.Close(runs+1), api.OK)
				runs++
				put(t, d, "p1", five())
				wantFull(t, d)
			}
		}
	}
}

func TestWhatIsClosedMakesRoom(t *testing.T) {
	d := holding(t, 1, api.MaxHeld-1)
	wantFull(t, d)
	next := api.MaxHeld
	for _, run := range []int{1, 128, 255} {
		// A run that has ended is held till it is closed.
		wantEnd(t, goOn(t, d, run, 50), api.OK, 5)
		wantFull(t, d)
		wantErrno(t, d.Close(run), api.OK)
		wantErrno(t, d.Close(run), api.ErrNone)
		wantOpen(t, d, "p0", run == 1, next)
		next++
		wantFull(t, d)
	}
	wantErrno(t, d.Close(2), api.OK)
	put(t, d, "new", five())
	wantErrno(t, d.Close(3), api.OK)
	put(t, d, "newer", five())
	wantNames(t, d, "new", "newer", "p0")
	wantNoRun(t, d, "new", api.State{}, false, api.ErrFull)
	wantErrno(t, d.Drop("new"), api.OK)
	wantOpen(t, d, "newer", true, next)
	// Runs of programs that are held no more count on.
	wantErrno(t, d.Drop("newer"), api.OK)
	wantErrno(t, d.Drop("p0"), api.OK)
	for n := range 2 {
		put(t, d, fmt.Sprint("other", n), five())
	}
	wantPlain(t, d.Put("one", five()), api.ErrFull)
}

// One below the bound there is room for one, of either kind.
func TestRoomForOne(t *testing.T) {
	for _, programs := range []int{1, 2, 100, 254, 255} {
		runs := api.MaxHeld - 1 - programs
		d := holding(t, programs, runs)
		// What is refused takes no room.
		wantPlain(t, d.Put("#", five()), api.ErrArg)
		wantFault(t, d.Put("new", "x"), api.Fault{Code: api.ErrSyntax, Word: "x"})
		wantNoRun(t, d, "p0", regs(make([]int64, 33)...), false, api.ErrArg)
		wantNoRun(t, d, "p0", regs(make([]int64, 33)...), true, api.ErrArg)
		put(t, d, "p0", five())
		put(t, d, "last", five())
		wantFull(t, d)
		d = holding(t, programs, runs)
		wantOpen(t, d, "p0", programs%2 == 0, runs+1)
		wantFull(t, d)
	}
}
