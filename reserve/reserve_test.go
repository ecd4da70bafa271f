package reserve

import (
	"math"
	"testing"

	"hayloft/api"
	"hayloft/table"
)

// tableOf answers a table of these Units and Busy; how late results land is nothing to this layer.
func tableOf(units, busy [api.Classes]int) api.Table {
	return api.Table{Units: units, Lat: [api.Classes]int{1, 8, 3, 5}, Busy: busy, Delay: 2}
}

// The chapter's table.
func example() api.Table {
	return tableOf([api.Classes]int{1, 2, 1, 1}, [api.Classes]int{1, 3, 1, 1})
}

// unlike has Units and Busy of its own for each class.
func unlike() api.Table {
	return tableOf([api.Classes]int{3, 1, 8, 2}, [api.Classes]int{2, 4, 1, 3})
}

func newRow(t testing.TB, m api.Table) *Table {
	t.Helper()
	r, e := New(m)
	if e != api.OK || r == nil {
		t.Fatalf("New(%v) is %v, %v", m, r, e)
	}
	return r
}

func newRing(t testing.TB, m api.Table, every int) *Table {
	t.Helper()
	r, e := Ring(m, every)
	if e != api.OK || r == nil {
		t.Fatalf("Ring(%v, %d) is %v, %v", m, every, r, e)
	}
	return r
}

func wantFree(t *testing.T, r *Table, class, cycle int, want bool) {
	t.Helper()
	if got := r.Free(class, cycle); got != want {
		t.Errorf("Free(%d, %d) is %v, want %v", class, cycle, got, want)
	}
}

// wantTake says what Free and Take answer, for they answer the same.
func wantTake(t *testing.T, r *Table, class, cycle int, want bool) {
	t.Helper()
	wantFree(t, r, class, cycle, want)
	if got := r.Take(class, cycle); got != want {
		t.Errorf("Take(%d, %d) is %v, want %v", class, cycle, got, want)
	}
}

// wantUsed says what Used answers of the cycles from the first one on.
func wantUsed(t *testing.T, r *Table, class, first int, want ...int) {
	t.Helper()
	for n, count := range want {
		if got := r.Used(class, first+n); got != count {
			t.Errorf("Used(%d, %d) is %d, want %d", class, first+n, got, count)
		}
	}
}

func TestChapterExamples(t *testing.T) {
	r := newRow(t, example())
	wantTake(t, r, api.Alu, 5, true)
	wantTake(t, r, api.Alu, 5, false)
	wantFree(t, r, api.Alu, 6, true)

	r = newRow(t, example())
	wantTake(t, r, api.Mul, 2, true)
	wantTake(t, r, api.Mul, 3, true)
	wantFree(t, r, api.Mul, 4, false)
	wantFree(t, r, api.Mul, 5, true)
	wantUsed(t, r, api.Mul, 4, 2)
	wantUsed(t, r, api.Mul, 0, 0, 0, 1, 2, 2, 1, 0)

	r = newRing(t, example(), 2)
	wantTake(t, r, api.Mul, 7, true)
	wantUsed(t, r, api.Mul, 0, 1, 2)
	wantFree(t, r, api.Mul, 0, false)
}

// wantRefused says what a call answers of what it refuses: the error, and no table beside it.
func wantRefused(t *testing.T, name string, r *Table, e, want api.Errno) {
	t.Helper()
	if e != want || r != nil {
		t.Errorf("%s is %v, %v, want no table and %v", name, r, e, want)
	}
}

// noTables are tables each of which has one number out of its bounds.
func noTables() []api.Table {
	var all []api.Table
	spoil := func(change func(m *api.Table)) {
		m := unlike()
		change(&m)
		all = append(all, m)
	}
	for class := range api.Classes {
		for _, n := range []int{math.MinInt, -1, api.MaxUnits + 1, math.MaxInt} {
			spoil(func(m *api.Table) { m.Units[class] = n })
		}
		for _, n := range []int{math.MinInt, 0, api.MaxLatency + 1, math.MaxInt} {
			spoil(func(m *api.Table) { m.Lat[class] = n })
		}
		for _, n := range []int{math.MinInt, 0, api.MaxBusy + 1, math.MaxInt} {
			spoil(func(m *api.Table) { m.Busy[class] = n })
		}
	}
	for _, n := range []int{math.MinInt, -1, api.MaxDelay + 1, math.MaxInt} {
		spoil(func(m *api.Table) { m.Delay = n })
	}
	return append(all, api.Table{})
}

// noEverys are numbers of cycles that no ring has.
func noEverys() []int {
	return []int{0, -1, -2, -api.MaxCycles, math.MinInt, api.MaxCycles + 1, 2 * api.MaxCycles, math.MaxInt}
}

func TestNoTable(t *testing.T) {
	for _, m := range noTables() {
		want := table.Check(m)
		if want != api.ErrTable {
			t.Fatalf("table.Check(%v) is %v", m, want)
		}
		r, e := New(m)
		wantRefused(t, "New", r, e, want)
		for _, every := range append(noEverys(), 1, 2, api.MaxCycles) {
			r, e = Ring(m, every)
			wantRefused(t, "Ring", r, e, want)
		}
	}
}

func TestNoRing(t *testing.T) {
	for _, every := range noEverys() {
		r, e := Ring(unlike(), every)
		wantRefused(t, "Ring", r, e, api.ErrArg)
	}
	for _, every := range []int{1, 2, api.MaxCycles - 1, api.MaxCycles} {
		r := newRing(t, unlike(), every)
		wantTake(t, r, api.Mem, every-1, true)
		wantUsed(t, r, api.Mem, every-1, 1)
	}
}

// In a new one nothing is busy, and all is free that has units enough.
func TestNothingBusy(t *testing.T) {
	for _, r := range []*Table{newRow(t, unlike()), newRing(t, unlike(), 4), newRing(t, unlike(), api.MaxCycles)} {
		for class := range api.Classes {
			for _, cycle := range []int{0, 1, 2, 3, 4, 5, 1000, api.MaxCycles - 1, api.MaxCycles} {
				wantUsed(t, r, class, cycle, 0)
				wantFree(t, r, class, cycle, true)
				wantUsed(t, r, class, cycle, 0)
			}
		}
	}
}

// noClasses are numbers that no class has.
func noClasses() []int { return []int{-1, api.Classes, api.Classes + 1, math.MinInt, math.MaxInt} }

func TestNoClass(t *testing.T) {
	for _, r := range []*Table{newRow(t, unlike()), newRing(t, unlike(), 5)} {
		wantTake(t, r, api.Alu, 2, true)
		wantTake(t, r, api.Ctl, 2, true)
		for _, class := range noClasses() {
			for _, cycle := range []int{math.MinInt, -1, 0, 2, api.MaxCycles, math.MaxInt} {
				wantTake(t, r, class, cycle, false)
				wantUsed(t, r, class, cycle, 0)
			}
		}
		wantUsed(t, r, api.Alu, 0, 0, 0, 1, 1, 0)
		wantUsed(t, r, api.Ctl, 0, 0, 0, 1, 1, 1)
	}
}

func TestCyclesOfARow(t *testing.T) {
	r := newRow(t, unlike())
	for class := range api.Classes {
		for _, cycle := range []int{math.MinInt, math.MinInt + 1, -api.MaxCycles, -2, -1, api.MaxCycles + 1, api.MaxCycles + 2, 2 * api.MaxCycles, math.MaxInt - 1, math.MaxInt} {
			wantTake(t, r, class, cycle, false)
			wantUsed(t, r, class, cycle, 0)
		}
		for _, cycle := range []int{0, api.MaxCycles / 2, api.MaxCycles} {
			wantTake(t, r, class, cycle, true)
			wantUsed(t, r, class, cycle, 1)
		}
		wantUsed(t, r, class, -1, 0)
	}
}

// What is taken in the last cycle is busy behind it too, though nothing can be taken there.
func TestBusyBehindTheLastCycle(t *testing.T) {
	r := newRow(t, unlike())
	wantTake(t, r, api.Mul, api.MaxCycles, true)
	wantUsed(t, r, api.Mul, api.MaxCycles-1, 0, 1, 1, 1, 1, 0)
	wantTake(t, r, api.Mul, api.MaxCycles, false)
	wantTake(t, r, api.Mul, api.MaxCycles+1, false)
	wantTake(t, r, api.Mul, api.MaxCycles+4, false)
	wantTake(t, r, api.Mul, api.MaxCycles-3, false)
	wantTake(t, r, api.Mul, api.MaxCycles-4, true)
	wantUsed(t, r, api.Mul, api.MaxCycles-5, 0, 1, 1, 1, 1, 1, 1, 1, 1, 0)

	r = newRow(t, unlike())
	wantTake(t, r, api.Ctl, api.MaxCycles-1, true)
	wantTake(t, r, api.Ctl, api.MaxCycles, true)
	wantUsed(t, r, api.Ctl, api.MaxCycles-2, 0, 1, 2, 2, 1, 0)
}

func TestCyclesOfARing(t *testing.T) {
	r := newRing(t, unlike(), 5)
	wantTake(t, r, api.Ctl, -1, true) // 4, 0 and 1
	wantUsed(t, r, api.Ctl, -5, 1, 1, 0, 0, 1, 1, 1, 0, 0, 1, 1, 1, 0, 0, 1)
	wantTake(t, r, api.Ctl, 15+api.MaxCycles*5, true) // 0, 1 and 2
	wantUsed(t, r, api.Ctl, 0, 2, 2, 1, 0, 1)
	wantFree(t, r, api.Ctl, 1, false)
	wantFree(t, r, api.Ctl, 2, true)
	wantFree(t, r, api.Ctl, 3, false)
	wantTake(t, r, api.Ctl, -13, true) // 2, 3 and 4
	wantUsed(t, r, api.Ctl, 0, 2, 2, 2, 1, 2)
}

// modulo answers where a cycle stands in a ring, by whole steps alone.
func modulo(cycle, every int) int {
	if cycle >= 0 {
		return cycle % every
	}
	return every - 1 - (-(cycle + 1))%every
}

// At the ends of the numbers there is no next cycle, but in a ring there is.
func TestEndsOfTheNumbers(t *testing.T) {
	for _, every := range []int{1, 2, 3, 4, 5, 7, 1000, api.MaxCycles - 1, api.MaxCycles} {
		for _, cycle := range []int{math.MinInt, math.MinInt + 1, math.MinInt + 2, math.MaxInt - 2, math.MaxInt - 1, math.MaxInt} {
			m := tableOf([api.Classes]int{8, 8, 8, 8}, [api.Classes]int{4, 3, 2, 1})
			r, same := newRing(t, m, every), newRing(t, m, every)
			for class := range api.Classes {
				at := modulo(cycle, every)
				wantTake(t, r, class, cycle, true)
				wantTake(t, same, class, at, true)
				for k := range 5 {
					wantUsed(t, r, class, at+k, same.Used(class, at+k))
				}
				wantUsed(t, r, class, cycle, (m.Busy[class]+every-1)/every)
			}
		}
	}
}

func TestFreeChangesNothing(t *testing.T) {
	for _, r := range []*Table{newRow(t, unlike()), newRing(t, unlike(), 6)} {
		wantTake(t, r, api.Alu, 1, true)
		for range 10 {
			wantFree(t, r, api.Alu, 1, true)
			wantFree(t, r, api.Mul, 1, true)
			wantUsed(t, r, api.Alu, 0, 0, 1, 1, 0, 0)
			wantUsed(t, r, api.Mul, 0, 0, 0, 0, 0, 0)
		}
	}
}

// An operation whose last cycle has no unit left takes nothing, not even its first one.
func TestRefusedTakeChangesNothing(t *testing.T) {
	for _, r := range []*Table{newRow(t, unlike()), newRing(t, unlike(), 9)} {
		wantTake(t, r, api.Mul, 4, true)
		for cycle := 1; cycle < 8; cycle++ {
			wantTake(t, r, api.Mul, cycle, false)
			wantUsed(t, r, api.Mul, 0, 0, 0, 0, 0, 1, 1, 1, 1, 0)
		}
		wantTake(t, r, api.Mul, 0, true)
		wantUsed(t, r, api.Mul, 0, 1, 1, 1, 1, 1, 1, 1, 1, 0)
	}
}

func TestUpToTheUnits(t *testing.T) {
	for units := 0; units <= api.MaxUnits; units++ {
		for busy := 1; busy <= api.MaxBusy; busy++ {
			m := unlike()
			m.Units[api.Mem], m.Busy[api.Mem] = units, busy
			for _, r := range []*Table{newRow(t, m), newRing(t, m, busy), newRing(t, m, api.MaxCycles)} {
				for n := range units {
					wantTake(t, r, api.Mem, 0, true)
					wantUsed(t, r, api.Mem, busy-1, n+1)
				}
				wantTake(t, r, api.Mem, 0, false)
				for k := range busy {
					wantTake(t, r, api.Mem, k, false)
					wantUsed(t, r, api.Mem, k, units)
				}
			}
		}
	}
}

// What is busy for longer than a ring goes round counts once more each time that it comes by.
func TestBusyLongerThanTheRing(t *testing.T) {
	m := tableOf([api.Classes]int{8, 3, 4, 1}, [api.Classes]int{4, 4, 4, 2})
	r := newRing(t, m, 1)
	wantTake(t, r, api.Alu, 3, true)
	wantUsed(t, r, api.Alu, 0, 4, 4)
	wantTake(t, r, api.Alu, 8, true)
	wantUsed(t, r, api.Alu, 0, 8)
	wantTake(t, r, api.Alu, 0, false)
	wantTake(t, r, api.Mul, 0, false) // 4 times in one cycle, of 3 units
	wantUsed(t, r, api.Mul, 0, 0)
	wantTake(t, r, api.Mem, -1, true)
	wantUsed(t, r, api.Mem, 0, 4)
	wantTake(t, r, api.Ctl, 0, false)

	r = newRing(t, m, 3)
	wantTake(t, r, api.Mul, 1, true) // 1, 2, 0 and 1
	wantUsed(t, r, api.Mul, 0, 1, 2, 1)
	wantTake(t, r, api.Mul, 1, false) // 1 would be busy 4 times
	wantTake(t, r, api.Mul, 0, true)  // 0, 1, 2 and 0
	wantUsed(t, r, api.Mul, 0, 3, 3, 2)
	wantTake(t, r, api.Mul, 2, false)

	r = newRing(t, m, 2)
	wantTake(t, r, api.Ctl, 1, true)
	wantUsed(t, r, api.Ctl, 0, 1, 1)
	wantTake(t, r, api.Ctl, 0, false)
}

func TestClassesKnowNothingOfOneAnother(t *testing.T) {
	for _, begun := range []func() *Table{
		func() *Table { return newRow(t, unlike()) },
		func() *Table { return newRing(t, unlike(), 12) },
	} {
		for class := range api.Classes {
			r := begun()
			for r.Take(class, 3) {
			}
			wantUsed(t, r, class, 3, unlike().Units[class])
			for other := range api.Classes {
				if other != class {
					wantUsed(t, r, other, 0, 0, 0, 0, 0, 0, 0, 0, 0, 0)
					wantTake(t, r, other, 3, true)
				}
			}
			wantUsed(t, r, class, 3, unlike().Units[class])
		}
	}
}

func TestTablesKnowNothingOfOneAnother(t *testing.T) {
	m := unlike()
	first, second, third, fourth := newRow(t, m), newRow(t, m), newRing(t, m, 7), newRing(t, m, 7)
	wantTake(t, first, api.Mul, 1, true)
	wantTake(t, third, api.Mul, 1, true)
	for _, r := range []*Table{second, fourth} {
		wantUsed(t, r, api.Mul, 0, 0, 0, 0, 0, 0, 0, 0)
		wantTake(t, r, api.Mul, 2, true)
		wantUsed(t, r, api.Mul, 0, 0, 0, 1, 1, 1, 1, 0)
	}
	for _, r := range []*Table{first, third} {
		wantUsed(t, r, api.Mul, 0, 0, 1, 1, 1, 1, 0, 0)
		wantTake(t, r, api.Mul, 2, false)
	}
}

// What is done to the table that was handed in changes nothing that was made of it.
func TestLaterChanges(t *testing.T) {
	m := unlike()
	r := newRow(t, m)
	m.Units, m.Busy = [api.Classes]int{}, [api.Classes]int{1, 1, 1, 1}
	wantTake(t, r, api.Mul, 0, true)
	wantUsed(t, r, api.Mul, 0, 1, 1, 1, 1, 0)
	if unlike() == m {
		t.Error("the table was to be changed")
	}
}

func TestNoUnits(t *testing.T) {
	m := unlike()
	m.Units = [api.Classes]int{}
	for _, r := range []*Table{newRow(t, m), newRing(t, m, 3)} {
		for class := range api.Classes {
			wantTake(t, r, class, 0, false)
			wantUsed(t, r, class, 0, 0, 0, 0)
		}
	}
}

// The last one did not come out of this package's calls: it panics no more than the others.
func TestNil(t *testing.T) {
	for _, none := range []*Table{nil, {}} {
		for _, class := range append(noClasses(), api.Alu, api.Mul, api.Mem, api.Ctl) {
			for _, cycle := range []int{math.MinInt, -1, 0, 1, api.MaxCycles, math.MaxInt} {
				wantTake(t, none, class, cycle, false)
				wantUsed(t, none, class, cycle, 0)
			}
		}
	}
}
