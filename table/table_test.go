package table

import (
	"math"
	"testing"

	"hayloft/api"
)

// lean is the chapter's first example.
var lean = api.Table{
	Units: [api.Classes]int{2, 1, 1, 1},
	Lat:   [api.Classes]int{1, 3, 2, 1},
	Busy:  [api.Classes]int{1, 2, 1, 1},
	Delay: 1,
}

const leanText = "alu 2 lat 1 busy 1\nmul 1 lat 3 busy 2\nmem 1 lat 2 busy 1\nctl 1 lat 1 busy 1\ndelay 1\n"

// place is a number of a table, with the chapter's bounds written out.
type place struct {
	name      string
	low, high int
	in        func(t *api.Table) *int
}

func places() []place {
	all := []place{{"delay", 0, 4, func(t *api.Table) *int { return &t.Delay }}}
	for class, name := range []string{"alu", "mul", "mem", "ctl"} {
		all = append(all,
			place{name + " units", 0, 8, func(t *api.Table) *int { return &t.Units[class] }},
			place{name + " lat", 1, 8, func(t *api.Table) *int { return &t.Lat[class] }},
			place{name + " busy", 1, 4, func(t *api.Table) *int { return &t.Busy[class] }})
	}
	return all
}

func TestClassesAreInTheOrderOfTheirNumbers(t *testing.T) {
	if [...]int{alu, mul, mem, ctl, delay} != [...]int{api.Alu, api.Mul, api.Mem, api.Ctl, api.Classes} {
		t.Error("the lines are not counted as api counts the classes")
	}
}

func TestCheckAtEveryBound(t *testing.T) {
	for _, p := range places() {
		for n := p.low - 2; n <= p.high+2; n++ {
			x := lean
			*p.in(&x) = n
			want := api.ErrTable
			if p.low <= n && n <= p.high {
				want = api.OK
			}
			if got := Check(x); got != want {
				t.Errorf("%s %d: Check %d, want %d", p.name, n, got, want)
			}
		}
		for _, n := range []int{math.MinInt, math.MinInt32, -1 << 8, 1 << 8, 1<<8 + 1, 1 << 32, 1<<32 + 1, math.MaxInt} {
			x := lean
			*p.in(&x) = n
			if got := Check(x); got != api.ErrTable {
				t.Errorf("%s %d: Check %d, want ErrTable", p.name, n, got)
			}
		}
	}
	if Check(api.Table{}) != api.ErrTable {
		t.Error("a table of zeros has results that land at once")
	}
}

func TestWidthIsAllUnits(t *testing.T) {
	if got := Width(lean); got != 5 {
		t.Errorf("Width of the example is %d", got)
	}
	for n := range 9 * 9 * 9 * 9 {
		x := lean
		x.Units = [api.Classes]int{n % 9, n / 9 % 9, n / 81 % 9, n / 729}
		if got, want := Width(x), n%9+n/9%9+n/81%9+n/729; got != want {
			t.Fatalf("Width of units %v is %d, want %d", x.Units, got, want)
		}
	}
}

func TestARefusedTableHasNoWidthAndNoText(t *testing.T) {
	for _, p := range places() {
		for _, n := range []int{p.low - 1, p.high + 1, math.MinInt, math.MaxInt} {
			x := lean
			*p.in(&x) = n
			if got := Width(x); got != 0 {
				t.Errorf("%s %d: Width %d", p.name, n, got)
			}
			if s, e := Text(x); s != "" || e != api.ErrTable {
				t.Errorf("%s %d: Text %q, %d", p.name, n, s, e)
			}
		}
	}
}

func TestTextOfTheExample(t *testing.T) {
	if s, e := Text(lean); s != leanText || e != api.OK {
		t.Errorf("Text %q, %d", s, e)
	}
}

func TestTextTellsEachNumberInItsPlace(t *testing.T) {
	x := api.Table{
		Units: [api.Classes]int{0, 3, 5, 8},
		Lat:   [api.Classes]int{1, 4, 6, 8},
		Busy:  [api.Classes]int{1, 2, 3, 4},
		Delay: 0,
	}
	want := "alu 0 lat 1 busy 1\nmul 3 lat 4 busy 2\nmem 5 lat 6 busy 3\nctl 8 lat 8 busy 4\ndelay 0\n"
	if s, e := Text(x); s != want || e != api.OK {
		t.Errorf("Text %q, %d", s, e)
	}
}
