package reserve

import (
	"math"
	"math/rand"
	"testing"

	"hayloft/api"
)

// told is the chapter's words told a second time: all that was taken, gone over for each question. A row has an every of 0.
type told struct {
	m     api.Table
	every int
	taken []place
}

func (d *told) used(class, cycle int) int {
	sum := 0
	for _, p := range d.taken {
		if p.class != class {
			continue
		}
		for k := range d.m.Busy[class] {
			if d.every == 0 && p.cycle+k == cycle || d.every > 0 && (modulo(p.cycle, d.every)+k)%d.every == modulo(cycle, d.every) {
				sum++
			}
		}
	}
	return sum
}

// free takes the operation, looks at all the counts that have become greater by it, and puts it back.
func (d *told) free(class, cycle int) bool {
	if class < 0 || class > 3 || d.every == 0 && (cycle < 0 || cycle > api.MaxCycles) {
		return false
	}
	before := d.taken
	defer func() { d.taken = before }()
	if d.every > 0 {
		cycle = modulo(cycle, d.every)
	}
	d.taken = append(d.taken, place{class, cycle})
	for k := range api.MaxBusy {
		if d.used(class, cycle+k) > d.m.Units[class] {
			return false
		}
	}
	return true
}

func (d *told) take(class, cycle int) bool {
	if !d.free(class, cycle) {
		return false
	}
	d.taken = append(d.taken, place{class, cycle})
	return true
}

func newTold(t testing.TB, m api.Table, every int) (*Table, *told) {
	t.Helper()
	if every == 0 {
		return newRow(t, m), &told{m: m}
	}
	return newRing(t, m, every), &told{m: m, every: every}
}

// wantTold says that both tell the same of the classes from -1 to 4, in the cycles from low to high.
func wantTold(t testing.TB, r *Table, d *told, low, high int) {
	t.Helper()
	for class := -1; class <= api.Classes; class++ {
		for cycle := low; cycle <= high; cycle++ {
			if got, want := r.Used(class, cycle), d.used(class, cycle); got != want {
				t.Fatalf("%+v: Used(%d, %d) is %d, want %d", *d, class, cycle, got, want)
			}
			if got, want := r.Free(class, cycle), d.free(class, cycle); got != want {
				t.Fatalf("%+v: Free(%d, %d) is %v, want %v", *d, class, cycle, got, want)
			}
		}
	}
}

// wantTakeTold takes it of both.
func wantTakeTold(t testing.TB, r *Table, d *told, class, cycle int) bool {
	t.Helper()
	want := d.take(class, cycle)
	if got := r.Take(class, cycle); got != want {
		t.Fatalf("%+v: Take(%d, %d) is %v, want %v", *d, class, cycle, got, want)
	}
	return want
}

// Every three takes of few cycles, of every Units and Busy of one class, of a row and of short rings.
func TestAllShortTakes(t *testing.T) {
	for units := range 5 {
		for busy := 1; busy <= api.MaxBusy; busy++ {
			m := unlike()
			m.Units[api.Mul], m.Busy[api.Mul] = units, busy
			for every := range 6 {
				for takes := range 6 * 6 * 6 {
					r, d := newTold(t, m, every)
					for _, cycle := range []int{takes % 6, takes / 6 % 6, takes / 36} {
						wantTakeTold(t, r, d, api.Mul, cycle-1)
					}
					for cycle := -2; cycle < 10; cycle++ {
						if got, want := r.Used(api.Mul, cycle), d.used(api.Mul, cycle); got != want {
							t.Fatalf("%+v: Used(%d) is %d, want %d", *d, cycle, got, want)
						}
					}
				}
			}
		}
	}
}

// chanceTable answers a table that is one.
func chanceTable(r *rand.Rand) api.Table {
	m := api.Table{Delay: r.Intn(api.MaxDelay + 1)}
	for class := range api.Classes {
		m.Units[class] = r.Intn(api.MaxUnits + 1)
		m.Lat[class] = 1 + r.Intn(api.MaxLatency)
		m.Busy[class] = 1 + r.Intn(api.MaxBusy)
	}
	return m
}

// chanceEvery answers a row's 0, or a ring's Every, mostly a short one.
func chanceEvery(r *rand.Rand) int {
	switch r.Intn(4) {
	case 0:
		return 0
	case 1:
		return 1 + r.Intn(api.MaxCycles)
	}
	return 1 + r.Intn(8)
}

// chanceCycle answers mostly one of few cycles about 0 or about MaxCycles, so that many meet.
func chanceCycle(r *rand.Rand) int {
	switch r.Intn(8) {
	case 0:
		return api.MaxCycles - 3 + r.Intn(6)
	case 1:
		return math.MaxInt - r.Intn(5)
	case 2:
		return math.MinInt + r.Intn(5)
	}
	return r.Intn(14) - 2
}

// P13.1 to P13.4, and of P13.5 that no count is above the units.
func TestManyTakes(t *testing.T) {
	chance := rand.New(rand.NewSource(13))
	for range 1500 {
		m := chanceTable(chance)
		r, d := newTold(t, m, chanceEvery(chance))
		for range 40 {
			wantTakeTold(t, r, d, chance.Intn(api.Classes+2)-1, chanceCycle(chance))
		}
		wantTold(t, r, d, -3, 16)
		wantTold(t, r, d, api.MaxCycles-4, api.MaxCycles+6)
		wantWithinUnits(t, r, m, -3, 16)
		wantWithinUnits(t, r, m, api.MaxCycles-4, api.MaxCycles+6)
	}
}

func wantWithinUnits(t *testing.T, r *Table, m api.Table, low, high int) {
	t.Helper()
	for class, units := range m.Units {
		for cycle := low; cycle <= high; cycle++ {
			if got := r.Used(class, cycle); got < 0 || got > units {
				t.Fatalf("Used(%d, %d) is %d, of %d units", class, cycle, got, units)
			}
		}
	}
}

// P13.5: what was taken can be taken in any other order too, and then the same is used, and the same is free.
func TestAnyOrder(t *testing.T) {
	chance := rand.New(rand.NewSource(135))
	for range 1000 {
		m, every := chanceTable(chance), chanceEvery(chance)
		first, d := newTold(t, m, every)
		for range 40 {
			wantTakeTold(t, first, d, chance.Intn(api.Classes), chanceCycle(chance))
		}
		second, _ := newTold(t, m, every)
		for _, n := range chance.Perm(len(d.taken)) {
			if p := d.taken[n]; !second.Take(p.class, p.cycle) {
				t.Fatalf("%+v: %v is refused in another order", *d, p)
			}
		}
		for class := range api.Classes {
			for _, from := range []int{-2, api.MaxCycles - 4} {
				for cycle := from; cycle < from+16; cycle++ {
					if first.Used(class, cycle) != second.Used(class, cycle) || first.Free(class, cycle) != second.Free(class, cycle) {
						t.Fatalf("%+v: class %d, cycle %d hang on the order", *d, class, cycle)
					}
				}
			}
		}
	}
}

// P13.5: what is not free stays so, whatever is taken.
func TestNotFreeStaysSo(t *testing.T) {
	chance := rand.New(rand.NewSource(1355))
	for range 300 {
		m := chanceTable(chance)
		r, _ := newTold(t, m, chanceEvery(chance))
		var full []place
		for range 60 {
			r.Take(chance.Intn(api.Classes), chanceCycle(chance))
			for _, p := range full {
				if r.Free(p.class, p.cycle) || r.Take(p.class, p.cycle) {
					t.Fatalf("%v: %v was not free, and is", m, p)
				}
			}
			if p := (place{chance.Intn(api.Classes), chanceCycle(chance)}); !r.Free(p.class, p.cycle) {
				full = append(full, p)
			}
		}
	}
}

// P13.6: a ring that is wide enough answers what a row does, and one that is narrower by one need not.
func TestWideRing(t *testing.T) {
	chance := rand.New(rand.NewSource(136))
	unlikeRow := 0
	for range 1000 {
		m := chanceTable(chance)
		last := chance.Intn(20)
		if chance.Intn(8) == 0 {
			last = api.MaxCycles - api.MaxBusy
		}
		widest := max(m.Busy[0], m.Busy[1], m.Busy[2], m.Busy[3])
		r, ring := newRow(t, m), newRing(t, m, last+widest)
		narrow := newRing(t, m, max(1, last+widest-1))
		for n := range 40 {
			class, cycle := chance.Intn(api.Classes), max(0, last-chance.Intn(20))
			if n == 0 {
				cycle = last
			}
			if got, want := ring.Take(class, cycle), r.Take(class, cycle); got != want {
				t.Fatalf("%v: a ring of %d: Take(%d, %d) is %v, of a row %v", m, last+widest, class, cycle, got, want)
			}
			narrow.Take(class, cycle)
		}
		for class := range api.Classes {
			for cycle := max(0, last-25); cycle < last+widest; cycle++ {
				if got, want := ring.Used(class, cycle), r.Used(class, cycle); got != want {
					t.Fatalf("%v: a ring of %d: Used(%d, %d) is %d, of a row %d", m, last+widest, class, cycle, got, want)
				}
			}
			for cycle := range max(1, last+widest-1) {
				if narrow.Used(class, cycle) != r.Used(class, cycle) {
					unlikeRow++
				}
			}
		}
	}
	if unlikeRow == 0 {
		t.Error("no ring was too narrow")
	}
}

// Who asks at the same time gets the same answers: asking writes nothing.
func TestAskedAtTheSameTime(t *testing.T) {
	r := newRing(t, unlike(), 6)
	wantTake(t, r, api.Mul, 4, true)
	done := make(chan bool)
	for range 8 {
		go func() {
			well := true
			for cycle := range 1000 {
				well = well && r.Free(api.Mul, 6*cycle+2) == false && r.Free(api.Ctl, cycle) && r.Used(api.Mul, 6*cycle-1) == 1
			}
			done <- well
		}()
	}
	for range 8 {
		if !<-done {
			t.Error("another answer")
		}
	}
}

// Ordinary use is quick: each of many thousands of takes looks at its own cycles alone.
func TestManyCycles(t *testing.T) {
	m := tableOf([api.Classes]int{2, 8, 8, 8}, [api.Classes]int{4, 4, 4, 4})
	r := newRow(t, m)
	for cycle := range api.MaxCycles + 1 {
		if want := cycle%4 < 2; r.Take(api.Alu, cycle) != want {
			t.Fatalf("Take in cycle %d is not %v", cycle, want)
		}
	}
	wantUsed(t, r, api.Alu, 0, 1, 2, 2, 2, 2)
}

func FuzzReserve(f *testing.F) {
	f.Add([]byte{1, 2, 1, 1, 1, 3, 1, 1}, 2, []byte{1, 7, 1, 0})
	f.Add([]byte{8, 8, 8, 8, 4, 4, 4, 4}, 0, []byte{0, 0, 4, 1, 255, 2})
	f.Add([]byte{9, 0, 0, 0, 1, 1, 1, 1}, -1, []byte{})
	f.Fuzz(func(t *testing.T, numbers []byte, every int, takes []byte) {
		m := tableOf([api.Classes]int{}, [api.Classes]int{1, 1, 1, 1})
		for n, b := range numbers {
			if n < api.Classes {
				m.Units[n] = int(b)
			} else if n < 2*api.Classes {
				m.Busy[n-api.Classes] = int(b)
			}
		}
		r, e := Ring(m, every)
		if every == 0 {
			r, e = New(m)
		}
		if e != api.OK {
			if r != nil {
				t.Fatalf("%v beside %v", r, e)
			}
			return
		}
		d := &told{m: m, every: every}
		for n := 0; n+1 < min(len(takes), 100); n += 2 {
			wantTakeTold(t, r, d, int(int8(takes[n])), int(int8(takes[n+1])))
		}
		wantTold(t, r, d, -130, 135)
	})
}
