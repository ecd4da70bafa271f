package bounds

import (
	"math"
	"math/rand"
	"slices"
	"testing"

	"hayloft/api"
	"hayloft/deps"
	"hayloft/table"
)

// unitsTold is P15.1's words told a second time: the least number of cycles in which units are busy at least as often as is asked.
func unitsTold(t testing.TB, l []api.Op, m api.Table) int {
	t.Helper()
	all := []int{api.Ctl}
	for _, o := range l {
		all = append(all, classTold(t, o))
	}
	cycles := 0
	for class := range api.Classes {
		busy := 0
		for _, c := range all {
			if c == class {
				busy += m.Busy[class]
			}
		}
		for busy > cycles*m.Units[class] {
			cycles++
		}
	}
	return cycles
}

// walk goes all ways from an operation that go over no operation twice, and tells each that comes back to first.
func walk(edges []api.Edge, first, at, lat, dist int, been []bool, back func(lat, dist int)) {
	been[at] = true
	for _, d := range edges {
		switch {
		case d.From != at:
		case d.To == first:
			back(lat+d.Lat, dist+d.Dist)
		case d.To > first && !been[d.To]:
			walk(edges, first, d.To, lat+d.Lat, dist+d.Dist, been, back)
		}
	}
	been[at] = false
}

// roundsWalked is P15.2's words told a second time: every way back is gone by itself.
func roundsWalked(t testing.TB, count int, edges []api.Edge) int {
	t.Helper()
	most := 1
	for first := range count {
		walk(edges, first, first, 0, 0, make([]bool, count), func(lat, dist int) {
			if dist == 0 {
				t.Fatalf("a way of %v comes back in its own round", edges)
			}
			for lat > most*dist {
				most++
			}
		})
	}
	return most
}

// wayBackIsLate answers whether a way back takes longer than n times its rounds: the ends of ways are put
// off as long as an edge asks for it, and one that is put off more often than there are operations goes in a ring.
func wayBackIsLate(count int, edges []api.Edge, n int) bool {
	ends := make([]int, count)
	for range count + 1 {
		changed := false
		for _, d := range edges {
			if end := ends[d.From] + d.Lat - n*d.Dist; end > ends[d.To] {
				ends[d.To], changed = end, true
			}
		}
		if !changed {
			return false
		}
	}
	return true
}

// errorTold is the errors' words told a second time.
func errorTold(t testing.TB, l []api.Op, m api.Table) api.Errno {
	t.Helper()
	if e := table.Check(m); e != api.OK {
		return e
	}
	if len(l) > api.MaxBody {
		return api.ErrLong
	}
	if _, e := deps.Of(l, m); e != api.OK {
		return e
	}
	for _, o := range l {
		if m.Units[classTold(t, o)] == 0 {
			return api.ErrNoUnit
		}
	}
	if m.Units[api.Ctl] == 0 {
		return api.ErrNoUnit
	}
	return api.OK
}

// wantTold says that the three functions answer what is told a second time; the numbers are handed out.
func wantTold(t testing.TB, l []api.Op, m api.Table) (int, int, api.Errno) {
	t.Helper()
	units, e := Units(l, m)
	rounds, f := Rounds(l, m)
	least, g := Least(l, m)
	if want := errorTold(t, l, m); e != want || f != want || g != want {
		t.Fatalf("of %v, %v: %v, %v, %v, want %v", l, m, e, f, g, want)
	}
	if e != api.OK {
		if units != 0 || rounds != 0 || least != 0 {
			t.Fatalf("of %v, %v: %d, %d, %d beside %v", l, m, units, rounds, least, e)
		}
		return 0, 0, e
	}
	if want := unitsTold(t, l, m); units != want {
		t.Fatalf("Units(%v, %v) is %d, want %d", l, m, units, want)
	}
	edges, _ := deps.Loop(l, m)
	if rounds < 1 || rounds > api.MaxBody*api.MaxLatency || wayBackIsLate(len(l), edges, rounds) || rounds > 1 && !wayBackIsLate(len(l), edges, rounds-1) {
		t.Fatalf("Rounds(%v, %v) is %d", l, m, rounds)
	}
	if least < units || least < rounds || least < 1+m.Delay || least != units && least != rounds && least != 1+m.Delay {
		t.Fatalf("Least(%v, %v) is %d, of %d and %d", l, m, least, units, rounds)
	}
	return units, rounds, api.OK
}

// wantWalked says the same of a short body, each way back of which is gone by itself.
func wantWalked(t testing.TB, l []api.Op, m api.Table) {
	t.Helper()
	_, rounds, e := wantTold(t, l, m)
	if e != api.OK {
		return
	}
	edges, _ := deps.Loop(l, m)
	if want := roundsWalked(t, len(l), edges); rounds != want {
		t.Fatalf("Rounds(%v, %v) is %d, want %d", l, m, rounds, want)
	}
}

// fewOps are operations of which every two depend on one another in some way, or in none.
func fewOps() []api.Op {
	return list(consts(1, 8), moves(2, 1), adds(1, 1, 2), adds(0, 1, 2), multiplies(2, 2, 1), divides(1, 2, 2), rests(2, 1, 1),
		loads(1, 2, 264), loads(2, 1, 9), stores(1, 2, 8), stores(2, 1, 8), prints(1), prints(0))
}

// Every body of up to three of these.
func TestAllShortBodies(t *testing.T) {
	all := fewOps()
	for _, m := range []api.Table{
		example(),
		busy(lats(units(example(), 2, 1, 2, 1), 1, 4, 3, 1), 1, 3, 2, 1),
		busy(lats(units(example(), 1, 2, 1, 1), 3, 1, 2, 1), 4, 1, 3, 1),
	} {
		wantWalked(t, nil, m)
		for _, a := range all {
			wantWalked(t, list(a), m)
			for _, b := range all {
				wantWalked(t, list(a, b), m)
				for _, c := range all {
					wantWalked(t, list(a, b, c), m)
				}
			}
		}
	}
}

// chanceOp answers an operation of a list, of few cells and few bases, so that many depend on one another.
func chanceOp(r *rand.Rand, registers int) api.Op {
	register := func() uint8 { return uint8(r.Intn(registers)) }
	imm := int64(r.Intn(4) + 256*r.Intn(3) - 256)
	switch do := int8(api.Const + r.Intn(api.Print+6)); {
	case do == api.Const:
		return consts(register(), imm)
	case do == api.Move:
		return moves(register(), register())
	case do < api.Load:
		return api.Op{Do: do, D: register(), A: register(), B: register()}
	case do == api.Print:
		return prints(register())
	case do%2 == 0:
		return loads(register(), register(), imm)
	}
	return stores(register(), register(), imm)
}

// chanceTable answers a table, half of the time of few units, and now and then of none of a class.
func chanceTable(r *rand.Rand) api.Table {
	m := api.Table{Delay: r.Intn(5)}
	most := 1 + r.Intn(8)
	for class := range api.Classes {
		m.Units[class], m.Lat[class], m.Busy[class] = 1+r.Intn(most), 1+r.Intn(8), 1+r.Intn(4)
		if r.Intn(16) == 0 {
			m.Units[class] = 0
		}
	}
	return m
}

// spoilt answers an operation that is mostly none.
func spoilt(r *rand.Rand, o api.Op) api.Op {
	switch r.Intn(5) {
	case 0:
		o.Do = int8(r.Intn(256))
	case 1:
		o.D = uint8(r.Intn(256))
	case 2:
		o.A = uint8(r.Intn(256))
	case 3:
		o.B = uint8(r.Intn(256))
	case 4:
		o.Imm = int64(r.Uint64())
	}
	return o
}

// chanceBody answers a body of at most so many operations; half of them of many registers, so that few depend on one another.
func chanceBody(r *rand.Rand, most int) []api.Op {
	registers := 1 + r.Intn(8)
	if r.Intn(2) == 0 {
		registers = 32
	}
	var l []api.Op
	for range r.Intn(most + 1) {
		l = append(l, chanceOp(r, registers))
	}
	return l
}

func TestManyShortBodies(t *testing.T) {
	r := rand.New(rand.NewSource(15))
	for range 3000 {
		wantWalked(t, chanceBody(r, 5), chanceTable(r))
	}
}

// Ways back over more rounds than one: their sums are seldom just n times their Dists.
func TestManyWaysOverMoreRounds(t *testing.T) {
	r := rand.New(rand.NewSource(152))
	leftOver := 0
	for range 1500 {
		var l []api.Op
		for range 2 + r.Intn(5) {
			l = append(l, list(adds(0, 0, 0), multiplies(0, 0, 0), loads(0, 0, 0))[r.Intn(3)])
		}
		l = over(l...)
		m := units(chanceTable(r), 1, 1, 1, 1)
		wantWalked(t, l, m)
		sum := 0
		for _, o := range l {
			sum += m.Lat[classTold(t, o)]
		}
		if rounds, _ := Rounds(l, m); rounds < (sum+len(l)-2)/(len(l)-1) {
			t.Fatalf("Rounds(%v, %v) is %d", l, m, rounds)
		} else if sum%(len(l)-1) != 0 && rounds == sum/(len(l)-1)+1 {
			leftOver++
		}
	}
	if leftOver < 200 {
		t.Errorf("%d sums were rounded up", leftOver)
	}
}

func TestManyBodies(t *testing.T) {
	r := rand.New(rand.NewSource(151))
	errors := map[api.Errno]int{}
	count := func(l []api.Op, m api.Table) {
		_, _, e := wantTold(t, l, m)
		errors[e]++
	}
	for range 1500 {
		l, m := chanceBody(r, 24), chanceTable(r)
		count(l, m)
		if len(l) > 0 {
			at := r.Intn(len(l))
			l[at] = spoilt(r, l[at])
		}
		if r.Intn(4) == 0 {
			m.Busy[r.Intn(api.Classes)] = r.Intn(7) - 1
		}
		count(l, m)
	}
	for range 150 {
		count(chanceBody(r, api.MaxBody+20), chanceTable(r))
	}
	if len(errors) != 5 || min(errors[api.OK], errors[api.ErrNoUnit], errors[api.ErrTable], errors[api.ErrOp]) < 100 || errors[api.ErrLong] < 10 {
		t.Errorf("by errors %v", errors)
	}
}

// P15.5: with an operation more behind a body Units does not get less.
func TestAnOperationMore(t *testing.T) {
	r := rand.New(rand.NewSource(155))
	same, more := 0, 0
	for range 2500 {
		l, m := chanceBody(r, api.MaxBody-1), chanceTable(r)
		before, _ := Units(l, m)
		behind, e := Units(append(l, chanceOp(r, 32)), m)
		if e != api.OK {
			continue
		}
		if behind < before || before == 0 {
			t.Fatalf("%v, %v: %d, with one more %d", l, m, before, behind)
		}
		if behind == before {
			same++
		} else {
			more++
		}
	}
	if same < 500 || more < 500 {
		t.Errorf("the same %d times, more %d times", same, more)
	}
}

// P15.5: with more units of any class it does not get greater.
func TestAUnitMore(t *testing.T) {
	r := rand.New(rand.NewSource(1551))
	same, less := 0, 0
	for range 2500 {
		l, m := chanceBody(r, api.MaxBody), chanceTable(r)
		before, e := Units(l, m)
		class := r.Intn(api.Classes)
		if e != api.OK || m.Units[class] == api.MaxUnits {
			continue
		}
		m.Units[class]++
		with, e := Units(l, m)
		if e != api.OK || with > before || with == 0 {
			t.Fatalf("%v, %v: %d, %v, with one less %d", l, m, with, e, before)
		}
		if with == before {
			same++
		} else {
			less++
		}
	}
	if same < 300 || less < 300 {
		t.Errorf("the same %d times, less %d times", same, less)
	}
}

// The longest bodies, in which the most depends: the answers come, and are right.
func TestManyLongBodies(t *testing.T) {
	r := rand.New(rand.NewSource(64))
	for _, registers := range []int{1, 2, 4, 8, 32} {
		for range 4 {
			var l []api.Op
			for range api.MaxBody {
				l = append(l, chanceOp(r, registers))
			}
			wantTold(t, l, units(chanceTable(r), 1+r.Intn(8), 1+r.Intn(8), 1+r.Intn(8), 1+r.Intn(8)))
		}
	}
}

func TestNothingThatIsHandedInIsChanged(t *testing.T) {
	r := rand.New(rand.NewSource(37))
	for range 1500 {
		l := append(chanceBody(r, 14), stores(1, 2, 3), loads(1, 1, 4), api.Op{Do: -5, D: 255, A: 255, B: 255, Imm: math.MinInt64})
		room := l[:cap(l)]
		before := slices.Clone(room)
		part, m := l[:r.Intn(len(l)+1)], chanceTable(r)
		for name, call := range calls() {
			if call(part, m); !slices.Equal(room, before) {
				t.Fatalf("by %s %v became %v", name, before, room)
			}
		}
	}
}

// Nothing is kept: what the caller changes in his body is seen by the next call.
func TestLaterChangesAreSeen(t *testing.T) {
	l := list(multiplies(1, 1, 8), moves(2, 9), prints(3))
	wantAll(t, l, example(), 1, 3, 3)
	l[0].A = 8
	wantAll(t, l, example(), 1, 1, 2)
	l[1].A = 1
	wantAll(t, l, example(), 1, 3, 3)
	l[1] = api.Op{Do: api.Halt}
	wantRefused(t, l, example(), api.ErrOp)
	l[1] = multiplies(2, 1, 1)
	l[0].A = 2
	wantAll(t, l, example(), 2, 6, 6)
	wantRefused(t, l, units(example(), 1, 0, 1, 1), api.ErrNoUnit)
}

// Who asks at the same time, of the same body, gets the same answers.
func TestAskedAtTheSameTime(t *testing.T) {
	r := rand.New(rand.NewSource(5))
	var l []api.Op
	for range 40 {
		l = append(l, chanceOp(r, 32))
	}
	units, rounds, e := wantTold(t, l, example())
	if e != api.OK {
		t.Fatal(e)
	}
	done := make(chan bool)
	for range 8 {
		go func() {
			well := true
			for range 20 {
				u, e := Units(l, example())
				v, f := Rounds(l, example())
				w, g := Least(l, example())
				well = well && e == api.OK && f == api.OK && g == api.OK && u == units && v == rounds && w == max(u, v, 2)
			}
			done <- well
		}()
	}
	for range 8 {
		if !<-done {
			t.Error("another answer")
		}
	}
}

func FuzzBounds(f *testing.F) {
	f.Add([]byte{2, 1, 2, 3, 0, 12, 4, 1, 1, 0, 17, 0, 4, 0, 0}, []byte{1, 1, 1, 1, 1, 3, 2, 1, 1, 2, 1, 1, 1})
	f.Add([]byte{16, 0, 1, 2, 8, 15, 3, 1, 0, 9, 13, 1, 1, 2, 0}, []byte{2, 1, 1, 0, 8, 1, 7, 7, 4, 3, 2, 1, 4})
	f.Add([]byte{18, 0, 0, 0, 1}, []byte{0, 9})
	f.Fuzz(func(t *testing.T, data, numbers []byte) {
		m := example()
		places := []*int{}
		for _, row := range []*[api.Classes]int{&m.Units, &m.Lat, &m.Busy} {
			for class := range row {
				places = append(places, &row[class])
			}
		}
		for n, place := range append(places, &m.Delay) {
			if n < len(numbers) {
				*place = int(int8(numbers[n]))
			}
		}
		var l []api.Op
		for ; len(data) >= 5 && len(l) < 70; data = data[5:] {
			l = append(l, api.Op{Do: int8(data[0]), D: data[1], A: data[2], B: data[3], Imm: int64(int8(data[4]))})
		}
		for _, m := range []api.Table{m, example()} {
			wantTold(t, l, m)
			wantWalked(t, l[:min(len(l), 5)], m)
		}
	})
}
