package ops

import (
	"math"
	"slices"
	"strings"
	"testing"

	"hayloft/api"
)

// row is a line of the chapter's table, written out once more: the fields that
// count in their order, b for a B that is a number.
type row struct {
	do     int8
	number int
	name   string
	class  int
	fields string
}

var chapter = []row{
	{api.Nop, 0, "nop", -1, ""},
	{api.Const, 1, "const", 0, "DI"},
	{api.Add, 2, "add", 0, "DAB"},
	{api.Sub, 3, "sub", 0, "DAB"},
	{api.And, 4, "and", 0, "DAB"},
	{api.Or, 5, "or", 0, "DAB"},
	{api.Xor, 6, "xor", 0, "DAB"},
	{api.Shl, 7, "shl", 0, "DAB"},
	{api.Shr, 8, "shr", 0, "DAB"},
	{api.Less, 9, "less", 0, "DAB"},
	{api.Equal, 10, "equal", 0, "DAB"},
	{api.Move, 11, "move", 0, "DA"},
	{api.Times, 12, "times", 1, "DAB"},
	{api.Divide, 13, "divide", 1, "DAB"},
	{api.Rest, 14, "rest", 1, "DAB"},
	{api.Load, 15, "load", 2, "DAI"},
	{api.Store, 16, "store", 2, "ABI"},
	{api.Print, 17, "print", 2, "A"},
	{api.Jump, 18, "jump", 3, "I"},
	{api.Branch, 19, "branch", 3, "AI"},
	{api.Halt, 20, "halt", 3, "A"},
	{api.Count, 21, "count", 3, "AI"},
	{api.Short, 22, "short", 3, "AbI"},
	{api.Again, 23, "again", 3, "I"},
}

// wrongKinds are numbers of no kind; as bytes and after a shift some would look like one.
var wrongKinds = []int8{-128, -127, -105, -104, -24, -23, -2, -1, 24, 25, 31, 32, 64, 66, 127}

func (r row) has(field string) bool { return strings.Contains(r.fields, field) }
func (r row) hasB() bool            { return r.has("B") || r.has("b") }

// with answers an operation of this kind whose fields that count are handed in.
func (r row) with(d, a, b uint8, imm int64) api.Op {
	o := api.Op{Do: r.do}
	if r.has("D") {
		o.D = d
	}
	if r.has("A") {
		o.A = a
	}
	if r.hasB() {
		o.B = b
	}
	if r.has("I") {
		o.Imm = imm
	}
	return o
}

// refused says what every call answers of what is no operation.
func refused(t *testing.T, o api.Op) {
	t.Helper()
	if e := Check(o); e != api.ErrOp {
		t.Errorf("Check(%+v) is %v, want ErrOp", o, e)
	}
	if d, ok := Writes(o); d != 0 || ok {
		t.Errorf("Writes(%+v) is %d, %v", o, d, ok)
	}
	if l := Reads(o); len(l) != 0 {
		t.Errorf("Reads(%+v) is %v", o, l)
	}
	if s, e := Text(o); s != "" || e != api.ErrOp {
		t.Errorf("Text(%+v) is %q, %v", o, s, e)
	}
}

func taken(t *testing.T, o api.Op) {
	t.Helper()
	if e := Check(o); e != api.OK {
		t.Errorf("Check(%+v) is %v, want OK", o, e)
	}
	if s, e := Text(o); s == "" || e != api.OK {
		t.Errorf("Text(%+v) is %q, %v", o, s, e)
	}
}

func TestEveryKindIsInTheChaptersTable(t *testing.T) {
	if len(chapter) != api.Kinds {
		t.Fatalf("the test knows %d kinds, api %d", len(chapter), api.Kinds)
	}
	for i, r := range chapter {
		if r.number != i || int(r.do) != i {
			t.Errorf("%s is %d, in the chapter %d", r.name, r.do, r.number)
		}
	}
}

func TestCheckOfKinds(t *testing.T) {
	for _, r := range chapter {
		taken(t, api.Op{Do: r.do})
	}
	for _, do := range wrongKinds {
		refused(t, api.Op{Do: do})
		refused(t, api.Op{Do: do, D: 1, A: 2, B: 3, Imm: 4})
	}
	for n := -128; n <= 127; n++ {
		if got, want := Check(api.Op{Do: int8(n)}) == api.OK, 0 <= n && n <= 23; got != want {
			t.Errorf("Check of Do %d is OK: %v", n, got)
		}
	}
}

func TestCheckOfEveryRegistersNumber(t *testing.T) {
	for _, r := range chapter {
		for n := range 256 {
			for _, x := range []struct {
				o      api.Op
				counts bool
			}{
				{api.Op{Do: r.do, D: uint8(n)}, r.has("D")},
				{api.Op{Do: r.do, A: uint8(n)}, r.has("A")},
				{api.Op{Do: r.do, B: uint8(n)}, r.hasB()},
			} {
				if n == 0 || x.counts && n <= 31 {
					taken(t, x.o)
				} else {
					refused(t, x.o)
				}
			}
		}
	}
}

func TestCheckOfImm(t *testing.T) {
	inside := []int64{-1 << 31, -1<<31 + 1, -1 << 16, -2, -1, 1, 2, 255, 256, 1 << 16, 1<<31 - 2, 1<<31 - 1}
	outside := []int64{math.MinInt64, math.MinInt64 + 1, -1 << 32, -1<<31 - 2, -1<<31 - 1, 1 << 31, 1<<31 + 1, 1<<32 - 1, 1 << 32, 1<<32 + 1, 1 << 40, math.MaxInt64 - 1, math.MaxInt64}
	for _, r := range chapter {
		taken(t, api.Op{Do: r.do})
		for _, n := range inside {
			if o := (api.Op{Do: r.do, Imm: n}); r.has("I") {
				taken(t, o)
			} else {
				refused(t, o)
			}
		}
		for _, n := range outside {
			refused(t, api.Op{Do: r.do, Imm: n})
			full := r.with(31, 31, 31, n)
			full.Imm = n
			refused(t, full)
		}
	}
}

func TestCheckTakesAllFieldsThatCountTogether(t *testing.T) {
	for _, r := range chapter {
		for _, n := range []uint8{1, 17, 31} {
			o := r.with(n, n, n, -1<<31)
			taken(t, o)
			if !r.has("D") {
				x := o
				x.D = 1
				refused(t, x)
			}
			if !r.has("A") {
				x := o
				x.A = 1
				refused(t, x)
			}
			if !r.hasB() {
				x := o
				x.B = 1
				refused(t, x)
			}
			if !r.has("I") {
				x := o
				x.Imm = 1
				refused(t, x)
			}
		}
		if r.fields != "" && r.fields != "I" {
			refused(t, r.with(32, 32, 32, 0))
		}
	}
}

func TestClass(t *testing.T) {
	for _, r := range chapter {
		c, ok := Class(r.do)
		if want := r.class >= 0; ok != want || c != max(r.class, 0) {
			t.Errorf("Class of %s is %d, %v", r.name, c, ok)
		}
	}
	for n := -128; n <= 127; n++ {
		if c, ok := Class(int8(n)); (n < 1 || n > 23) && (c != 0 || ok) {
			t.Errorf("Class(%d) is %d, %v", n, c, ok)
		}
	}
}

func TestReadsAndWritesOfEveryKind(t *testing.T) {
	for _, r := range chapter {
		for d := range uint8(32) {
			got, ok := Writes(r.with(d, 5, 6, 7))
			if want := r.has("D"); ok != want || want && got != d || !want && got != 0 {
				t.Errorf("Writes of %s with D %d is %d, %v", r.name, d, got, ok)
			}
		}
		for a := range uint8(32) {
			for b := range uint8(32) {
				o := r.with(9, a, b, 7)
				if got, want := Reads(o), r.reads(a, b); !slices.Equal(got, want) {
					t.Fatalf("Reads(%+v) is %v, want %v", o, got, want)
				}
			}
		}
	}
}

// reads answers, by the letters of the row, which registers are read.
func (r row) reads(a, b uint8) []uint8 {
	var l []uint8
	if r.has("A") {
		l = append(l, a)
	}
	if r.has("B") && !slices.Contains(l, b) {
		l = append(l, b)
	}
	return l
}

func TestAtMostThreeRegistersAreTouched(t *testing.T) {
	for _, r := range chapter {
		o := r.with(1, 2, 3, 4)
		touched := Reads(o)
		if d, ok := Writes(o); ok {
			touched = append(touched, d)
		}
		if len(touched) > 3 {
			t.Errorf("%s touches %v", r.name, touched)
		}
	}
}

func TestReadsAreTheCallersOwn(t *testing.T) {
	for _, r := range chapter {
		o := r.with(1, 2, 3, 4)
		want := r.reads(2, 3)
		first := Reads(o)
		second := Reads(o)
		for i := range first {
			first[i] = 30
		}
		longer := append(first, 29)
		if !slices.Equal(second, want) || !slices.Equal(Reads(o), want) {
			t.Errorf("Reads of %s show what the caller wrote", r.name)
		}
		if cap(first) != len(first) {
			t.Errorf("Reads of %s leave room for %v behind their end", r.name, longer)
		}
	}
}

func TestReadsLeaveNoRoomForWhatWasNotRead(t *testing.T) {
	for _, o := range []api.Op{{Do: api.Short, A: 4, B: 5}, {Do: api.Add, A: 2, B: 2}, {Do: api.Jump}, {Do: api.Print, A: 3}} {
		if l := Reads(o); cap(l) != len(l) {
			t.Errorf("Reads(%+v) is %v, with room for %d", o, l, cap(l))
		}
	}
}

func TestChaptersExamplesOfFields(t *testing.T) {
	refused(t, api.Op{Do: api.Add, Imm: 1})
	refused(t, api.Op{Do: 24})
	refused(t, api.Op{Do: api.Const, D: 32})
	if l := Reads(api.Op{Do: api.Add, D: 1, A: 2, B: 2}); !slices.Equal(l, []uint8{2}) {
		t.Error(l)
	}
	if l := Reads(api.Op{Do: api.Short, A: 4, B: 5}); !slices.Equal(l, []uint8{4}) {
		t.Error(l)
	}
	if d, ok := Writes(api.Op{Do: api.Store, A: 1, B: 2}); d != 0 || ok {
		t.Error(d, ok)
	}
}
