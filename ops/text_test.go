package ops

import (
	"fmt"
	"testing"

	"hayloft/api"
)

func TestTextOfEveryKind(t *testing.T) {
	// D 1, A 2, B 3, Imm -4, as far as they count.
	want := []string{
		"nop", "const r1 -4", "add r1 r2 r3", "sub r1 r2 r3", "and r1 r2 r3", "or r1 r2 r3", "xor r1 r2 r3",
		"shl r1 r2 r3", "shr r1 r2 r3", "less r1 r2 r3", "equal r1 r2 r3", "move r1 r2",
		"times r1 r2 r3", "divide r1 r2 r3", "rest r1 r2 r3",
		"load r1 r2 -4", "store r2 r3 -4", "print r2",
		"jump -4", "branch r2 -4", "halt r2", "count r2 -4", "short r2 3 -4", "again -4",
	}
	for i, r := range chapter {
		if s, e := Text(r.with(1, 2, 3, -4)); s != want[i] || e != api.OK {
			t.Errorf("Text of %s is %q, %v, want %q", r.name, s, e, want[i])
		}
	}
}

func TestChaptersExamplesOfText(t *testing.T) {
	for _, x := range []struct {
		o    api.Op
		want string
	}{
		{api.Op{Do: api.Add, D: 1, A: 2, B: 3}, "add r1 r2 r3"},
		{api.Op{Do: api.Load, D: 1, A: 2, Imm: -8}, "load r1 r2 -8"},
		{api.Op{Do: api.Short, A: 4, B: 5, Imm: 9}, "short r4 5 9"},
		{api.Op{Do: api.Const, D: 31, Imm: -1 << 31}, "const r31 -2147483648"},
		{api.Op{Do: api.Const, D: 10, Imm: 1<<31 - 1}, "const r10 2147483647"},
		{api.Op{Do: api.Const}, "const r0 0"},
		{api.Op{Do: api.Short, A: 31, B: 31, Imm: -1}, "short r31 31 -1"},
		{api.Op{Do: api.Short}, "short r0 0 0"},
		{api.Op{Do: api.Store, A: 31}, "store r31 r0 0"},
		{api.Op{}, "nop"},
	} {
		if s, e := Text(x.o); s != x.want || e != api.OK {
			t.Errorf("Text(%+v) is %q, %v, want %q", x.o, s, e, x.want)
		}
	}
}

func TestTextByTheChaptersTable(t *testing.T) {
	for _, r := range chapter {
		for n := range uint8(32) {
			imm := int64(n)*69273666 - 1<<30
			want := r.name
			for _, field := range r.fields {
				switch field {
				case 'D':
					want += fmt.Sprintf(" r%d", n)
				case 'A':
					want += fmt.Sprintf(" r%d", 31-n)
				case 'B':
					want += fmt.Sprintf(" r%d", n/2)
				case 'b':
					want += fmt.Sprintf(" %d", n/2)
				case 'I':
					want += fmt.Sprintf(" %d", imm)
				}
			}
			if s, e := Text(r.with(n, 31-n, n/2, imm)); s != want || e != api.OK {
				t.Errorf("Text is %q, %v, want %q", s, e, want)
			}
		}
	}
}

// No two operations have the same text, so none can be read as another one.
func TestTextsAreTold(t *testing.T) {
	seen := map[string]api.Op{}
	for _, r := range chapter {
		for _, d := range []uint8{0, 1, 11} {
			for _, a := range []uint8{0, 1, 11} {
				for _, b := range []uint8{0, 1, 11} {
					for _, imm := range []int64{-11, -1, 0, 1, 11} {
						o := r.with(d, a, b, imm)
						s, _ := Text(o)
						if other, ok := seen[s]; ok && other != o {
							t.Fatalf("%+v and %+v are both %q", o, other, s)
						}
						seen[s] = o
					}
				}
			}
		}
	}
}

func FuzzOps(f *testing.F) {
	f.Add(int8(2), uint8(1), uint8(2), uint8(3), int64(0))
	f.Add(int8(22), uint8(0), uint8(4), uint8(5), int64(9))
	f.Add(int8(24), uint8(0), uint8(0), uint8(0), int64(1<<31))
	f.Fuzz(func(t *testing.T, do int8, d, a, b uint8, imm int64) {
		o := api.Op{Do: do, D: d, A: a, B: b, Imm: imm}
		if do < 0 || do > 23 {
			refused(t, o)
			return
		}
		r := chapter[do]
		if r.with(d, a, b, imm) != o || d > 31 || a > 31 || b > 31 || imm < -1<<31 || imm > 1<<31-1 {
			refused(t, o)
		} else {
			taken(t, o)
		}
	})
}
