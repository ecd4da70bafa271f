/- What package ops writes of an operation (digits, register), read off the program by the walk. Conditions: the table of powers lies in memory as the library lays it. -/
import Derived.Test.YthjpddjfckdefaaGreatDoorKd
import Derived.Test.YthjpddjfckdefaaGreatDoorShelf
import Derived.Deep.AppendLies
import Derived.Lib.AppendIntMem
namespace Go.Proofs.YthjpddjfckdefaaGreatDoor.Op
open Go.ChangeShapes Go.WideShapes Go.ChangeAt Go.RowKit
set_option maxRecDepth 20000

/-- The library's table of powers lies in memory. -/
def Pow (w : World) : Prop := Lib.TabIs Tryz.prog w "internal/strconv.uint64pow10" .u64 Lib.pow10Tab
theorem Pow.bl {w w' : World} (h : Pow w) (hb : Below w.heap.size w w') : Pow w' := Lib.tabBelow_of_tabIs h w' hb
theorem Pow.al {w : World} (h : Pow w) (o : Obj) : Pow (w.alloc o) := h.bl ((Below.refl _ _).alloc (Nat.le_refl _) o)

theorem dec_len : ∀ (n u : Nat), u < 10 ^ (n + 1) → (Lib.decDigits u).length ≤ n + 1
  | 0, u, h => by rw [Lib.decDigits, dif_pos (by simpa using h)]; simp
  | n + 1, u, h => by
    rw [Lib.decDigits]
    split
    · simp
    · have := dec_len n (u / 10) (by rw [Nat.pow_succ] at h; omega)
      simp; omega
theorem itoa_len (n : Int) (h0 : -9223372036854775808 ≤ n) (h1 : n ≤ 9223372036854775807) : (Lib.itoa n).length ≤ 20 := by
  unfold Lib.itoa
  split
  · have := dec_len 18 n.natAbs (by omega)
    simp; omega
  · have := dec_len 18 n.toNat (by omega)
    omega
theorem cat_rule (a b : ByteArray) (n m : Nat) (ha : a.size ≤ n) (hb : b.size ≤ m) (h : n + m ≤ 1000000) :
    ∃ c : ByteArray, c.data.toList = a.data.toList ++ b.data.toList ∧ c.size ≤ n + m ∧ ∀ (P : Program) (w : World), (Op.stringOp .add a b).run P w = .ok (.string c) w :=
  ⟨a ++ b, by rw [ByteArray.data_append, Array.toList_append], by rw [ByteArray.size_append]; omega, fun P w => run_string_add_sum (P := P) w a b (by omega)⟩
theorem ba_eq {a : ByteArray} {l : List UInt8} (h : a.data.toList = l) : a = ⟨l.toArray⟩ := by
  cases a with | mk d => subst h; simp
theorem ba_size (l : List UInt8) : (⟨l.toArray⟩ : ByteArray).size = l.length := by simp [ByteArray.size]
/-- a number's digits, a register's word -/
def itS (n : Int) : ByteArray := ⟨(Lib.itoa n).toArray⟩
def regS (n : Int) : ByteArray := ⟨(114 :: Lib.itoa n).toArray⟩

theorem digits_any (n : Int) (w : World) (hE : Pow w) (h0 : -9223372036854775808 ≤ n) (h1 : n ≤ 9223372036854775807) :
    Calls Tryz.prog 65 #[.int .i64 n] w fun e w' => e = .returned (.string (itS n)) ∧ Below w.heap.size w w' := by
  have H : Hid _ := Tryz.strconv_FormatInt_10 n h0 h1 w hE
  clear hE h0 h1
  go_enter Tryz.func65, Tryz.ntmps65
  go_wp2_with (first | (go_at_call 81; refine Calls.mono H.out ?_; rintro e w' ⟨rfl, k, os, rfl⟩))
  go_ret
  exact ⟨rfl, Lib.below_grow _ _ (Nat.le_refl _) _ _⟩
theorem register_any (n : Int) (w : World) (hE : Pow w) (h0 : 0 ≤ n) (h1 : n ≤ 255) :
    Calls Tryz.prog 64 #[.int .u8 n] w fun e w' => e = .returned (.string (regS n)) ∧ Below w.heap.size w w' := by
  have H : Hid _ := digits_any n w hE (by omega) (by omega)
  have hl := itoa_len n (by omega) (by omega)
  obtain ⟨c, hc, hz, hr⟩ := cat_rule ⟨#[114]⟩ (itS n) 1 20 (by decide) (by rw [itS, ba_size]; exact hl) (by omega)
  have hcr : c = regS n := ba_eq (by rw [hc]; simp [itS])
  rw [hcr] at hr
  clear hE hl hc hz hcr
  go_enter Tryz.func64, Tryz.ntmps64
  go_wp2_with (first | (go_at_call 65; refine Calls.mono H.out ?_; rintro e w' ⟨rfl, hb⟩))
  go_ret
  exact ⟨rfl, hb⟩

/-- The words of an operation. -/
def wordsS (k : K) (o : O) : List ByteArray :=
  [k.s] ++ (if k.D then [regS o.d] else []) ++ (if k.A then [regS o.a] else []) ++ (if k.B then [regS o.b] else if k.N then [itS o.b] else []) ++ (if k.I then [itS o.im] else [])

def strs (xs : List ByteArray) : List Value := xs.map Value.string
/-- Where words stands: the two boxes, and the row of words so far. -/
structure Ws (w0 : World) (k : K) (o : O) (w : World) (v : Value) (xs : List ByteArray) : Prop where
  kAt : At w w0.heap.size #[.string k.s, .int .i8 k.cls, .int .u8 k.fields]
  oAt : At w (w0.heap.size + 1) o.cells
  own : w.ownsRow (w0.heap.size + 2) 9 1 v xs.length (strs xs)
  bel : Below w0.heap.size w0 w
theorem Ws.begin (w0 : World) (k : K) (o : O) (s : ByteArray) : Ws w0 k o (((w0.alloc (.cells #[.string k.s, .int .i8 k.cls, .int .u8 k.fields] 102)).alloc (.cells o.cells 46)).alloc (.cells #[.string s] 9)) (.slice (some ⟨w0.heap.size + 2, 0, none⟩) 1 1) [s] := by
  have h2 := At.new (w0.alloc (.cells #[.string k.s, .int .i8 k.cls, .int .u8 k.fields] 102)) o.cells 46
  rw [show (w0.alloc (.cells #[.string k.s, .int .i8 k.cls, .int .u8 k.fields] 102)).heap.size = w0.heap.size + 1 by simp] at h2
  refine ⟨((At.new w0 _ 102).alloc _).alloc _, h2.alloc _, ?_, by go_grown⟩
  have := World.ownsRow_lit (base := w0.heap.size + 2) (e := 9) (size := 1) ((w0.alloc (.cells #[.string k.s, .int .i8 k.cls, .int .u8 k.fields] 102)).alloc (.cells o.cells 46)) #[.string s] 1 (by simp) (by decide) (by simp)
  simpa [strs] using this
theorem Ws.on {w0 : World} {k : K} {o : O} {w w' : World} {v : Value} {xs : List ByteArray} (h : Ws w0 k o w v xs) (hb : Below w.heap.size w w') : Ws w0 k o w' v xs := by
  refine ⟨h.kAt.below hb h.kAt.lt, h.oAt.below hb h.oAt.lt, h.own.kept (row := none) ⟨hb.os, hb.tape, hb.output, hb.size, fun k hk _ => hb.block k hk⟩ ?_, h.bel.trans (hb.mono h.bel.size)⟩
  cases v.ownBlock <;> simp
theorem Ws.put {w0 : World} {k : K} {o : O} {w w1 : World} {v v1 : Value} {xs : List ByteArray} {s : ByteArray} {ob : Obj} (h : Ws w0 k o w v xs) (hown : w1.ownsRow (w0.heap.size + 2) 9 1 v1 (xs.length + 1) (strs xs ++ [.string s])) (hg : (w.alloc ob).grownBy w1 v.ownBlock) :
    Ws w0 k o w1 v1 (xs ++ [s]) := by
  have hb : Below (w0.heap.size + 2) w w1 := ((Below.refl _ w).alloc (by have := h.oAt.lt; omega) ob).grown hg (by have := h.oAt.lt; simp; omega) (fun b hb => (h.own.lt b hb).1)
  refine ⟨h.kAt.below hb (by omega), h.oAt.below hb (by omega), ?_, h.bel.trans (hb.mono (by omega))⟩
  simpa [strs] using hown
theorem info9 : (Tryz.prog.info? 9).map (fun i => (i.zero, i.size, i.bytes)) = some (some (.string ⟨#[]⟩), 1, 16) := by kernel_rfl
end Go.Proofs.YthjpddjfckdefaaGreatDoor.Op
