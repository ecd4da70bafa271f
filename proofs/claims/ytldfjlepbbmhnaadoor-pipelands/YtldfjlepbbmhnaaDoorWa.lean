/- An operation's word: what package bundle makes of an operation and of a word, and the document's own; there and back. Conditions: each lemma names the bounds of its numbers. -/
import Derived.Test.YtldfjlepbbmhnaaDoorKx
import Derived.Test.YtldfjlepbbmhnaaDoorBb
import Derived.Test.YtldfjlepbbmhnaaDoorRc
import Derived.Test.YtldfjlepbbmhnaaDoorTk
import Derived.Test.YtldfjlepbbmhnaaDoorPm
namespace Go.Proofs.YtldfjlepbbmhnaaDoor.Bu
open Go.ChangeShapes Go.WideShapes Go.ChangeAt Go.RowKit
open _root_.Go.Proofs.YtldfjlepbbmhnaaDoor.Op
open _root_.Go.Proofs.YtldfjlepbbmhnaaDoor.Tb (Tab TabAt Bnds four tabAt_new ckR)
set_option maxRecDepth 20000

/-- An operation's word. -/
def wdO (o : O) : Int := o.op + o.d * 64 + o.a * 2048 + o.b * 65536 + (o.im % 4294967296) * 2097152
/-- The fields of a word. -/
def opW (x : Int) : O := ⟨x % 64, x / 64 % 32, x / 2048 % 32, x / 65536 % 32, (x / 2097152 + 2147483648) % 4294967296 - 2147483648⟩
def zO : O := ⟨0, 0, 0, 0, 0⟩
structure Fld (o : O) : Prop where
  p0 : 0 ≤ o.op
  p1 : o.op < 24
  d0 : 0 ≤ o.d
  d1 : o.d < 32
  a0 : 0 ≤ o.a
  a1 : o.a < 32
  b0 : 0 ≤ o.b
  b1 : o.b < 32
  i0 : -2147483648 ≤ o.im
  i1 : o.im ≤ 2147483647
theorem Fld.lo {o : O} (h : Fld o) : 0 ≤ wdO o := by
  obtain ⟨p0, p1, d0, d1, a0, a1, b0, b1, i0, i1⟩ := h
  unfold wdO; omega
theorem Fld.hi {o : O} (h : Fld o) : wdO o < 9007199254740992 := by
  obtain ⟨p0, p1, d0, d1, a0, a1, b0, b1, i0, i1⟩ := h
  unfold wdO; omega
theorem opW_ok (x : Int) : (opW x).Ok := by
  unfold opW
  constructor <;> simp only <;> omega

theorem or_add (x y : Int) (k : Nat) (m : Int) (hm : m = 2 ^ k) (x0 : 0 ≤ x) (x1 : x < m) (y0 : 0 ≤ y) (h : x + y * m < 18446744073709551616) : bits BinOp.or IntKind.u64 x (y * m) = x + y * m := by
  subst hm
  obtain ⟨X, rfl⟩ := Int.eq_ofNat_of_zero_le x0
  obtain ⟨Y, rfl⟩ := Int.eq_ofNat_of_zero_le y0
  rw [pow_cast k] at x1 h ⊢
  rw [← Int.natCast_mul] at h ⊢
  have hx : X < 2 ^ k := by omega
  have hc : X < 2 ^ 64 := by omega
  have hd : Y * 2 ^ k < 2 ^ 64 := by omega
  rw [u64_or_nat X (Y * 2 ^ k) (by omega) (by omega), ← Int.natCast_add]
  congr 1
  rw [Nat.or_comm, Nat.mul_comm, ← Nat.two_pow_add_eq_or_of_lt hx, Nat.add_comm]

theorem word_sum (p d a b i : Int) (p0 : 0 ≤ p) (p1 : p < 24) (d0 : 0 ≤ d) (d1 : d < 32) (a0 : 0 ≤ a) (a1 : a < 32) (b0 : 0 ≤ b) (b1 : b < 32) (i0 : 0 ≤ i) (i1 : i < 4294967296) :
    bits BinOp.or IntKind.u64 (bits BinOp.or IntKind.u64 (bits BinOp.or IntKind.u64 (bits BinOp.or IntKind.u64 p (d * 64)) (a * 2048)) (b * 65536)) (i * 2097152) = p + d * 64 + a * 2048 + b * 65536 + i * 2097152 := by
  rw [or_add p d 6 64 rfl (by omega) (by omega) d0 (by omega), or_add _ a 11 2048 rfl (by omega) (by omega) a0 (by omega), or_add _ b 16 65536 rfl (by omega) (by omega) b0 (by omega), or_add _ i 21 2097152 rfl (by omega) (by omega) i0 (by omega)]
theorem wordOf_any (o : O) (w : World) (h : Fld o) :
    Calls Tryd.prog 57 #[o.val] w fun e w' => e = .returned (.int .u64 (wdO o)) ∧ Below w.heap.size w w' := by
  obtain ⟨p0, p1, d0, d1, a0, a1, b0, b1, i0, i1⟩ := h
  obtain ⟨p, d, a, b, i⟩ := o
  simp only at p0 p1 d0 d1 a0 a1 b0 b1 i0 i1
  go_enter Tryd.func57, Tryd.ntmps57
  go_wp2
  go_ret
  exact ⟨ret_int (word_sum p d a b _ p0 p1 d0 d1 a0 a1 b0 b1 (by omega) (by omega)), by go_grown⟩

theorem getI_is (x : Int) (a n : Nat) (x0 : 0 ≤ x) (h : fieldB a n = true) : getI x a n = x / 2 ^ a % 2 ^ n := by
  obtain ⟨X, rfl⟩ := Int.eq_ofNat_of_zero_le x0
  unfold getI getN
  rw [if_pos h]
  simp
theorem get0 {x : Int} (x0 : 0 ≤ x) : getI x 0 6 = x % 64 := by have := getI_is x 0 6 x0 rfl; simpa using this
theorem get6 {x : Int} (x0 : 0 ≤ x) : getI x 6 5 = x / 64 % 32 := getI_is x 6 5 x0 rfl
theorem get11 {x : Int} (x0 : 0 ≤ x) : getI x 11 5 = x / 2048 % 32 := getI_is x 11 5 x0 rfl
theorem get16 {x : Int} (x0 : 0 ≤ x) : getI x 16 5 = x / 65536 % 32 := getI_is x 16 5 x0 rfl
theorem wrap_imm (y : Int) : wrap64 (wrap32 y) = (y + 2147483648) % 4294967296 - 2147483648 := by
  have e1 : wrap32 y = (y + 2147483648) % 4294967296 - 2147483648 := by simp only [wrap32]
  have e2 : ∀ z, wrap64 z = (z + 9223372036854775808) % 18446744073709551616 - 9223372036854775808 := fun z => by simp only [wrap64]
  rw [e1, e2]; omega
theorem opOf_no (x : Int) (w : World) (x0 : 0 ≤ x) (x1 : x < 18446744073709551616) (h : 9007199254740992 ≤ x) :
    Calls Tryd.prog 78 #[.int .u64 x] w fun e w' => e = .returned (.tuple #[zO.val, .bool false]) ∧ Below w.heap.size w w' := by
  have h1 : (x / 9007199254740992 != 0) = true := by rw [bne_iff_ne]; omega
  go_enter Tryd.func78, Tryd.ntmps78
  go_wp2
  refine bodyPost_ret (v := .tuple #[zO.val, .bool false]) (by simp [results, Tryd.results78, go_sem, zO]) rfl ⟨rfl, by go_grown⟩
theorem opOf_yes (x : Int) (w : World) (x0 : 0 ≤ x) (x1 : x < 18446744073709551616) (h : x < 9007199254740992) :
    Calls Tryd.prog 78 #[.int .u64 x] w fun e w' => e = .returned (.tuple #[(opW x).val, .bool true]) ∧ Below w.heap.size w w' := by
  have h1 : (x / 9007199254740992 != 0) = false := by rw [bne_eq_false_iff_eq]; omega
  have g0 : ∀ w, Calls Tryd.prog 58 #[.int .u64 x, .int .i64 0, .int .i64 6] w fun e w' => e = .returned (.int .u64 (x % 64)) ∧ w' = w := fun w => by rw [← get0 x0]; exact get_any x 0 6 w x0 x1
  have g6 : ∀ w, Calls Tryd.prog 58 #[.int .u64 x, .int .i64 6, .int .i64 5] w fun e w' => e = .returned (.int .u64 (x / 64 % 32)) ∧ w' = w := fun w => by rw [← get6 x0]; exact get_any x 6 5 w x0 x1
  have g11 : ∀ w, Calls Tryd.prog 58 #[.int .u64 x, .int .i64 11, .int .i64 5] w fun e w' => e = .returned (.int .u64 (x / 2048 % 32)) ∧ w' = w := fun w => by rw [← get11 x0]; exact get_any x 11 5 w x0 x1
  have g16 : ∀ w, Calls Tryd.prog 58 #[.int .u64 x, .int .i64 16, .int .i64 5] w fun e w' => e = .returned (.int .u64 (x / 65536 % 32)) ∧ w' = w := fun w => by rw [← get16 x0]; exact get_any x 16 5 w x0 x1
  have H0 : Hid _ := g0
  have H6 : Hid _ := g6
  have H11 : Hid _ := g11
  have H16 : Hid _ := g16
  clear g0 g6 g11 g16
  go_enter Tryd.func78, Tryd.ntmps78
  go_wp2_with (first | (have hh := H0.out; go_at_call 58; refine Calls.mono (H0.out _) ?_; rintro e w1 ⟨rfl, rfl⟩; clear H0) | (have hh := H6.out; go_at_call 58; refine Calls.mono (H6.out _) ?_; rintro e w1 ⟨rfl, rfl⟩; clear H6) | (have hh := H11.out; go_at_call 58; refine Calls.mono (H11.out _) ?_; rintro e w1 ⟨rfl, rfl⟩; clear H11) | (go_at_call 58; refine Calls.mono (H16.out _) ?_; rintro e w1 ⟨rfl, rfl⟩; clear H16))
  refine bodyPost_ret (v := .tuple #[(opW x).val, .bool true]) (by simp [results, Tryd.results78, go_sem, opW, wrap_imm]) rfl ⟨rfl, by go_grown⟩

def isB (c : Int) (o : O) : Bool := clB o.op && (clV o.op == c) && okO o
theorem ckE0 (o : O) : (ckE o == 0) = okO o := by unfold ckE; cases okO o <;> rfl
theorem isOf_any (o : O) (c : Int) (w : World) (ho : o.Ok) :
    Calls Tryd.prog 70 #[o.val, .int .i64 c] w fun e w' => e = .returned (.bool (isB c o)) ∧ Below w.heap.size w w' := by
  have HC : Hid (∀ W, Calls Tryd.prog 20 #[.int .i8 o.op] W fun e w' => e = .returned (.tuple #[.int .i64 (clV o.op), .bool (clB o.op)]) ∧ Below W.heap.size W w') := fun W => class_any o.op W ho.op0 ho.op1
  have HK : Hid (∀ W, Calls Tryd.prog 87 #[o.val] W fun e w' => e = .returned (.int .i64 (ckE o)) ∧ Below W.heap.size W w') := fun W => check_any o W ho
  have HR : Hid (isB c o = (clB o.op && (clV o.op == c) && (ckE o == 0))) := by rw [ckE0]; rfl
  obtain ⟨r, hr⟩ : ∃ r, isB c o = r := ⟨_, rfl⟩
  rw [hr] at HR ⊢
  clear hr ho
  generalize clV o.op = v at *
  generalize ckE o = ke at *
  cases hB : clB o.op
  · rw [hB] at HC HR
    go_enter Tryd.func70, Tryd.ntmps70
    go_wp2_with (first | (go_at_call 20; refine Calls.mono (HC.out _) ?_; rintro e w1 ⟨rfl, hb⟩; obtain ⟨-, hb0, hz⟩ := one_new w _ _ hb; have HB : Hid (Below w.heap.size w w1) := hb0; clear hb hb0))
    go_ret
    exact ⟨ret_bool (by rw [HR.out]; rfl), HB.out⟩
  · rw [hB] at HC HR
    by_cases hc : v = c
    · subst hc
      go_enter Tryd.func70, Tryd.ntmps70
      go_wp2_with (first | (go_at_call 20; refine Calls.mono (HC.out _) ?_; rintro e w1 ⟨rfl, hb⟩; obtain ⟨a1, hb0, hz⟩ := one_new w _ _ hb; have HB : Hid (Below w.heap.size w w1) := hb0; obtain ⟨o0, o1, o2, o3, o4⟩ := a1.o5; clear hb hb0 a1) | (go_at_call 87; refine Calls.mono (HK.out _) ?_; rintro e w2 ⟨rfl, hb⟩; have HB2 : Hid (Below w.heap.size w w2) := HB.out.trans (hb.mono HB.out.size); clear hb))
      go_ret
      exact ⟨ret_bool (by rw [HR.out]; simp), HB2.out⟩
    · have hc' : (v == c) = false := by simpa using hc
      go_enter Tryd.func70, Tryd.ntmps70
      go_wp2_with (first | (go_at_call 20; refine Calls.mono (HC.out _) ?_; rintro e w1 ⟨rfl, hb⟩; obtain ⟨-, hb0, hz⟩ := one_new w _ _ hb; have HB : Hid (Below w.heap.size w w1) := hb0; clear hb hb0))
      go_ret
      exact ⟨ret_bool (by rw [HR.out, hc']; rfl), HB.out⟩
end Go.Proofs.YtldfjlepbbmhnaaDoor.Bu
