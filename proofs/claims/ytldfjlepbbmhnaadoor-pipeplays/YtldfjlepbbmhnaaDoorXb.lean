/- More of the document's own layers. Conditions: none. -/
import Derived.Test.YtldfjlepbbmhnaaDoorXa
import Derived.Test.YtldfjlepbbmhnaaDoorQq
namespace Go.Proofs.YtldfjlepbbmhnaaDoor.Op
open Go.RowKit
def getTo (x a n : Int) (k : Nat) : Int := ((getN x.toNat (a.toNat + k) (n.toNat - k) : Nat) : Int)
def sgTo (x c : Int) (k : Nat) : Int := sg (x / 2 ^ k) (c.toNat - k)
theorem bit_form (x : Int) (k : Nat) (x0 : 0 ≤ x) (x1 : x < 18446744073709551616) :
    bits BinOp.and IntKind.u64 (x / 2 ^ k) 1 = x / 2 ^ k % 2 := by
  obtain ⟨X, rfl⟩ := Int.eq_ofNat_of_zero_le x0
  have hq : X / 2 ^ k ≤ X := Nat.div_le_self _ _
  rw [pow_cast, ← Int.natCast_ediv, show (1 : Int) = ((1 : Nat) : Int) from rfl, u64_and_nat _ _ (by omega) (by omega), nat_mask1]
  omega
theorem get_round (x a n : Int) (k : Nat) (x0 : 0 ≤ x) (x1 : x < 18446744073709551616)
    (h2 : n ≤ 64) (h3 : 0 ≤ a) (h4 : a ≤ 64 - n) (hk : (k : Int) ≤ n) (h1 : 1 ≤ (k : Int)) :
    IntKind.u64.wrap (IntKind.u64.wrap (getTo x a n k * 2) + bits BinOp.and IntKind.u64 (x / 2 ^ (a + ((k : Int) - 1)).toNat) 1) = getTo x a n (k - 1) := by
  rw [bit_form x _ x0 x1]
  unfold getTo
  obtain ⟨X, rfl⟩ := Int.eq_ofNat_of_zero_le x0
  obtain ⟨A, rfl⟩ := Int.eq_ofNat_of_zero_le h3
  obtain ⟨j, rfl⟩ : ∃ j, k = j + 1 := ⟨k - 1, by omega⟩
  simp only [Int.toNat_natCast, Nat.add_sub_cancel]
  have hs := get_step X (A + j) (n.toNat - (j + 1))
  rw [show n.toNat - (j + 1) + 1 = n.toNat - j by omega] at hs
  have hl := getN_lt X (A + j) (n.toNat - j) (by omega)
  rw [show (A : Int) + (((j + 1 : Nat) : Int) - 1) = ((A + j : Nat) : Int) by omega, Int.toNat_natCast, pow_cast, IntKind.wrap_u64, IntKind.wrap_u64,
    show A + (j + 1) = A + j + 1 by omega]
  have e : ((X : Int) / ((2 ^ (A + j) : Nat) : Int) % 2) = ((X / 2 ^ (A + j) % 2 : Nat) : Int) := by simp
  rw [e]
  omega
theorem sg_first (x n : Int) (x0 : 0 ≤ x) (x1 : x < 18446744073709551616) (h1 : 1 ≤ n) :
    wrap64 (-wrap64 (bits BinOp.and IntKind.u64 (x / 2 ^ (n.toNat - 1)) 1)) = sgTo x n (n.toNat - 1) := by
  rw [bit_form x _ x0 x1]
  unfold sgTo
  rw [show n.toNat - (n.toNat - 1) = 1 by omega, sg_one]
  unfold wrap64
  omega
theorem sg_round (x n : Int) (k : Nat) (x0 : 0 ≤ x) (x1 : x < 18446744073709551616) (h2 : n ≤ 64) (hk : (k : Int) < n) (h1 : 1 ≤ (k : Int)) :
    wrap64 (wrap64 (sgTo x n k * 2) + wrap64 (bits BinOp.and IntKind.u64 (x / 2 ^ (k - 1)) 1)) = sgTo x n (k - 1) := by
  rw [bit_form x _ x0 x1]
  unfold sgTo
  obtain ⟨j, rfl⟩ : ∃ j, k = j + 1 := ⟨k - 1, by omega⟩
  rw [Nat.add_sub_cancel]
  have hs := sg_step (x / 2 ^ j) (n.toNat - (j + 1)) (by omega)
  rw [show n.toNat - (j + 1) + 1 = n.toNat - j by omega, Int.ediv_ediv_of_nonneg (Int.le_of_lt (pow_pos' j)), ← Int.pow_succ] at hs
  rw [Nat.succ_eq_add_one] at hs
  have l := sg_lo (x / 2 ^ j) (n.toNat - j)
  have g := sg_hi (x / 2 ^ j) (n.toNat - j) (by omega)
  have p := pow_le63 (n.toNat - j) (by omega)
  unfold wrap64
  omega
end Go.Proofs.YtldfjlepbbmhnaaDoor.Op

namespace Go.Proofs.YtldfjlepbbmhnaaDoor.Op
open Go.ChangeShapes Go.WideShapes Go.ChangeAt Go.RowKit
theorem one_any (a n : Int) (w : World) :
    Calls Tryd.prog 88 #[.int .i64 a, .int .i64 n] w fun e w' => e = .returned (.bool (fieldB a n)) ∧ w' = w := by
  by_cases h1 : 1 ≤ n
  · by_cases h2 : n ≤ 64
    · by_cases h3 : 0 ≤ a
      all_goals
        go_enter Tryd.func88, Tryd.ntmps88
        go_wp2
        go_ret
        refine ⟨ret_bool ?_, rfl⟩
        rw [Bool.eq_iff_iff, field_iff]; simp; omega
    · go_enter Tryd.func88, Tryd.ntmps88
      go_wp2
      go_ret
      refine ⟨ret_bool ?_, rfl⟩
      rw [Bool.eq_iff_iff, field_iff]; simp; omega
  · go_enter Tryd.func88, Tryd.ntmps88
    go_wp2
    go_ret
    refine ⟨ret_bool ?_, rfl⟩
    rw [Bool.eq_iff_iff, field_iff]; simp; omega
set_option maxRecDepth 10000 in
theorem rget_any (x a n : Int) (w : World) (x0 : 0 ≤ x) (x1 : x < 18446744073709551616) :
    Calls Tryd.prog 73 #[.int .u64 x, .int .i64 a, .int .i64 n] w fun e w' => e = .returned (.int .u64 (getI x a n)) ∧ w' = w := by
  cases h : fieldB a n
  · have H0 : getI x a n = 0 := by unfold getI; rw [if_neg (by rw [h]; decide)]
    have H : Hid (getI x a n = 0) := H0
    clear H0
    go_enter Tryd.func73, Tryd.ntmps73
    go_wp2_with (go_at_call 88; refine (one_any _ _ _).mono ?_; rintro e w' ⟨rfl, rfl⟩)
    go_ret
    exact ⟨ret_int H.out.symm, rfl⟩
  · obtain ⟨h1, h2, h3, h4⟩ := (field_iff a n).1 h
    have H0 : getTo x a n 0 = getI x a n := by unfold getI getTo; rw [if_pos h, Nat.add_zero, Nat.sub_zero]
    have H : Hid (getTo x a n 0 = getI x a n) := H0
    clear H0
    go_enter Tryd.func73, Tryd.ntmps73
    go_wp2_with (go_at_call 88; refine (one_any _ _ _).mono ?_; rintro e w' ⟨rfl, rfl⟩)
    go_loop [7, 8] (fun v i => ∃ k : Nat, (k : Int) ≤ n ∧ i = .int .i64 ((k : Int) - 1) ∧ v = .int .u64 (getTo x a n k)) (fun _ i => (intOf i + 1).toNat)
    case atStart => exact ⟨n.toNat, by omega, by rw [Int.toNat_of_nonneg (by omega)], by simp [getTo, getN, Nat.mod_one]⟩
    case round =>
      obtain ⟨k, hk, rfl, rfl⟩ := hrel
      by_cases hlt : 1 ≤ (k : Int)
      · have HR : Hid _ := get_round x a n k x0 x1 h2 h3 h4 hk hlt
        generalize hv : getTo x a n k = v at *
        clear hv
        go_wp2
        go_round
        case rel => exact ⟨k - 1, by omega, by rw [show (((k - 1 : Nat) : Int)) = (k : Int) - 1 by omega], by rw [HR.out]⟩
        case measure => simp [intOf]; omega
      · go_wp2
        go_ret
        refine ⟨ret_int ?_, rfl⟩
        rw [← H.out, show k = 0 by omega]
set_option maxRecDepth 10000 in
theorem rsigned_mid (x n : Int) (w : World) (x0 : 0 ≤ x) (x1 : x < 18446744073709551616) (h1 : 1 ≤ n) (h2 : n ≤ 64) :
    Calls Tryd.prog 74 #[.int .u64 x, .int .i64 n] w fun e w' => e = .returned (.int .i64 (sgI x n)) ∧ w' = w := by
  have H0 : sgTo x n 0 = sgI x n := by unfold sgI sgTo; rw [cl_id n h1 h2, Int.pow_zero, Int.ediv_one, Nat.sub_zero]
  have H : Hid (sgTo x n 0 = sgI x n) := H0
  have HF : Hid _ := sg_first x n x0 x1 h1
  clear H0
  go_enter Tryd.func74, Tryd.ntmps74
  go_wp2
  go_loop [5, 6] (fun v i => ∃ k : Nat, (k : Int) < n ∧ i = .int .i64 ((k : Int) - 1) ∧ v = .int .i64 (sgTo x n k)) (fun _ i => (intOf i + 1).toNat)
  case atStart =>
    have hmm : min (max n 1) 64 = n := by omega
    rw [hmm]
    exact ⟨n.toNat - 1, by omega, by rw [show (((n.toNat - 1 : Nat) : Int)) - 1 = n - 2 by omega], by rw [HF.out]⟩
  case round =>
    obtain ⟨k, hk, rfl, rfl⟩ := hrel
    by_cases hlt : 1 ≤ (k : Int)
    · have HR : Hid _ := sg_round x n k x0 x1 h2 hk hlt
      generalize hv : sgTo x n k = v at *
      clear hv
      go_wp2
      go_round
      case rel => exact ⟨k - 1, by omega, by rw [show (((k - 1 : Nat) : Int)) = (k : Int) - 1 by omega], by rw [HR.out]⟩
      case measure => simp [intOf]; omega
    · go_wp2
      go_ret
      refine ⟨ret_int ?_, rfl⟩
      rw [← H.out, show k = 0 by omega]
end Go.Proofs.YtldfjlepbbmhnaaDoor.Op

namespace Go.Proofs.YtldfjlepbbmhnaaDoor.Tb
open Go.ChangeShapes Go.WideShapes Go.ChangeAt Go.RowKit
open Go.Proofs.YtldfjlepbbmhnaaDoor.Op (ret_bool ret_int bcell Wd wp_region_in calls_in)
theorem okC_no {t : Tab} {k : Nat} (h : okC t k = false) : t.u k < 0 ∨ (0 ≤ t.u k ∧ 8 < t.u k) ∨ (0 ≤ t.u k ∧ t.u k ≤ 8 ∧ t.l k < 1) ∨ (0 ≤ t.u k ∧ t.u k ≤ 8 ∧ 1 ≤ t.l k ∧ 8 < t.l k) ∨ (0 ≤ t.u k ∧ t.u k ≤ 8 ∧ 1 ≤ t.l k ∧ t.l k ≤ 8 ∧ t.b k < 1) ∨ (0 ≤ t.u k ∧ t.u k ≤ 8 ∧ 1 ≤ t.l k ∧ t.l k ≤ 8 ∧ 1 ≤ t.b k ∧ 4 < t.b k) := by
  simp only [okC, inB, Bool.and_eq_false_iff, decide_eq_false_iff_not] at h
  omega
theorem okC_yes {t : Tab} {k : Nat} (h : okC t k = true) : 0 ≤ t.u k ∧ t.u k ≤ 8 ∧ 1 ≤ t.l k ∧ t.l k ≤ 8 ∧ 1 ≤ t.b k ∧ t.b k ≤ 4 := by
  simp only [okC, inB, Bool.and_eq_true, decide_eq_true_eq] at h
  omega
theorem ckR_d {t : Tab} (h : t.d < 0 ∨ 4 < t.d) : 20 = ckR t := by
  have : inB 0 4 t.d = false := by simp [inB]; omega
  simp [ckR, Tab.ok, this]
set_option maxHeartbeats 1000000 in
theorem refCheck_any (t : Tab) (w : World) :
    Calls Tryd.prog 42 #[t.val] w fun e w' => e = .returned (.int .i64 (ckR t)) ∧ Below w.heap.size w w' := by
  have hA := (Below.refl w.heap.size w).alloc (Nat.le_refl _) (.cells t.cells 25)
  have hT := tabAt_new w t 25
  have HT : Hid _ := hT
  have HA : Hid _ := hA
  clear hA hT
  unfold Tab.val at *
  go_enter Tryd.func42, Tryd.ntmps42
  go_wp2
  generalize hw1 : w.alloc (Obj.cells t.cells 25) = w1 at *
  have HA' := HA.out
  have HT' := HT.out
  clear HA HT hw1
  go_loop [3] (fun i => ∃ k : Nat, k ≤ 4 ∧ i = .int .i64 k ∧ (∀ j, j < k → okC t j = true)) (fun i => 4 - (intOf i).toNat)
  case atStart => exact ⟨0, by omega, rfl, fun j hj => by omega⟩
  case round =>
    obtain ⟨k, hk, rfl, hok⟩ := hrel
    by_cases hlt : k < 4
    · have hu := HT'.cu k hlt
      have hl := HT'.cl k hlt
      have hbb := HT'.cb k hlt
      have i1 : (0 : Int) ≤ (k : Int) := by omega
      have i2 : (k : Int) < 4 := by omega
      cases ho : okC t k
      · rcases okC_no ho with h | ⟨h1, h⟩ | ⟨h1, h2, h⟩ | ⟨h1, h2, h3, h⟩ | ⟨h1, h2, h3, h4, h⟩ | ⟨h1, h2, h3, h4, h5, h⟩
        all_goals
          go_wp2
          go_ret
          exact ⟨ret_int (ckR_no hlt ho), HA'⟩
      · obtain ⟨h1, h2, h3, h4, h5, h6⟩ := okC_yes ho
        go_wp2
        go_round
        case rel => exact ⟨k + 1, by omega, by go_num, fun j hj => by
          rcases Nat.lt_or_ge j k with h | h
          · exact hok j h
          · obtain rfl : j = k := by omega
            exact ho⟩
        case measure => simp [intOf]; omega
    · obtain rfl : k = 4 := by omega
      have hd := HT'.cd
      by_cases d1 : t.d < 0
      · go_wp2
        go_ret
        exact ⟨ret_int (ckR_d (.inl d1)), HA'⟩
      · by_cases d2 : 4 < t.d
        · go_wp2
          go_ret
          exact ⟨ret_int (ckR_d (.inr d2)), HA'⟩
        · go_wp2
          go_ret
          exact ⟨ret_int (ckR_yes (by simp [inB]; omega) hok), HA'⟩
end Go.Proofs.YtldfjlepbbmhnaaDoor.Tb

namespace Go.Proofs.YtldfjlepbbmhnaaDoor.Bu
open Go.ChangeShapes Go.WideShapes Go.ChangeAt Go.RowKit
open _root_.Go.Proofs.YtldfjlepbbmhnaaDoor.Op
open _root_.Go.Proofs.YtldfjlepbbmhnaaDoor.Tb (Tab TabAt Bnds four tabAt_new ckR)
set_option maxRecDepth 20000
theorem get21 {x : Int} (x0 : 0 ≤ x) : getI x 21 32 = x / 2097152 % 4294967296 := getI_is x 21 32 x0 rfl
theorem get53 {x : Int} (x0 : 0 ≤ x) : getI x 53 11 = x / 9007199254740992 % 2048 := getI_is x 53 11 x0 rfl
end Go.Proofs.YtldfjlepbbmhnaaDoor.Bu

namespace Go.Proofs.YtldfjlepbbmhnaaDoor.Bu
open _root_.Go.Proofs.YtldfjlepbbmhnaaDoor.Op
open _root_.Go.Proofs.YtldfjlepbbmhnaaDoor.Tb (Tab)
set_option maxRecDepth 20000
theorem getD_at (l : List Int) (j : Nat) (h : j < l.length) : l[j] = l.getD j 0 := by simp [List.getD_eq_getElem?_getD, h]
end Go.Proofs.YtldfjlepbbmhnaaDoor.Bu

namespace Go.Proofs.YtldfjlepbbmhnaaDoor.Bu
open Go.ChangeShapes Go.WideShapes Go.ChangeAt Go.RowKit
open _root_.Go.Proofs.YtldfjlepbbmhnaaDoor.Op
open _root_.Go.Proofs.YtldfjlepbbmhnaaDoor.Tb (Tab TabAt Bnds four tabAt_new ckR)
open _root_.Go.Proofs.YtldfjlepbbmhnaaDoor.So
set_option maxRecDepth 20000
set_option maxHeartbeats 1000000 in
theorem rwidth_any (t : Tab) (w : World) (ht : t.ok = true) :
    Calls Tryd.prog 43 #[t.val] w fun e w' => e = .returned (.int .i64 (ofs t 4 : Int)) ∧ Below w.heap.size w w' := by
  have HC : Hid (∀ W, Calls Tryd.prog 42 #[t.val] W fun e w' => e = .returned (.int .i64 0) ∧ Below W.heap.size W w') := fun W => by
    have := Tb.refCheck_any t W
    rw [ck_good ht] at this
    exact this
  have HU : Hid (∀ k, k < 4 → t.u k = (U t k : Int) ∧ U t k ≤ 8) := fun k hk => ⟨u_nat ht hk, u_le ht hk⟩
  clear ht
  unfold Tab.val at *
  go_enter Tryd.func43, Tryd.ntmps43
  go_wp2_with (first | (go_at_call 42; refine Calls.mono (HC.out _) ?_; rintro e w1 ⟨rfl, hb⟩; have HB : Hid (TabAt w1 w.heap.size t ∧ Below w.heap.size w w1) := ⟨(tabAt_new w t 25).below hb (by simp), (by go_grown : Below w.heap.size w (w.alloc (.cells t.cells 25))).trans (hb.mono (by simp))⟩; clear hb))
  clear HC
  go_loop [3, 4] (fun s i => ∃ k : Nat, k ≤ 4 ∧ i = .int .i64 k ∧ s = .int .i64 (ofs t k : Int) ∧ ofs t k ≤ 8 * k) (fun _ i => 4 - (intOf i).toNat)
  case atStart => exact ⟨0, by omega, rfl, rfl, Nat.le_refl _⟩
  case round =>
    obtain ⟨k, hk, rfl, rfl, ho⟩ := hrel
    by_cases hlt : k < 4
    · have tu := HB.out.1.cu k hlt
      have tz := HB.out.1.lt
      obtain ⟨hu, hu8⟩ := HU.out k hlt
      have k0 : (0 : Int) ≤ (k : Int) := by omega
      have k4 : (k : Int) < 4 := by omega
      have HO : Hid ((ofs t (k + 1) : Int) = ofs t k + U t k ∧ ofs t (k + 1) = ofs t k + U t k) := ⟨by show ((ofs t k + U t k : Nat) : Int) = _; omega, rfl⟩
      rw [hu] at tu
      clear hu
      generalize ofs t k = s at *
      generalize U t k = u at *
      go_wp2
      go_round
      case rel => exact ⟨k + 1, by omega, by go_num, by rw [HO.out.1], by rw [HO.out.2]; omega⟩
      case measure => simp [intOf]; omega
    · obtain rfl : k = 4 := by omega
      go_wp2
      go_ret
      exact ⟨rfl, HB.out.2⟩
end Go.Proofs.YtldfjlepbbmhnaaDoor.Bu

namespace Go.Proofs.YtldfjlepbbmhnaaDoor.Bu
open Go.ChangeShapes Go.WideShapes Go.ChangeAt Go.RowKit
open _root_.Go.Proofs.YtldfjlepbbmhnaaDoor.Op
open _root_.Go.Proofs.YtldfjlepbbmhnaaDoor.Tb (Tab TabAt Bnds four tabAt_new ckR)
open _root_.Go.Proofs.YtldfjlepbbmhnaaDoor.So
set_option maxRecDepth 20000
theorem sg32 {x : Int} : sgI (x / 2097152 % 4294967296) 32 = (x / 2097152 + 2147483648) % 4294967296 - 2147483648 := by
  unfold sgI sg
  rw [show (cl 32).toNat = 32 from rfl]
  simp
theorem At.v5 {w : World} {b : Nat} {o : O} (h : At w b o.cells) : w.cell? ⟨b, 0, none⟩ = some (.int .i8 o.op) ∧ w.cell? ⟨b, 1, none⟩ = some (.int .u8 o.d) ∧ w.cell? ⟨b, 2, none⟩ = some (.int .u8 o.a) ∧ w.cell? ⟨b, 3, none⟩ = some (.int .u8 o.b) ∧ w.cell? ⟨b, 4, none⟩ = some (.int .i64 o.im) := h.o5
set_option maxHeartbeats 1000000 in
theorem rop_any (x : Int) (w : World) (x0 : 0 ≤ x) (x1 : x < 18446744073709551616) :
    Calls Tryd.prog 59 #[.int .u64 x] w fun e w' => e = .returned (.tuple #[(opW x).val, .bool (decide (x < 9007199254740992) && okO (opW x))]) ∧ Below w.heap.size w w' := by
  have H0 : Hid (∀ w, Calls Tryd.prog 73 #[.int .u64 x, .int .i64 0, .int .i64 6] w fun e w' => e = .returned (.int .u64 (x % 64)) ∧ w' = w) := fun w => by rw [← get0 x0]; exact rget_any x 0 6 w x0 x1
  have H6 : Hid (∀ w, Calls Tryd.prog 73 #[.int .u64 x, .int .i64 6, .int .i64 5] w fun e w' => e = .returned (.int .u64 (x / 64 % 32)) ∧ w' = w) := fun w => by rw [← get6 x0]; exact rget_any x 6 5 w x0 x1
  have H11 : Hid (∀ w, Calls Tryd.prog 73 #[.int .u64 x, .int .i64 11, .int .i64 5] w fun e w' => e = .returned (.int .u64 (x / 2048 % 32)) ∧ w' = w) := fun w => by rw [← get11 x0]; exact rget_any x 11 5 w x0 x1
  have H16 : Hid (∀ w, Calls Tryd.prog 73 #[.int .u64 x, .int .i64 16, .int .i64 5] w fun e w' => e = .returned (.int .u64 (x / 65536 % 32)) ∧ w' = w) := fun w => by rw [← get16 x0]; exact rget_any x 16 5 w x0 x1
  have H21 : Hid (∀ w, Calls Tryd.prog 73 #[.int .u64 x, .int .i64 21, .int .i64 32] w fun e w' => e = .returned (.int .u64 (x / 2097152 % 4294967296)) ∧ w' = w) := fun w => by rw [← get21 x0]; exact rget_any x 21 32 w x0 x1
  have H53 : Hid (∀ w, Calls Tryd.prog 73 #[.int .u64 x, .int .i64 53, .int .i64 11] w fun e w' => e = .returned (.int .u64 (x / 9007199254740992 % 2048)) ∧ w' = w) := fun w => by rw [← get53 x0]; exact rget_any x 53 11 w x0 x1
  have HSg : Hid (∀ w, Calls Tryd.prog 74 #[.int .u64 (x / 2097152 % 4294967296), .int .i64 32] w fun e w' => e = .returned (.int .i64 ((x / 2097152 + 2147483648) % 4294967296 - 2147483648)) ∧ w' = w) := fun w => by rw [← sg32]; exact rsigned_mid _ 32 w (by omega) (by omega) (by omega) (by omega)
  have HCk : Hid (∀ W, Calls Tryd.prog 75 #[(opW x).val] W fun e w' => e = .returned (.int .i64 (ckE (opW x))) ∧ Below W.heap.size W w') := fun W => refCheck_any (opW x) W (opW_ok x)
  have HE : Hid ((ckE (opW x) == 0) = okO (opW x)) := ckE0 _
  have HV : Hid ((opW x).val = .agg #[.int .i8 (x % 64), .int .u8 (x / 64 % 32), .int .u8 (x / 2048 % 32), .int .u8 (x / 65536 % 32), .int .i64 ((x / 2097152 + 2147483648) % 4294967296 - 2147483648)]) := rfl
  go_enter Tryd.func59, Tryd.ntmps59
  go_upto_region 2 with (first
    | (have hh := H0.out; go_at_call 73; refine Calls.mono (H0.out _) ?_; rintro e w1 ⟨rfl, hw1⟩; subst w1; clear H0 hh)
    | (have hh := H6.out; go_at_call 73; refine Calls.mono (H6.out _) ?_; rintro e w1 ⟨rfl, hw1⟩; subst w1; clear H6 hh)
    | (have hh := H11.out; go_at_call 73; refine Calls.mono (H11.out _) ?_; rintro e w1 ⟨rfl, hw1⟩; subst w1; clear H11 hh)
    | (have hh := H16.out; go_at_call 73; refine Calls.mono (H16.out _) ?_; rintro e w1 ⟨rfl, hw1⟩; subst w1; clear H16 hh)
    | (have hh := H21.out; go_at_call 73; refine Calls.mono (H21.out _) ?_; rintro e w1 ⟨rfl, hw1⟩; subst w1; clear H21 hh)
    | (go_at_call 74; refine Calls.mono (HSg.out _) ?_; rintro e w1 ⟨rfl, hw1⟩; subst w1; clear HSg))
  have HS : Hid (At ((w.alloc (.cells #[.int .i8 0, .int .u8 0, .int .u8 0, .int .u8 0, .int .i64 0] 55)).alloc (.cells #[.int .i8 (x % 64), .int .u8 (x / 64 % 32), .int .u8 (x / 2048 % 32), .int .u8 (x / 65536 % 32), .int .i64 ((x / 2097152 + 2147483648) % 4294967296 - 2147483648)] 55)).drew (w.heap.size + 1) (opW x).cells ∧ At ((w.alloc (.cells #[.int .i8 0, .int .u8 0, .int .u8 0, .int .u8 0, .int .i64 0] 55)).alloc (.cells #[.int .i8 (x % 64), .int .u8 (x / 64 % 32), .int .u8 (x / 2048 % 32), .int .u8 (x / 65536 % 32), .int .i64 ((x / 2097152 + 2147483648) % 4294967296 - 2147483648)] 55)).drew w.heap.size #[.int .i8 0, .int .u8 0, .int .u8 0, .int .u8 0, .int .i64 0] ∧ Below w.heap.size w ((w.alloc (.cells #[.int .i8 0, .int .u8 0, .int .u8 0, .int .u8 0, .int .i64 0] 55)).alloc (.cells #[.int .i8 (x % 64), .int .u8 (x / 64 % 32), .int .u8 (x / 2048 % 32), .int .u8 (x / 65536 % 32), .int .i64 ((x / 2097152 + 2147483648) % 4294967296 - 2147483648)] 55)).drew) := by
    obtain ⟨a1, a2, a3, -, -⟩ := two_new w #[.int .i8 0, .int .u8 0, .int .u8 0, .int .u8 0, .int .i64 0] #[.int .i8 (x % 64), .int .u8 (x / 64 % 32), .int .u8 (x / 2048 % 32), .int .u8 (x / 65536 % 32), .int .i64 ((x / 2097152 + 2147483648) % 4294967296 - 2147483648)] 55 55 (Below.refl _ _).drew
    exact ⟨a2, a1, a3⟩
  generalize ((w.alloc (.cells #[.int .i8 0, .int .u8 0, .int .u8 0, .int .u8 0, .int .i64 0] 55)).alloc (.cells #[.int .i8 (x % 64), .int .u8 (x / 64 % 32), .int .u8 (x / 2048 % 32), .int .u8 (x / 65536 % 32), .int .i64 ((x / 2097152 + 2147483648) % 4294967296 - 2147483648)] 55)) = X at *
  by_cases h53 : x < 9007199254740992
  · have hz : (x / 9007199254740992 % 2048 == 0) = true := by simp; omega
    have HR : Hid ((decide (x < 9007199254740992) && okO (opW x)) = (ckE (opW x) == 0)) := (by rw [HE.out, decide_eq_true h53]; rfl : (decide (x < 9007199254740992) && okO (opW x)) = (ckE (opW x) == 0))
    refine wp_region_held_drew (S := fun W' => At W' (w.heap.size + 1) (opW x).cells) (by kernel_rfl) HS.out.1 (fun hHeld => ?_)
    generalize X.drew = XD at *
    refine wpAnyH_take (i := 0) (v := (opW x).val) rfl (by kernel_rfl) (by kernel_rfl) (by kernel_rfl) (fun _ _ _ h => h) (Or.inl ⟨by rfl, fun w' hSw => by (have a0 := hSw; have l0 := a0.lt; obtain ⟨m0, m1, m2, m3, m4⟩ := At.v5 a0; clear a0; go_simp)⟩) hHeld ?_
    simp only [Act.put, List.setIfInBounds_toArray, List.set_cons_zero, List.set_cons_succ, List.getElem_cons_zero, List.getElem_toArray]
    refine wpAnyH_take (i := 1) (v := .int .u64 x) rfl (by kernel_rfl) (by kernel_rfl) (by kernel_rfl) (fun _ _ _ h => h) (Or.inl ⟨by rfl, fun w' hSw => by (go_simp)⟩) hHeld ?_
    simp only [Act.put, List.setIfInBounds_toArray, List.set_cons_zero, List.set_cons_succ, List.getElem_cons_zero, List.getElem_cons_succ, List.getElem_toArray]
    refine wpAnyH_ready (rs := [2]) (by kernel_rfl) (by simp) ?_
    refine AllReadyH.cons rfl (fun K hK => ?_) AllReadyH.nil
    go_simp
    refine Calls.mono (H53.out _) ?_
    rintro e w1 ⟨rfl, hw1⟩
    subst w1
    refine hK.out _ _ HS.out.1 (fun hHeld => ?_)
    clear hK K
    refine wpAnyH_take (i := 3) (v := .bool true) rfl (by kernel_rfl) (by kernel_rfl) (by kernel_rfl) (fun _ _ _ h => h) (Or.inl ⟨by rfl, fun w' hSw => by (go_simp)⟩) hHeld ?_
    simp only [Act.put, List.setIfInBounds_toArray, List.set_cons_zero, List.set_cons_succ, List.getElem_cons_zero, List.getElem_cons_succ, List.getElem_toArray]
    refine wpAnyH_take (i := 4) (v := .bool true) rfl (by kernel_rfl) (by kernel_rfl) (by kernel_rfl) (fun _ _ _ h => h) (Or.inl ⟨by rfl, fun w' hSw => by (go_simp)⟩) hHeld ?_
    simp only [Act.put, List.setIfInBounds_toArray, List.set_cons_zero, List.set_cons_succ, List.getElem_cons_zero, List.getElem_cons_succ, List.getElem_toArray]
    refine wpAnyH_take (i := 5) (v := (opW x).val) rfl (by kernel_rfl) (by kernel_rfl) (by kernel_rfl) (fun _ _ _ h => h) (Or.inl ⟨by rfl, fun w' hSw => by (have a0 := hSw; have l0 := a0.lt; obtain ⟨m0, m1, m2, m3, m4⟩ := At.v5 a0; clear a0; go_simp)⟩) hHeld ?_
    simp only [Act.put, List.setIfInBounds_toArray, List.set_cons_zero, List.set_cons_succ, List.getElem_cons_zero, List.getElem_cons_succ, List.getElem_toArray]
    refine wpAnyH_ready (rs := [6]) (by kernel_rfl) (by simp) ?_
    refine AllReadyH.cons rfl (fun K hK => ?_) AllReadyH.nil
    go_simp
    refine Calls.mono (HCk.out _) ?_
    rintro e w2 ⟨rfl, hb2⟩
    have HS2 : Hid (At w2 (w.heap.size + 1) (opW x).cells ∧ At w2 w.heap.size #[.int .i8 0, .int .u8 0, .int .u8 0, .int .u8 0, .int .i64 0] ∧ Below w.heap.size w w2) := ⟨HS.out.1.below hb2 HS.out.1.lt, HS.out.2.1.below hb2 HS.out.2.1.lt, HS.out.2.2.trans (hb2.mono HS.out.2.2.size)⟩
    clear hb2
    refine hK.out _ _ HS2.out.1 (fun hHeld => ?_)
    clear hK K
    refine wpAnyH_take (i := 7) (v := .bool (ckE (opW x) == 0)) rfl (by kernel_rfl) (by kernel_rfl) (by kernel_rfl) (fun _ _ _ h => h) (Or.inl ⟨by rfl, fun w' hSw => by (go_simp)⟩) hHeld ?_
    simp only [Act.put, List.setIfInBounds_toArray, List.set_cons_zero, List.set_cons_succ, List.getElem_cons_zero, List.getElem_cons_succ, List.getElem_toArray]
    refine wpAnyH_take (i := 8) (v := .bool (ckE (opW x) == 0)) rfl (by kernel_rfl) (by kernel_rfl) (by kernel_rfl) (fun _ _ _ h => h) (Or.inl ⟨by rfl, fun w' hSw => by (go_simp)⟩) hHeld ?_
    simp only [Act.put, List.setIfInBounds_toArray, List.set_cons_zero, List.set_cons_succ, List.getElem_cons_zero, List.getElem_cons_succ, List.getElem_toArray]
    refine wpAnyH_ready (rs := [9]) (by kernel_rfl) (by simp) ?_
    refine AllReadyH.cons rfl (fun K hK => ?_) AllReadyH.nil
    obtain ⟨m0, m1, m2, m3, m4⟩ := HS2.out.2.1.o5
    have f0 := HS2.out.2.1.f 0
    have f1 := HS2.out.2.1.f 1
    have f2 := HS2.out.2.1.f 2
    have f3 := HS2.out.2.1.f 3
    have f4 := HS2.out.2.1.f 4
    have fl := HS2.out.2.1.lt
    go_simp
    refine hK.out _ _ (At.frb HS2.out.1 ((((((Fr.refl (One w.heap.size) _).setCell (.inr rfl) _ _).setCell (.inr rfl) _ _).setCell (.inr rfl) _ _).setCell (.inr rfl) _ _).setCell (.inr rfl) _ _) (by show ¬ _ = _; omega)) (fun hHeld => ?_)
    clear hK K
    refine wpAnyH_take (i := 10) (v := .bool (ckE (opW x) == 0)) rfl (by kernel_rfl) (by kernel_rfl) (by kernel_rfl) (fun _ _ _ h => h) (Or.inl ⟨by rfl, fun w' hSw => by (go_simp)⟩) hHeld ?_
    simp only [Act.put, List.setIfInBounds_toArray, List.set_cons_zero, List.set_cons_succ, List.getElem_cons_zero, List.getElem_cons_succ, List.getElem_toArray]
    refine wpAnyH_done (by kernel_rfl) ?_ _
    clear hHeld
    go_wp2_with fail
    refine bodyPost_ret (v := .tuple #[(opW x).val, .bool (ckE (opW x) == 0)]) (by simp [results, Tryd.results59, go_sem, m0, m1, m2, m3, m4]) rfl ⟨by rw [HR.out], HS2.out.2.2.trans ?_⟩
    go_grown
  · have hz : (x / 9007199254740992 % 2048 == 0) = false := by simp; omega
    have HR : Hid ((decide (x < 9007199254740992) && okO (opW x)) = false) := (by rw [decide_eq_false h53]; rfl : (decide (x < 9007199254740992) && okO (opW x)) = false)
    refine wp_region_held_drew (S := fun W' => At W' (w.heap.size + 1) (opW x).cells) (by kernel_rfl) HS.out.1 (fun hHeld => ?_)
    generalize X.drew = XD at *
    refine wpAnyH_take (i := 0) (v := (opW x).val) rfl (by kernel_rfl) (by kernel_rfl) (by kernel_rfl) (fun _ _ _ h => h) (Or.inl ⟨by rfl, fun w' hSw => by (have a0 := hSw; have l0 := a0.lt; obtain ⟨m0, m1, m2, m3, m4⟩ := At.v5 a0; clear a0; go_simp)⟩) hHeld ?_
    simp only [Act.put, List.setIfInBounds_toArray, List.set_cons_zero, List.set_cons_succ, List.getElem_cons_zero, List.getElem_toArray]
    refine wpAnyH_take (i := 1) (v := .int .u64 x) rfl (by kernel_rfl) (by kernel_rfl) (by kernel_rfl) (fun _ _ _ h => h) (Or.inl ⟨by rfl, fun w' hSw => by (go_simp)⟩) hHeld ?_
    simp only [Act.put, List.setIfInBounds_toArray, List.set_cons_zero, List.set_cons_succ, List.getElem_cons_zero, List.getElem_cons_succ, List.getElem_toArray]
    refine wpAnyH_ready (rs := [2]) (by kernel_rfl) (by simp) ?_
    refine AllReadyH.cons rfl (fun K hK => ?_) AllReadyH.nil
    go_simp
    refine Calls.mono (H53.out _) ?_
    rintro e w1 ⟨rfl, hw1⟩
    subst w1
    refine hK.out _ _ HS.out.1 (fun hHeld => ?_)
    clear hK K
    refine wpAnyH_take (i := 3) (v := .bool false) rfl (by kernel_rfl) (by kernel_rfl) (by kernel_rfl) (fun _ _ _ h => h) (Or.inl ⟨by rfl, fun w' hSw => by (go_simp)⟩) hHeld ?_
    simp only [Act.put, List.setIfInBounds_toArray, List.set_cons_zero, List.set_cons_succ, List.getElem_cons_zero, List.getElem_cons_succ, List.getElem_toArray]
    refine wpAnyH_take (i := 4) (v := .bool false) rfl (by kernel_rfl) (by kernel_rfl) (by kernel_rfl) (fun _ _ _ h => h) (Or.inl ⟨by rfl, fun w' hSw => by (go_simp)⟩) hHeld ?_
    simp only [Act.put, List.setIfInBounds_toArray, List.set_cons_zero, List.set_cons_succ, List.getElem_cons_zero, List.getElem_cons_succ, List.getElem_toArray]
    refine wpAnyH_take (i := 5) (v := undef) rfl (by kernel_rfl) (by kernel_rfl) (by kernel_rfl) (fun _ _ _ h => h) (Or.inr ⟨by rfl, rfl⟩) hHeld ?_
    simp only [Act.put, List.setIfInBounds_toArray, List.set_cons_zero, List.set_cons_succ, List.getElem_cons_zero, List.getElem_cons_succ, List.getElem_toArray]
    refine wpAnyH_take (i := 6) (v := undef) rfl (by kernel_rfl) (by kernel_rfl) (by kernel_rfl) (fun _ _ _ h => h) (Or.inr ⟨by rfl, rfl⟩) hHeld ?_
    simp only [Act.put, List.setIfInBounds_toArray, List.set_cons_zero, List.set_cons_succ, List.getElem_cons_zero, List.getElem_cons_succ, List.getElem_toArray]
    refine wpAnyH_take (i := 7) (v := undef) rfl (by kernel_rfl) (by kernel_rfl) (by kernel_rfl) (fun _ _ _ h => h) (Or.inr ⟨by rfl, rfl⟩) hHeld ?_
    simp only [Act.put, List.setIfInBounds_toArray, List.set_cons_zero, List.set_cons_succ, List.getElem_cons_zero, List.getElem_cons_succ, List.getElem_toArray]
    refine wpAnyH_take (i := 8) (v := .bool false) rfl (by kernel_rfl) (by kernel_rfl) (by kernel_rfl) (fun _ _ _ h => h) (Or.inl ⟨by rfl, fun w' hSw => by (go_simp)⟩) hHeld ?_
    simp only [Act.put, List.setIfInBounds_toArray, List.set_cons_zero, List.set_cons_succ, List.getElem_cons_zero, List.getElem_cons_succ, List.getElem_toArray]
    have HS2 : Hid (At XD (w.heap.size + 1) (opW x).cells ∧ At XD w.heap.size #[.int .i8 0, .int .u8 0, .int .u8 0, .int .u8 0, .int .i64 0] ∧ Below w.heap.size w XD) := HS.out
    refine wpAnyH_ready (rs := [9]) (by kernel_rfl) (by simp) ?_
    refine AllReadyH.cons rfl (fun K hK => ?_) AllReadyH.nil
    obtain ⟨m0, m1, m2, m3, m4⟩ := HS2.out.2.1.o5
    have f0 := HS2.out.2.1.f 0
    have f1 := HS2.out.2.1.f 1
    have f2 := HS2.out.2.1.f 2
    have f3 := HS2.out.2.1.f 3
    have f4 := HS2.out.2.1.f 4
    have fl := HS2.out.2.1.lt
    go_simp
    refine hK.out _ _ (At.frb HS2.out.1 ((((((Fr.refl (One w.heap.size) _).setCell (.inr rfl) _ _).setCell (.inr rfl) _ _).setCell (.inr rfl) _ _).setCell (.inr rfl) _ _).setCell (.inr rfl) _ _) (by show ¬ _ = _; omega)) (fun hHeld => ?_)
    clear hK K
    refine wpAnyH_take (i := 10) (v := .bool false) rfl (by kernel_rfl) (by kernel_rfl) (by kernel_rfl) (fun _ _ _ h => h) (Or.inl ⟨by rfl, fun w' hSw => by (go_simp)⟩) hHeld ?_
    simp only [Act.put, List.setIfInBounds_toArray, List.set_cons_zero, List.set_cons_succ, List.getElem_cons_zero, List.getElem_cons_succ, List.getElem_toArray]
    refine wpAnyH_done (by kernel_rfl) ?_ _
    clear hHeld
    go_wp2_with fail
    refine bodyPost_ret (v := .tuple #[(opW x).val, .bool false]) (by simp [results, Tryd.results59, go_sem, m0, m1, m2, m3, m4]) rfl ⟨by rw [HR.out], HS2.out.2.2.trans ?_⟩
    go_grown
end Go.Proofs.YtldfjlepbbmhnaaDoor.Bu
