/- A program as it lies in memory: blocks, each with two lists of operations; and what of it stays as memory grows. Conditions: none. -/
import Derived.WalkKit
import Derived.ProofKit
import Derived.Laws.BitsAllLaws
import Derived.Test.YtldfjlepbbmhnaaDoorProg
import Derived.OpenShut
import Derived.WalkSpells
import Derived.WalkLawsBesides
import Derived.Handy
import Derived.Deep.RegionHeld3
import Derived.Deep.DrawnRows
import Derived.Deep.QuietTactic
import Derived.BigQuiet
import Derived.Deep.WholeRow
namespace Go.Proofs.YtldfjlepbbmhnaaDoor.Op

/-- is it a field? -/
def fieldB (a n : Int) : Bool := decide (1 ≤ n ∧ n ≤ 64 ∧ 0 ≤ a ∧ a ≤ 64 - n)
/-- brought into 1 to 64 -/
def cl (n : Int) : Int := if n < 1 then 1 else if 64 < n then 64 else n
theorem cl_lo (n : Int) : 1 ≤ cl n := by unfold cl; split <;> (try split) <;> omega
theorem cl_hi (n : Int) : cl n ≤ 64 := by unfold cl; split <;> (try split) <;> omega
/-- what stands in the field -/
def getN (X a n : Nat) : Nat := X / 2 ^ a % 2 ^ n

/-! ### masks -/
theorem ones_div (n : Nat) (h : n ≤ 64) : 18446744073709551615 / 2 ^ (64 - n) = 2 ^ n - 1 := by
  have e : (18446744073709551616 : Nat) = 2 ^ n * 2 ^ (64 - n) := by
    rw [← Nat.pow_add, show n + (64 - n) = 64 by omega]
  have hp : 0 < 2 ^ (64 - n) := Nat.two_pow_pos _
  have hn : 0 < 2 ^ n := Nat.two_pow_pos _
  refine Nat.div_eq_of_lt_le ?_ ?_
  · rw [Nat.sub_mul, ← e]; omega
  · rw [Nat.sub_add_cancel hn, ← e]; omega
theorem get_masks (X a n : Nat) : X / 2 ^ a &&& (2 ^ n - 1) = getN X a n := by
  unfold getN; exact Nat.and_two_pow_sub_one_eq_mod _ _

/-! ### one bit after another: the document's own way -/
/-! ### two's complement -/
/-- the lowest c bits of x as a number with a sign -/
def sg (x : Int) (c : Nat) : Int := (x + 2 ^ (c - 1)) % 2 ^ c - 2 ^ (c - 1)
theorem pow_split (c : Nat) (h : 1 ≤ c) : (2 : Int) ^ c = 2 * 2 ^ (c - 1) := by
  obtain ⟨d, rfl⟩ : ∃ d, c = d + 1 := ⟨c - 1, by omega⟩
  rw [Nat.add_sub_cancel, Int.pow_succ]; omega
theorem pow_pos' (c : Nat) : (0 : Int) < 2 ^ c := Int.pow_pos (by decide)
theorem sg_lo (x : Int) (c : Nat) : -(2 ^ (c - 1)) ≤ sg x c := by
  unfold sg
  have := Int.emod_nonneg (x + 2 ^ (c - 1)) (Int.ne_of_gt (pow_pos' c)); omega
theorem sg_hi (x : Int) (c : Nat) (h : 1 ≤ c) : sg x c < 2 ^ (c - 1) := by
  unfold sg
  have := Int.emod_lt_of_pos (x + 2 ^ (c - 1)) (pow_pos' c)
  have := pow_split c h; omega
theorem sg_id (x : Int) (c : Nat) (h : 1 ≤ c) (h1 : -(2 ^ (c - 1)) ≤ x) (h2 : x < 2 ^ (c - 1)) : sg x c = x := by
  unfold sg
  have := pow_split c h
  rw [Int.emod_eq_of_lt (by omega) (by omega)]; omega
theorem sg_iff (x : Int) (c : Nat) (h : 1 ≤ c) : sg x c = x ↔ -(2 ^ (c - 1)) ≤ x ∧ x < 2 ^ (c - 1) := by
  constructor
  · intro e; have h1 := sg_lo x c; have h2 := sg_hi x c h; rw [e] at h1 h2; exact ⟨h1, h2⟩
  · intro e; exact sg_id x c h e.1 e.2
theorem sg_mod (x : Int) (c d : Nat) (h : c ≤ d) : sg (x % 2 ^ d) c = sg x c := by
  unfold sg
  have e : (2 : Int) ^ c ∣ 2 ^ d := ⟨2 ^ (d - c), by rw [← Int.pow_add]; congr 1; omega⟩
  rw [Int.add_emod, Int.emod_emod_of_dvd x e, ← Int.add_emod]
theorem sg_shift (x : Int) (c : Nat) (h : 1 ≤ c) (h64 : c ≤ 64) :
    ((x * 2 ^ (64 - c) % 18446744073709551616 + 9223372036854775808) % 18446744073709551616 - 9223372036854775808) / 2 ^ (64 - c) = sg x c := by
  have e64 : (18446744073709551616 : Int) = 2 ^ c * 2 ^ (64 - c) := by
    rw [← Int.pow_add, show c + (64 - c) = 64 by omega]; rfl
  have e63 : (9223372036854775808 : Int) = 2 ^ (c - 1) * 2 ^ (64 - c) := by
    rw [← Int.pow_add, show c - 1 + (64 - c) = 63 by omega]; rfl
  have hp := pow_pos' (64 - c)
  rw [Int.emod_add_emod, e64, e63, ← Int.add_mul, Int.mul_comm _ (2 ^ (64 - c)), Int.mul_comm (2 ^ c) (2 ^ (64 - c)), Int.mul_emod_mul_of_pos _ _ hp,
    Int.mul_comm (2 ^ (c - 1)) (2 ^ (64 - c)), ← Int.mul_sub, Int.mul_ediv_cancel_left _ (Int.ne_of_gt hp)]
  rfl
end Go.Proofs.YtldfjlepbbmhnaaDoor.Op
namespace Go.Proofs.YtldfjlepbbmhnaaDoor.Op
open Go.RowKit

def getI (x a n : Int) : Int := if fieldB a n = true then ((getN x.toNat a.toNat n.toNat : Nat) : Int) else 0
def sgI (x n : Int) : Int := sg x (cl n).toNat
def fitsI (x n : Int) : Bool := decide (sgI x n = x)

theorem field_iff (a n : Int) : fieldB a n = true ↔ 1 ≤ n ∧ n ≤ 64 ∧ 0 ≤ a ∧ a ≤ 64 - n := by unfold fieldB; simp

theorem pow_cast (k : Nat) : ((2 : Int) ^ k) = ((2 ^ k : Nat) : Int) := by simp

theorem ones_int (n : Int) (h1 : 1 ≤ n) (h2 : n ≤ 64) : (18446744073709551615 : Int) / 2 ^ (64 - n).toNat = ((2 ^ n.toNat - 1 : Nat) : Int) := by
  rw [pow_cast, show (18446744073709551615 : Int) = ((18446744073709551615 : Nat) : Int) from rfl, ← Int.natCast_ediv,
    show (64 - n).toNat = 64 - n.toNat by omega, ones_div n.toNat (by omega)]

theorem get_form (x a n : Int) (h1 : 1 ≤ n) (h2 : n ≤ 64) (h3 : 0 ≤ a) (h4 : a ≤ 64 - n)
    (x0 : 0 ≤ x) (x1 : x < 18446744073709551616) :
    bits BinOp.and IntKind.u64 (x / 2 ^ a.toNat) (18446744073709551615 / 2 ^ (64 - n).toNat) = getI x a n := by
  unfold getI
  rw [if_pos ((field_iff a n).2 ⟨h1, h2, h3, h4⟩), ones_int n h1 h2]
  obtain ⟨X, rfl⟩ := Int.eq_ofNat_of_zero_le x0
  have hq : X / 2 ^ a.toNat ≤ X := Nat.div_le_self _ _
  have hn : 2 ^ n.toNat ≤ 2 ^ 64 := Nat.pow_le_pow_right (by decide) (by omega)
  rw [pow_cast, ← Int.natCast_ediv, u64_and_nat _ _ (by omega) (by omega), get_masks, Int.toNat_natCast]

theorem sg_form (x n : Int) : wrap64 (IntKind.u64.wrap (x * 2 ^ (64 - cl n).toNat)) / 2 ^ (64 - cl n).toNat = sgI x n := by
  have h1 := cl_lo n; have h2 := cl_hi n
  have := sg_shift x (cl n).toNat (by omega) (by omega)
  rw [show 64 - (cl n).toNat = (64 - cl n).toNat by omega] at this
  unfold sgI
  rw [← this, IntKind.wrap_u64, wrap64]
theorem fits_form (x n : Int) : (sgI (IntKind.u64.wrap x) n == x) = fitsI x n := by
  have h1 := cl_lo n; have h2 := cl_hi n
  have e : sgI (IntKind.u64.wrap x) n = sgI x n := by
    unfold sgI
    rw [IntKind.wrap_u64, ← sg_mod x (cl n).toNat 64 (by omega)]
    rfl
  rw [e]; unfold fitsI; rw [Bool.eq_iff_iff]; simp
end Go.Proofs.YtldfjlepbbmhnaaDoor.Op
namespace Go.Proofs.YtldfjlepbbmhnaaDoor.Op
open Go.ChangeShapes Go.WideShapes Go.ChangeAt Go.RowKit

theorem ret_bool {a b : Bool} (h : a = b) : Ending.returned (.bool a) = .returned (.bool b) := by rw [h]
theorem ret_int {k : IntKind} {a b : Int} (h : a = b) : Ending.returned (.int k a) = .returned (.int k b) := by rw [h]

theorem isField_any (a n : Int) (w : World) :
    Calls Tryd.prog 71 #[.int .i64 a, .int .i64 n] w fun e w' => e = .returned (.bool (fieldB a n)) ∧ w' = w := by
  by_cases h1 : 1 ≤ n
  · by_cases h2 : n ≤ 64
    · by_cases h3 : 0 ≤ a
      all_goals
        go_enter Tryd.func71, Tryd.ntmps71
        go_wp2
        go_ret
        refine ⟨ret_bool ?_, rfl⟩
        rw [Bool.eq_iff_iff, field_iff]; simp; omega
    · go_enter Tryd.func71, Tryd.ntmps71
      go_wp2
      go_ret
      refine ⟨ret_bool ?_, rfl⟩
      rw [Bool.eq_iff_iff, field_iff]; simp; omega
  · go_enter Tryd.func71, Tryd.ntmps71
    go_wp2
    go_ret
    refine ⟨ret_bool ?_, rfl⟩
    rw [Bool.eq_iff_iff, field_iff]; simp; omega

theorem lowest_any (n : Int) (w : World) (h1 : 1 ≤ n) (h2 : n ≤ 64) :
    Calls Tryd.prog 72 #[.int .i64 n] w fun e w' => e = .returned (.int .u64 (18446744073709551615 / 2 ^ (64 - n).toNat)) ∧ w' = w := by
  go_enter Tryd.func72, Tryd.ntmps72
  go_wp2
  go_ret
  exact ⟨rfl, rfl⟩

theorem count_any (n : Int) (w : World) :
    Calls Tryd.prog 91 #[.int .i64 n] w fun e w' => e = .returned (.int .i64 (cl n)) ∧ w' = w := by
  go_enter Tryd.func91, Tryd.ntmps91
  go_wp2
  all_goals
    go_ret
    refine ⟨ret_int ?_, rfl⟩
    unfold cl
    split at * <;> (try split) <;> omega

theorem get_any (x a n : Int) (w : World) (x0 : 0 ≤ x) (x1 : x < 18446744073709551616) :
    Calls Tryd.prog 58 #[.int .u64 x, .int .i64 a, .int .i64 n] w fun e w' => e = .returned (.int .u64 (getI x a n)) ∧ w' = w := by
  cases h : fieldB a n
  · have H0 : getI x a n = 0 := by unfold getI; rw [if_neg (by rw [h]; decide)]
    have H : Hid (getI x a n = 0) := H0
    clear H0
    go_enter Tryd.func58, Tryd.ntmps58
    go_wp2_with (go_at_call 71; refine (isField_any _ _ _).mono ?_; rintro e w' ⟨rfl, rfl⟩)
    go_ret
    exact ⟨ret_int H.out.symm, rfl⟩
  · obtain ⟨h1, h2, h3, h4⟩ := (field_iff a n).1 h
    have H : Hid _ := (get_form x a n h1 h2 h3 h4 x0 x1)
    go_enter Tryd.func58, Tryd.ntmps58
    go_wp2_with (first | (go_at_call 71; refine (isField_any _ _ _).mono ?_; rintro e w' ⟨rfl, rfl⟩) | (go_at_call 72; refine (lowest_any _ _ (by omega) (by omega)).mono ?_; rintro e w' ⟨rfl, rfl⟩))
    go_ret
    exact ⟨ret_int (H.out), rfl⟩

theorem signed_any (x n : Int) (w : World) :
    Calls Tryd.prog 90 #[.int .u64 x, .int .i64 n] w fun e w' => e = .returned (.int .i64 (sgI x n)) ∧ w' = w := by
  have hlo := cl_lo n
  have hhi := cl_hi n
  have H : Hid _ := (sg_form x n)
  go_enter Tryd.func90, Tryd.ntmps90
  go_wp2_with (go_at_call 91; refine (count_any _ _).mono ?_; rintro e w' ⟨rfl, rfl⟩)
  go_ret
  exact ⟨ret_int (H.out), rfl⟩

theorem fits_any (x n : Int) (w : World) :
    Calls Tryd.prog 86 #[.int .i64 x, .int .i64 n] w fun e w' => e = .returned (.bool (fitsI x n)) ∧ w' = w := by
  have H : Hid _ := (fits_form x n)
  go_enter Tryd.func86, Tryd.ntmps86
  go_wp2_with (go_at_call 90; refine (signed_any _ _ _).mono ?_; rintro e w' ⟨rfl, rfl⟩)
  go_ret
  exact ⟨ret_bool (H.out), rfl⟩

end Go.Proofs.YtldfjlepbbmhnaaDoor.Op
namespace Go.Proofs.YtldfjlepbbmhnaaDoor.Op
open Go.ChangeShapes Go.WideShapes Go.ChangeAt Go.RowKit

theorem bcell {B : Nat} {W w1 : World} (hb : Below B W w1) : (∀ b o, b < B → w1.cell? ⟨b, o, none⟩ = W.cell? ⟨b, o, none⟩) ∧ (∀ b o, b < B → w1.frozen? ⟨b, o, none⟩ = W.frozen? ⟨b, o, none⟩) :=
  ⟨fun b o h => hb.cell (p := ⟨b, o, none⟩) h, fun b o h => hb.frozen (p := ⟨b, o, none⟩) h⟩

/-- A world that meets a condition. -/
structure Wd (G : World → Prop) where
  w : World
  ok : G w

theorem wp_region_in {P : Program} {id : Nat} {Q : Exit → Act → World → Prop} {a : Act} {w : World} {l : List Oper} (G : World → Prop) (hm : P.follows .mixedOrders = true) (hB : Region.lexB .any l.toArray = true)
    (hG : G w.drew) (h : wpQuiet P l.toArray (fun w' => ∃ x : Wd G, w' = x.w) (fun a' => ∀ w', (∃ x : Wd G, w' = x.w) → Q .normal a' w') l a) : (Code.region id l.toArray true).wp P Q a w :=
  wp_region_quiet (C := fun w' => ∃ x : Wd G, w' = x.w) hm hB ⟨⟨_, hG⟩, rfl⟩ (by simpa using h)

theorem calls_in {P : Program} {B : Nat} {W : World} {f : FuncId} {args : Array Value} {v : Value} (hB : B ≤ W.heap.size) (x : Wd (Below B W)) (c : Calls P f args x.w fun e w' => e = .returned v ∧ Below x.w.heap.size x.w w') :
    Calls P f args x.w fun e w'' => e = .returned v ∧ ∃ y : Wd (Below B W), w'' = y.w :=
  c.mono fun _ w' h => ⟨h.1, ⟨w', x.ok.trans (h.2.mono (Nat.le_trans hB x.ok.size))⟩, rfl⟩

/-- A kind: its name, its class (-1: none), and which fields count (N: B as a number). -/
structure K where
  name : List UInt8
  cls : Int
  D : Bool
  A : Bool
  B : Bool
  N : Bool
  I : Bool
def bi (b : Bool) (n : Int) : Int := if b then n else 0
def K.fields (k : K) : Int := bi k.D 1 + bi k.A 2 + bi k.B 4 + bi k.I 8 + bi k.N 16
def K.s (k : K) : ByteArray := ⟨k.name.toArray⟩
def K.cells (k : K) : List Value := [.string k.s, .int .i8 k.cls, .int .u8 k.fields]
def kindL : List K :=
  [⟨[110, 111, 112], -1, false, false, false, false, false⟩, ⟨[99, 111, 110, 115, 116], 0, true, false, false, false, true⟩,
   ⟨[97, 100, 100], 0, true, true, true, false, false⟩, ⟨[115, 117, 98], 0, true, true, true, false, false⟩, ⟨[97, 110, 100], 0, true, true, true, false, false⟩,
   ⟨[111, 114], 0, true, true, true, false, false⟩, ⟨[120, 111, 114], 0, true, true, true, false, false⟩, ⟨[115, 104, 108], 0, true, true, true, false, false⟩,
   ⟨[115, 104, 114], 0, true, true, true, false, false⟩, ⟨[108, 101, 115, 115], 0, true, true, true, false, false⟩, ⟨[101, 113, 117, 97, 108], 0, true, true, true, false, false⟩,
   ⟨[109, 111, 118, 101], 0, true, true, false, false, false⟩,
   ⟨[116, 105, 109, 101, 115], 1, true, true, true, false, false⟩, ⟨[100, 105, 118, 105, 100, 101], 1, true, true, true, false, false⟩, ⟨[114, 101, 115, 116], 1, true, true, true, false, false⟩,
   ⟨[108, 111, 97, 100], 2, true, true, false, false, true⟩, ⟨[115, 116, 111, 114, 101], 2, false, true, true, false, true⟩, ⟨[112, 114, 105, 110, 116], 2, false, true, false, false, false⟩,
   ⟨[106, 117, 109, 112], 3, false, false, false, false, true⟩, ⟨[98, 114, 97, 110, 99, 104], 3, false, true, false, false, true⟩, ⟨[104, 97, 108, 116], 3, false, true, false, false, false⟩,
   ⟨[99, 111, 117, 110, 116], 3, false, true, false, false, true⟩, ⟨[115, 104, 111, 114, 116], 3, false, true, false, true, true⟩, ⟨[97, 103, 97, 105, 110], 3, false, false, false, false, true⟩]
def kOf (d : Int) : Option K := if 0 ≤ d then kindL[d.toNat]? else none
def kindCells : Array Value := (kindL.flatMap K.cells).toArray

set_option maxRecDepth 20000
def zeroCells : Array Value := (List.replicate 24 [Value.string ⟨#[]⟩, .int .i8 0, .int .u8 0]).flatten.toArray
theorem kind_one : kindCells.all (·.oneCell') = true := by kernel_rfl
theorem info119 : (Tryd.prog.info? 119).map (·.size) = some 72 := by kernel_rfl
theorem kindSize : kindCells.size = 72 := by kernel_rfl
theorem zeroSize : zeroCells.size = 72 := by kernel_rfl
set_option maxHeartbeats 4000000 in
theorem kinds_any (w : World) : Calls Tryd.prog 53 #[] w fun e w' => e = .returned (.agg kindCells) ∧ Below w.heap.size w w' := by
  have hZ := (zero_of_info (P := Tryd.prog) (t := 119) (v := .agg zeroCells) (n := 72) (by kernel_rfl)).1
  have hzs := zeroSize
  have hsc : Hid (_) := run_storeCells_new (P := Tryd.prog) w 119 zeroCells kindCells (by rw [kindSize]; exact info119) (by rw [kindSize, zeroSize]) kind_one
  go_enter Tryd.func53, Tryd.ntmps53
  go_wp2
  conv in storeCells _ _ _ => arg 2; change kindCells.toList
  rw [hsc.out]
  simp only [Result.andThen]
  rw [Oper.upon_skip]
  go_wp2
  (try simp only [Exit.inBlock, Exit.then])
  refine bodyPost_ret (v := .agg kindCells) (results_cell_row (P := Tryd.prog) Tryd.results53 _ _ w.heap.size 119 kindCells (0, 0) _ rfl (heap_alloc_last w _) Tryd.underlying119 rfl (by rw [kindSize]; exact info119)) rfl ⟨rfl, by go_grown⟩
end Go.Proofs.YtldfjlepbbmhnaaDoor.Op
namespace Go.Proofs.YtldfjlepbbmhnaaDoor.Tb
open Go.ChangeShapes Go.WideShapes Go.ChangeAt Go.RowKit
open Go.Proofs.YtldfjlepbbmhnaaDoor.Op (ret_bool ret_int bcell Wd wp_region_in calls_in)

/-- A machine's table: of each class three numbers, and the delay. -/
structure Tab where
  u : Nat → Int
  l : Nat → Int
  b : Nat → Int
  d : Int

abbrev Tab.cells (t : Tab) : Array Value := #[.int .i64 (t.u 0), .int .i64 (t.u 1), .int .i64 (t.u 2), .int .i64 (t.u 3), .int .i64 (t.l 0), .int .i64 (t.l 1), .int .i64 (t.l 2), .int .i64 (t.l 3), .int .i64 (t.b 0), .int .i64 (t.b 1), .int .i64 (t.b 2), .int .i64 (t.b 3), .int .i64 t.d]
def Tab.val (t : Tab) : Value := .agg #[.int .i64 (t.u 0), .int .i64 (t.u 1), .int .i64 (t.u 2), .int .i64 (t.u 3), .int .i64 (t.l 0), .int .i64 (t.l 1), .int .i64 (t.l 2), .int .i64 (t.l 3), .int .i64 (t.b 0), .int .i64 (t.b 1), .int .i64 (t.b 2), .int .i64 (t.b 3), .int .i64 t.d]

def inB (lo hi n : Int) : Bool := decide (lo ≤ n) && decide (n ≤ hi)

theorem hold_eq (lo hi n : Int) (w : World) :
    Calls Tryd.prog 55 #[.agg #[.int .i64 lo, .int .i64 hi], .int .i64 n] w fun e w' => e = .returned (.bool (inB lo hi n)) ∧ w' = w.alloc (.cells #[.int .i64 lo, .int .i64 hi] 123) := by
  by_cases h : lo ≤ n
  · go_enter Tryd.func55, Tryd.ntmps55
    go_wp2
    go_ret
    exact ⟨ret_bool (by simp [inB, h]), rfl⟩
  · go_enter Tryd.func55, Tryd.ntmps55
    go_wp2
    go_ret
    exact ⟨ret_bool (by simp [inB]; omega), rfl⟩

theorem hold_any (lo hi n : Int) (w : World) :
    Calls Tryd.prog 55 #[.agg #[.int .i64 lo, .int .i64 hi], .int .i64 n] w fun e w' => e = .returned (.bool (inB lo hi n)) ∧ Below w.heap.size w w' :=
  (hold_eq lo hi n w).mono fun _ _ h => ⟨h.1, by rw [h.2]; exact (Below.refl _ _).alloc (Nat.le_refl _) _⟩

/-- The four bounds, as the program lays them: blocks 0 to 3. -/
structure Bnds (w : World) : Prop where
  d0 : w.cell? ⟨0, 0, none⟩ = some (.int .i64 0)
  d1 : w.cell? ⟨0, 1, none⟩ = some (.int .i64 4)
  u0 : w.cell? ⟨1, 0, none⟩ = some (.int .i64 0)
  u1 : w.cell? ⟨1, 1, none⟩ = some (.int .i64 8)
  l0 : w.cell? ⟨2, 0, none⟩ = some (.int .i64 1)
  l1 : w.cell? ⟨2, 1, none⟩ = some (.int .i64 8)
  b0 : w.cell? ⟨3, 0, none⟩ = some (.int .i64 1)
  b1 : w.cell? ⟨3, 1, none⟩ = some (.int .i64 4)
  big : 5 ≤ w.heap.size

theorem Bnds.below {B : Nat} {w w' : World} (h : Bnds w) (hb : Below B w w') (hB : 5 ≤ B) : Bnds w' := by
  have c := (bcell hb).1
  have z := h.big
  have hs := hb.size
  exact ⟨by rw [c _ _ (by omega)]; exact h.d0, by rw [c _ _ (by omega)]; exact h.d1, by rw [c _ _ (by omega)]; exact h.u0, by rw [c _ _ (by omega)]; exact h.u1, by rw [c _ _ (by omega)]; exact h.l0, by rw [c _ _ (by omega)]; exact h.l1, by rw [c _ _ (by omega)]; exact h.b0, by rw [c _ _ (by omega)]; exact h.b1, by omega⟩

def okC (t : Tab) (k : Nat) : Bool := inB 0 8 (t.u k) && inB 1 8 (t.l k) && inB 1 4 (t.b k)
def Tab.ok (t : Tab) : Bool := inB 0 4 t.d && okC t 0 && okC t 1 && okC t 2 && okC t 3

/-- A table's numbers, laid in a block. -/
structure TabAt (w : World) (b : Nat) (t : Tab) : Prop where
  cu : ∀ k, k < 4 → w.cell? ⟨b, k, none⟩ = some (.int .i64 (t.u k))
  cl : ∀ k, k < 4 → w.cell? ⟨b, 4 + k, none⟩ = some (.int .i64 (t.l k))
  cb : ∀ k, k < 4 → w.cell? ⟨b, 8 + k, none⟩ = some (.int .i64 (t.b k))
  cd : w.cell? ⟨b, 12, none⟩ = some (.int .i64 t.d)
  lt : b < w.heap.size

theorem TabAt.below {B : Nat} {w w' : World} {b : Nat} {t : Tab} (h : TabAt w b t) (hb : Below B w w') (z : b < B) : TabAt w' b t := by
  have c := (bcell hb).1
  have z' := h.lt
  have hs := hb.size
  exact ⟨fun k hk => by rw [c _ _ z]; exact h.cu k hk, fun k hk => by rw [c _ _ z]; exact h.cl k hk, fun k hk => by rw [c _ _ z]; exact h.cb k hk, by rw [c _ _ z]; exact h.cd, by omega⟩

theorem four {p : Nat → Prop} (h0 : p 0) (h1 : p 1) (h2 : p 2) (h3 : p 3) : ∀ k, k < 4 → p k := by
  intro k hk
  match k, hk with
  | 0, _ => exact h0
  | 1, _ => exact h1
  | 2, _ => exact h2
  | 3, _ => exact h3

theorem tabAt_new (w : World) (t : Tab) (ty : TypeId) : TabAt (w.alloc (.cells t.cells ty)) w.heap.size t :=
  ⟨four (by simp [Tab.cells]) (by simp [Tab.cells]) (by simp [Tab.cells]) (by simp [Tab.cells]), four (by simp [Tab.cells]) (by simp [Tab.cells]) (by simp [Tab.cells]) (by simp [Tab.cells]), four (by simp [Tab.cells]) (by simp [Tab.cells]) (by simp [Tab.cells]) (by simp [Tab.cells]), by simp [Tab.cells], by simp⟩

def ckR (t : Tab) : Int := if t.ok then 0 else 20
theorem ckR_no {t : Tab} {k : Nat} (hk : k < 4) (h : okC t k = false) : 20 = ckR t := by
  have : t.ok = false := by
    unfold Tab.ok
    match k, hk, h with
    | 0, _, h => simp [h]
    | 1, _, h => simp [h]
    | 2, _, h => simp [h]
    | 3, _, h => simp [h]
  simp [ckR, this]
theorem ckR_yes {t : Tab} (hd : inB 0 4 t.d = true) (h : ∀ j, j < 4 → okC t j = true) : 0 = ckR t := by
  simp [ckR, Tab.ok, hd, h 0, h 1, h 2, h 3]

set_option maxHeartbeats 400000 in
theorem check_any (t : Tab) (w : World) (hG : Bnds w) :
    Calls Tryd.prog 35 #[t.val] w fun e w' => e = .returned (.int .i64 (ckR t)) ∧ Below w.heap.size w w' := by
  have hz := hG.big
  have hG0 : Hid (Bnds w) := hG
  obtain ⟨d0, d1, u0, u1, l0, l1, b0, b1, _⟩ := hG
  have z1 : 0 < w.heap.size := by omega
  cases hd : inB 0 4 t.d
  · unfold Tab.val
    go_enter Tryd.func35, Tryd.ntmps35
    go_wp2_with (first | (go_at_call 55; refine (hold_eq _ _ _ _).mono ?_; rintro e w' ⟨rfl, rfl⟩))
    go_ret
    exact ⟨ret_int (by simp [ckR, Tab.ok, hd]), ((Below.refl _ _).alloc (Nat.le_refl _) _).alloc (by simp) _⟩
  · unfold Tab.val
    go_enter Tryd.func35, Tryd.ntmps35
    go_wp2_with (first | (go_at_call 55; refine (hold_eq _ _ _ _).mono ?_; rintro e w' ⟨rfl, rfl⟩))
    go_loopw [9] (fun i wr => ∃ k : Nat, k ≤ 4 ∧ i = .int .i64 k ∧ (∀ j, j < k → okC t j = true) ∧ Bnds wr ∧ TabAt wr w.heap.size t ∧ Below w.heap.size w wr) (fun i _ => 4 - (intOf i).toNat)
    case atStart => 
      have hb1 : Below w.heap.size w (w.alloc (.cells t.cells 25)) := (Below.refl _ _).alloc (Nat.le_refl _) _
      have hb2 : Below (w.heap.size + 1) (w.alloc (.cells t.cells 25)) ((w.alloc (.cells t.cells 25)).alloc (Obj.cells #[Value.int IntKind.i64 0, Value.int IntKind.i64 4] 123)) := (Below.refl _ _).alloc (by simp) _
      exact ⟨0, by omega, rfl, fun j hj => by omega, (hG0.out.below hb1 hz).below hb2 (by omega), (tabAt_new w t 25).below hb2 (by omega), hb1.trans (hb2.mono (by omega))⟩
    case round =>
      rename_i wr
      obtain ⟨k, hk, rfl, hok, hGr, hT, hbw⟩ := hrel
      by_cases hlt : k < 4
      · have hGr' := hGr
        obtain ⟨e0, e1, u0', u1', l0', l1', b0', b1', hz'⟩ := hGr'
        have hu := hT.cu k hlt
        have hl := hT.cl k hlt
        have hbb := hT.cb k hlt
        have i1 : (0 : Int) ≤ (k : Int) := by omega
        have i2 : (k : Int) < 4 := by omega
        have hz2 : 5 ≤ wr.heap.size := hz'
        have c20 : ∀ x : Wd (Below wr.heap.size wr), x.w.cell? ⟨1, 0, none⟩ = some (.int .i64 0) := fun x => by rw [(bcell x.ok).1 _ _ (by omega)]; exact u0'
        have c21 : ∀ x : Wd (Below wr.heap.size wr), x.w.cell? ⟨1, 1, none⟩ = some (.int .i64 8) := fun x => by rw [(bcell x.ok).1 _ _ (by omega)]; exact u1'
        have c30 : ∀ x : Wd (Below wr.heap.size wr), x.w.cell? ⟨2, 0, none⟩ = some (.int .i64 1) := fun x => by rw [(bcell x.ok).1 _ _ (by omega)]; exact l0'
        have c31 : ∀ x : Wd (Below wr.heap.size wr), x.w.cell? ⟨2, 1, none⟩ = some (.int .i64 8) := fun x => by rw [(bcell x.ok).1 _ _ (by omega)]; exact l1'
        have c40 : ∀ x : Wd (Below wr.heap.size wr), x.w.cell? ⟨3, 0, none⟩ = some (.int .i64 1) := fun x => by rw [(bcell x.ok).1 _ _ (by omega)]; exact b0'
        have c41 : ∀ x : Wd (Below wr.heap.size wr), x.w.cell? ⟨3, 1, none⟩ = some (.int .i64 4) := fun x => by rw [(bcell x.ok).1 _ _ (by omega)]; exact b1'
        have cu : ∀ x : Wd (Below wr.heap.size wr), x.w.cell? ⟨w.heap.size, k, none⟩ = some (.int .i64 (t.u k)) := fun x => by rw [(bcell x.ok).1 _ _ hT.lt]; exact hu
        have cl : ∀ x : Wd (Below wr.heap.size wr), x.w.cell? ⟨w.heap.size, 4 + k, none⟩ = some (.int .i64 (t.l k)) := fun x => by rw [(bcell x.ok).1 _ _ hT.lt]; exact hl
        have cb : ∀ x : Wd (Below wr.heap.size wr), x.w.cell? ⟨w.heap.size, 8 + k, none⟩ = some (.int .i64 (t.b k)) := fun x => by rw [(bcell x.ok).1 _ _ hT.lt]; exact hbb
        haveI inst : Nonempty (Wd (Below wr.heap.size wr)) := ⟨⟨wr, Below.refl _ _⟩⟩
        cases h1 : inB 0 8 (t.u k)
        rotate_left
        cases h2 : inB 1 8 (t.l k)
        rotate_left
        cases h3 : inB 1 4 (t.b k)
        rotate_left
        all_goals
          go_wp2
          refine wp_region_in (Below wr.heap.size wr) (by kernel_rfl) (by kernel_rfl) ((Below.refl _ _).drew) ?_
          repeat (first | go_big_quiet_step ((go_at_call 55; exact calls_in (Nat.le_refl _) _ (hold_any _ _ _ _))))
          refine wpQuiet_nil ?_
          rintro _ ⟨x, rfl⟩
          have hx := x.ok
          go_wp2
        · go_roundw
          case rel => exact ⟨k + 1, by omega, by go_num, fun j hj => by
            rcases Nat.lt_or_ge j k with h | h
            · exact hok j h
            · obtain rfl : j = k := by omega
              simp [okC, h1, h2, h3], hGr.below hx hz2, hT.below hx hT.lt, hbw.trans (hx.mono hbw.size)⟩
          case measure => simp [intOf]; omega
        all_goals
          go_ret
          refine ⟨ret_int (ckR_no hlt ?_), hbw.trans (hx.mono hbw.size)⟩
          simp [okC, *]
      · obtain rfl : k = 4 := by omega
        go_wp2
        go_ret
        exact ⟨ret_int (ckR_yes hd hok), hbw⟩

theorem inB_iff {lo hi n : Int} (h : inB lo hi n = true) : lo ≤ n ∧ n ≤ hi := by simpa [inB] using h
theorem ok_parts {t : Tab} (h : t.ok = true) : inB 0 4 t.d = true ∧ ∀ k, k < 4 → inB 0 8 (t.u k) = true ∧ inB 1 8 (t.l k) = true ∧ inB 1 4 (t.b k) = true := by
  simp only [Tab.ok, okC, Bool.and_eq_true] at h
  obtain ⟨⟨⟨⟨a, b⟩, c⟩, d⟩, e⟩ := h
  exact ⟨a, four ⟨b.1.1, b.1.2, b.2⟩ ⟨c.1.1, c.1.2, c.2⟩ ⟨d.1.1, d.1.2, d.2⟩ ⟨e.1.1, e.1.2, e.2⟩⟩

end Go.Proofs.YtldfjlepbbmhnaaDoor.Tb
namespace Go.Proofs.YtldfjlepbbmhnaaDoor.Op
open Go.ChangeShapes Go.WideShapes Go.ChangeAt Go.RowKit
set_option maxRecDepth 20000

abbrev kz : Value := .agg #[.string ⟨#[]⟩, .int .i8 0, .int .u8 0]
abbrev K.val (k : K) : Value := .agg #[.string k.s, .int .i8 k.cls, .int .u8 k.fields]

theorem new_cells (w : World) (c : Array Value) (t : TypeId) {w' : World} (hb : Below (w.alloc (.cells c t)).heap.size (w.alloc (.cells c t)) w') :
    (∀ (j : Nat) v, c[j]? = some v → w'.cell? ⟨w.heap.size, j, none⟩ = some v) ∧ (∀ j : Nat, w'.frozen? ⟨w.heap.size, j, none⟩ = false) ∧ Below w.heap.size w w' ∧ w.heap.size < w'.heap.size := by
  have hz := hb.size
  simp at hz
  refine ⟨fun j v h => ?_, fun j => ?_, ((Below.refl _ _).alloc (Nat.le_refl _) _).trans (hb.mono (by simp)), hz⟩
  · rw [(bcell hb).1 _ _ (by simp)]; simp [h]
  · rw [(bcell hb).2 _ _ (by simp)]; simp
theorem kOf_some {d : Int} {k : K} (h : kOf d = some k) : ∃ (n : Nat) (hn : n < 24), d = n ∧ kindL[n]'hn = k := by
  unfold kOf at h
  split at h
  · rename_i h0
    obtain ⟨n, rfl⟩ := Int.eq_ofNat_of_zero_le h0
    obtain ⟨hn, e⟩ := List.getElem?_eq_some_iff.1 h
    exact ⟨n, hn, rfl, e⟩
  · cases h
theorem kOf_out {d : Int} (h : kOf d = none) : d < 0 ∨ 24 ≤ d := by
  unfold kOf at h
  split at h
  · rename_i h0
    have := List.getElem?_eq_none_iff.1 h
    simp [kindL] at this
    omega
  · omega

theorem kindOf_no (d : Int) (w : World) (h1 : -128 ≤ d) (h2 : d ≤ 127) (h : kOf d = none) :
    Calls Tryd.prog 32 #[.int .i8 d] w fun e w' => e = .returned (.tuple #[kz, .bool false]) ∧ Below w.heap.size w w' := by
  have hd : 24 ≤ d % 256 := by have := kOf_out h; omega
  clear h
  go_enter Tryd.func32, Tryd.ntmps32
  go_wp2
  refine bodyPost_ret (v := .tuple #[kz, .bool false]) (by simp [results, Tryd.results32, go_sem]) rfl ⟨rfl, by go_grown⟩

theorem index80 (d : Nat) (h : d < 24) (w : World) : (Instr.index 119 (.agg kindCells) (.int .i8 d)).run Tryd.prog w = .ok (.agg (kindCells.extract (d * 3) (d * 3 + 3))) w := by
  simp [Instr.index, asIntOf, Tryd.sizeOf92, Tryd.isAgg92, part, go_sem]
  intro hc; omega
theorem kindRow (d : Nat) (h : d < 24) : Value.agg (kindCells.extract (d * 3) (d * 3 + 3)) = (kindL[d]'h).val := by
  match d, h with
  | 0, _ => rfl
  | 1, _ => rfl
  | 2, _ => rfl
  | 3, _ => rfl
  | 4, _ => rfl
  | 5, _ => rfl
  | 6, _ => rfl
  | 7, _ => rfl
  | 8, _ => rfl
  | 9, _ => rfl
  | 10, _ => rfl
  | 11, _ => rfl
  | 12, _ => rfl
  | 13, _ => rfl
  | 14, _ => rfl
  | 15, _ => rfl
  | 16, _ => rfl
  | 17, _ => rfl
  | 18, _ => rfl
  | 19, _ => rfl
  | 20, _ => rfl
  | 21, _ => rfl
  | 22, _ => rfl
  | 23, _ => rfl
  | _ + 24, h => exact absurd h (by omega)

theorem kindOf_yes (d : Int) (k : K) (w : World) (h : kOf d = some k) :
    Calls Tryd.prog 32 #[.int .i8 d] w fun e w' => e = .returned (.tuple #[k.val, .bool true]) ∧ Below w.heap.size w w' := by
  obtain ⟨n, hn, rfl, hk⟩ := kOf_some h
  clear h
  have hi : ∀ w, (Instr.index 119 (.agg kindCells) (.int .i8 n)).run Tryd.prog w = .ok k.val w := fun w => by rw [index80 n hn, kindRow n hn, hk]
  clear hk
  have hd : (n : Int) % 256 < 24 := by omega
  go_enter Tryd.func32, Tryd.ntmps32
  go_wp2_with (first | (go_at_call 53; refine (kinds_any _).mono ?_; rintro e w' ⟨rfl, hb⟩; obtain ⟨hc, hf, HB0, hz⟩ := new_cells w _ _ hb; have c0 := hc 0 _ rfl; have c1 := hc 1 _ rfl; have c2 := hc 2 _ rfl; have f0 := hf 0; have f1 := hf 1; have f2 := hf 2; have HB : Hid (Below w.heap.size w w') := HB0; clear hb HB0 hc hf))
  refine bodyPost_ret (v := .tuple #[k.val, .bool true]) (by simp [results, Tryd.results32, go_sem, c0, c1, c2]) rfl ⟨rfl, HB.out.trans ?_⟩
  go_grown

theorem counts_any (s : ByteArray) (c f m : Int) (w : World) : Calls Tryd.prog 34 #[.agg #[.string s, .int .i8 c, .int .u8 f], .int .u8 m] w fun e w' => e = .returned (.bool (bits .and .u8 f m != 0)) ∧ Below w.heap.size w w' := by
  go_enter Tryd.func34, Tryd.ntmps34
  go_wp2
  go_ret
  exact ⟨rfl, by go_grown⟩
theorem and_D (k : K) : (bits .and .u8 k.fields 1 != 0) = k.D :=
  (by decide : ∀ D A B N I : Bool, (bits .and .u8 (bi D 1 + bi A 2 + bi B 4 + bi I 8 + bi N 16) 1 != 0) = D) k.D k.A k.B k.N k.I
theorem and_A (k : K) : (bits .and .u8 k.fields 2 != 0) = k.A :=
  (by decide : ∀ D A B N I : Bool, (bits .and .u8 (bi D 1 + bi A 2 + bi B 4 + bi I 8 + bi N 16) 2 != 0) = A) k.D k.A k.B k.N k.I
theorem and_I (k : K) : (bits .and .u8 k.fields 8 != 0) = k.I :=
  (by decide : ∀ D A B N I : Bool, (bits .and .u8 (bi D 1 + bi A 2 + bi B 4 + bi I 8 + bi N 16) 8 != 0) = I) k.D k.A k.B k.N k.I
theorem and_BN (k : K) : (bits .and .u8 k.fields 20 != 0) = (k.B || k.N) :=
  (by decide : ∀ D A B N I : Bool, (bits .and .u8 (bi D 1 + bi A 2 + bi B 4 + bi I 8 + bi N 16) 20 != 0) = (B || N)) k.D k.A k.B k.N k.I
def rH (r : Int) (c : Bool) : Bool := if c then decide (r < 32) else r == 0
def iH (i : Int) (c : Bool) : Bool := if c then decide (-2147483648 ≤ i ∧ i ≤ 2147483647) else i == 0
theorem regHolds (r : Int) (c : Bool) (w : World) : Calls Tryd.prog 68 #[.int .u8 r, .bool c] w fun e w' => e = .returned (.bool (rH r c)) ∧ w' = w := by
  cases c
  all_goals
    go_enter Tryd.func68, Tryd.ntmps68
    go_wp2
    go_ret
    exact ⟨rfl, rfl⟩
theorem fits32 (i : Int) : fitsI i 32 = decide (-2147483648 ≤ i ∧ i ≤ 2147483647) := by
  unfold fitsI sgI
  rw [show (cl 32).toNat = 32 from rfl, Bool.eq_iff_iff]
  simp only [decide_eq_true_eq]
  rw [sg_iff _ 32 (by decide)]
  simp
  omega
theorem immHolds (i : Int) (c : Bool) (w : World) : Calls Tryd.prog 69 #[.int .i64 i, .bool c] w fun e w' => e = .returned (.bool (iH i c)) ∧ w' = w := by
  cases c
  all_goals
    go_enter Tryd.func69, Tryd.ntmps69
    go_wp2_with (first | (go_at_call 86; refine (fits_any _ _ _).mono ?_; rintro e w' ⟨rfl, rfl⟩))
    go_ret
    exact ⟨by simp [iH, fits32], rfl⟩

/-- An operation's five numbers. -/
structure O where
  op : Int
  d : Int
  a : Int
  b : Int
  im : Int
abbrev O.cells (o : O) : Array Value := #[.int .i8 o.op, .int .u8 o.d, .int .u8 o.a, .int .u8 o.b, .int .i64 o.im]
abbrev O.val (o : O) : Value := .agg #[.int .i8 o.op, .int .u8 o.d, .int .u8 o.a, .int .u8 o.b, .int .i64 o.im]
structure O.Ok (o : O) : Prop where
  op0 : -128 ≤ o.op
  op1 : o.op ≤ 127
  d0 : 0 ≤ o.d
  d1 : o.d ≤ 255
  a0 : 0 ≤ o.a
  a1 : o.a ≤ 255
  b0 : 0 ≤ o.b
  b1 : o.b ≤ 255
  i0 : -9223372036854775808 ≤ o.im
  i1 : o.im ≤ 9223372036854775807
def okF (k : K) (o : O) : Bool := rH o.d k.D && rH o.a k.A && rH o.b (k.B || k.N) && iH o.im k.I
def okO (o : O) : Bool := match kOf o.op with | some k => okF k o | none => false
end Go.Proofs.YtldfjlepbbmhnaaDoor.Op
namespace Go.Proofs.YtldfjlepbbmhnaaDoor.Op
open Go.ChangeShapes Go.WideShapes Go.ChangeAt Go.RowKit
set_option maxRecDepth 20000

/-- An operation at a place. -/
structure OAt (w : World) (b f : Nat) (o : O) : Prop where
  c0 : w.cell? ⟨b, f, none⟩ = some (.int .i8 o.op)
  c1 : w.cell? ⟨b, f + 1, none⟩ = some (.int .u8 o.d)
  c2 : w.cell? ⟨b, f + 2, none⟩ = some (.int .u8 o.a)
  c3 : w.cell? ⟨b, f + 3, none⟩ = some (.int .u8 o.b)
  c4 : w.cell? ⟨b, f + 4, none⟩ = some (.int .i64 o.im)
theorem OAt.below {w w' : World} {b f B : Nat} {o : O} (h : OAt w b f o) (hb : Below B w w') (z : b < B) : OAt w' b f o := by
  have c := (bcell hb).1
  exact ⟨by rw [c _ _ z]; exact h.c0, by rw [c _ _ z]; exact h.c1, by rw [c _ _ z]; exact h.c2, by rw [c _ _ z]; exact h.c3, by rw [c _ _ z]; exact h.c4⟩

/-- A list of operations in memory. -/
structure OpsAt (w : World) (ao : Option Addr) (xs : List O) : Prop where
  ok : ∀ o, o ∈ xs → o.Ok
  len : xs.length ≤ 8796093022208
  is : 0 < xs.length → ∃ b f, ao = some ⟨b, f, none⟩ ∧ b < w.heap.size ∧ ∀ (i : Nat) (h : i < xs.length), OAt w b (f + i * 5) xs[i]
theorem OpsAt.below {w w' : World} {ao : Option Addr} {xs : List O} (h : OpsAt w ao xs) (hb : Below w.heap.size w w') : OpsAt w' ao xs := by
  refine ⟨h.ok, h.len, fun h0 => ?_⟩
  obtain ⟨b, f, e, z, hx⟩ := h.is h0
  exact ⟨b, f, e, Nat.lt_of_lt_of_le z hb.size, fun i hi => (hx i hi).below hb z⟩

/-- A block: its operations, how it ends, the body of its loop, where it goes on. -/
structure Bk where
  ops : List O
  fin : Int
  a : Int
  body : List O
  thn : Int
  els : Int
structure Bk.Ok (x : Bk) : Prop where
  f0 : -128 ≤ x.fin
  f1 : x.fin ≤ 127
  a0 : 0 ≤ x.a
  a1 : x.a ≤ 255
  t0 : -9223372036854775808 ≤ x.thn
  t1 : x.thn ≤ 9223372036854775807
  e0 : -9223372036854775808 ≤ x.els
  e1 : x.els ≤ 9223372036854775807

/-- Where a block's two lists lie. -/
structure Pl where
  oa : Option Addr
  oc : Nat
  ba : Option Addr
  bc : Nat
abbrev Bk.cells (x : Bk) (p : Pl) : Array Value := #[.slice p.oa x.ops.length p.oc, .int .i8 x.fin, .int .u8 x.a, .slice p.ba x.body.length p.bc, .int .i64 x.thn, .int .i64 x.els]
abbrev Bk.val (x : Bk) (p : Pl) : Value := .agg #[.slice p.oa x.ops.length p.oc, .int .i8 x.fin, .int .u8 x.a, .slice p.ba x.body.length p.bc, .int .i64 x.thn, .int .i64 x.els]
/-- A block's value, with its lists in memory. -/
structure BIn (w : World) (x : Bk) (p : Pl) : Prop where
  ok : x.Ok
  o : OpsAt w p.oa x.ops
  b : OpsAt w p.ba x.body
  c : x.ops.length ≤ p.oc
theorem BIn.below {w w' : World} {x : Bk} {p : Pl} (h : BIn w x p) (hb : Below w.heap.size w w') : BIn w' x p := ⟨h.ok, h.o.below hb, h.b.below hb, h.c⟩
structure BAt (w : World) (b f : Nat) (x : Bk) (p : Pl) : Prop where
  c0 : w.cell? ⟨b, f, none⟩ = some (.slice p.oa x.ops.length p.oc)
  c1 : w.cell? ⟨b, f + 1, none⟩ = some (.int .i8 x.fin)
  c2 : w.cell? ⟨b, f + 2, none⟩ = some (.int .u8 x.a)
  c3 : w.cell? ⟨b, f + 3, none⟩ = some (.slice p.ba x.body.length p.bc)
  c4 : w.cell? ⟨b, f + 4, none⟩ = some (.int .i64 x.thn)
  c5 : w.cell? ⟨b, f + 5, none⟩ = some (.int .i64 x.els)
theorem BAt.below {w w' : World} {b f B : Nat} {x : Bk} {p : Pl} (h : BAt w b f x p) (hb : Below B w w') (z : b < B) : BAt w' b f x p := by
  have c := (bcell hb).1
  exact ⟨by rw [c _ _ z]; exact h.c0, by rw [c _ _ z]; exact h.c1, by rw [c _ _ z]; exact h.c2, by rw [c _ _ z]; exact h.c3, by rw [c _ _ z]; exact h.c4, by rw [c _ _ z]; exact h.c5⟩

/-- A program in memory. -/
structure PAt (w : World) (ao : Option Addr) (ps : List Bk) : Prop where
  len : ps.length ≤ 2199023255552
  is : 0 < ps.length → ∃ b f, ao = some ⟨b, f, none⟩ ∧ b < w.heap.size ∧ ∀ (i : Nat) (h : i < ps.length), ∃ p, BAt w b (f + i * 6) ps[i] p ∧ BIn w ps[i] p
theorem PAt.below {w w' : World} {ao : Option Addr} {ps : List Bk} (h : PAt w ao ps) (hb : Below w.heap.size w w') : PAt w' ao ps := by
  refine ⟨h.len, fun h0 => ?_⟩
  obtain ⟨b, f, e, z, hx⟩ := h.is h0
  refine ⟨b, f, e, Nat.lt_of_lt_of_le z hb.size, fun i hi => ?_⟩
  obtain ⟨p, h1, h2⟩ := hx i hi
  exact ⟨p, h1.below hb z, h2.below hb⟩
end Go.Proofs.YtldfjlepbbmhnaaDoor.Op
