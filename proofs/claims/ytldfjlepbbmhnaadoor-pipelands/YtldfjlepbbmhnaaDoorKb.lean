/- What package ops answers of an operation's kind and fields (kindOf, counts, fieldsHold, checked, Check, Class, Writes), read off the program by the walk. Conditions: each field is a number of its own width. -/
import Derived.Test.YtldfjlepbbmhnaaDoorKa
namespace Go.Proofs.YtldfjlepbbmhnaaDoor.Op
open Go.ChangeShapes Go.WideShapes Go.ChangeAt Go.RowKit
set_option maxRecDepth 20000

abbrev kz : Value := .agg #[.string ⟨#[]⟩, .int .i8 0, .int .u8 0]
abbrev K.val (k : K) : Value := .agg #[.string k.s, .int .i8 k.cls, .int .u8 k.fields]

theorem new_cells (w : World) (c : Array Value) (t : TypeId) {w' : World} (hb : Below (w.alloc (.cells c t)).heap.size (w.alloc (.cells c t)) w') :
    (∀ (j : Nat) v, c[j]? = some v → w'.cell? ⟨w.heap.size, j, none⟩ = some v) ∧ (∀ j : Nat, w'.frozen? ⟨w.heap.size, j, none⟩ = false) ∧ Below w.heap.size w w' ∧ w.heap.size < w'.heap.size := by
  have hz := hb.size
  simp at hz
  refine ⟨fun j v h => ?_, fun j => ?_, ((Below.refl _ _).alloc (Nat.le_refl _) _).trans (hb.mono (by simp)), hz⟩
  · rw [(bcell hb).1 _ _ (by simp)]; simp [h]
  · rw [(bcell hb).2 _ _ (by simp)]; simp
theorem kOf_some {d : Int} {k : K} (h : kOf d = some k) : ∃ (n : Nat) (hn : n < 24), d = n ∧ kindL[n]'hn = k := by
  unfold kOf at h
  split at h
  · rename_i h0
    obtain ⟨n, rfl⟩ := Int.eq_ofNat_of_zero_le h0
    obtain ⟨hn, e⟩ := List.getElem?_eq_some_iff.1 h
    exact ⟨n, hn, rfl, e⟩
  · cases h
theorem kOf_out {d : Int} (h : kOf d = none) : d < 0 ∨ 24 ≤ d := by
  unfold kOf at h
  split at h
  · rename_i h0
    have := List.getElem?_eq_none_iff.1 h
    simp [kindL] at this
    omega
  · omega

theorem kindOf_no (d : Int) (w : World) (h1 : -128 ≤ d) (h2 : d ≤ 127) (h : kOf d = none) :
    Calls Tryd.prog 32 #[.int .i8 d] w fun e w' => e = .returned (.tuple #[kz, .bool false]) ∧ Below w.heap.size w w' := by
  have hd : 24 ≤ d % 256 := by have := kOf_out h; omega
  clear h
  go_enter Tryd.func32, Tryd.ntmps32
  go_wp2
  refine bodyPost_ret (v := .tuple #[kz, .bool false]) (by simp [results, Tryd.results32, go_sem]) rfl ⟨rfl, by go_grown⟩

theorem index80 (d : Nat) (h : d < 24) (w : World) : (Instr.index 119 (.agg kindCells) (.int .i8 d)).run Tryd.prog w = .ok (.agg (kindCells.extract (d * 3) (d * 3 + 3))) w := by
  simp [Instr.index, asIntOf, Tryd.sizeOf92, Tryd.isAgg92, part, go_sem]
  intro hc; omega
theorem kindRow (d : Nat) (h : d < 24) : Value.agg (kindCells.extract (d * 3) (d * 3 + 3)) = (kindL[d]'h).val := by
  match d, h with
  | 0, _ => rfl
  | 1, _ => rfl
  | 2, _ => rfl
  | 3, _ => rfl
  | 4, _ => rfl
  | 5, _ => rfl
  | 6, _ => rfl
  | 7, _ => rfl
  | 8, _ => rfl
  | 9, _ => rfl
  | 10, _ => rfl
  | 11, _ => rfl
  | 12, _ => rfl
  | 13, _ => rfl
  | 14, _ => rfl
  | 15, _ => rfl
  | 16, _ => rfl
  | 17, _ => rfl
  | 18, _ => rfl
  | 19, _ => rfl
  | 20, _ => rfl
  | 21, _ => rfl
  | 22, _ => rfl
  | 23, _ => rfl
  | _ + 24, h => exact absurd h (by omega)

theorem kindOf_yes (d : Int) (k : K) (w : World) (h : kOf d = some k) :
    Calls Tryd.prog 32 #[.int .i8 d] w fun e w' => e = .returned (.tuple #[k.val, .bool true]) ∧ Below w.heap.size w w' := by
  obtain ⟨n, hn, rfl, hk⟩ := kOf_some h
  clear h
  have hi : ∀ w, (Instr.index 119 (.agg kindCells) (.int .i8 n)).run Tryd.prog w = .ok k.val w := fun w => by rw [index80 n hn, kindRow n hn, hk]
  clear hk
  have hd : (n : Int) % 256 < 24 := by omega
  go_enter Tryd.func32, Tryd.ntmps32
  go_wp2_with (first | (go_at_call 53; refine (kinds_any _).mono ?_; rintro e w' ⟨rfl, hb⟩; obtain ⟨hc, hf, HB0, hz⟩ := new_cells w _ _ hb; have c0 := hc 0 _ rfl; have c1 := hc 1 _ rfl; have c2 := hc 2 _ rfl; have f0 := hf 0; have f1 := hf 1; have f2 := hf 2; have HB : Hid (Below w.heap.size w w') := HB0; clear hb HB0 hc hf))
  refine bodyPost_ret (v := .tuple #[k.val, .bool true]) (by simp [results, Tryd.results32, go_sem, c0, c1, c2]) rfl ⟨rfl, HB.out.trans ?_⟩
  go_grown

theorem counts_any (s : ByteArray) (c f m : Int) (w : World) : Calls Tryd.prog 34 #[.agg #[.string s, .int .i8 c, .int .u8 f], .int .u8 m] w fun e w' => e = .returned (.bool (bits .and .u8 f m != 0)) ∧ Below w.heap.size w w' := by
  go_enter Tryd.func34, Tryd.ntmps34
  go_wp2
  go_ret
  exact ⟨rfl, by go_grown⟩
theorem and_D (k : K) : (bits .and .u8 k.fields 1 != 0) = k.D :=
  (by decide : ∀ D A B N I : Bool, (bits .and .u8 (bi D 1 + bi A 2 + bi B 4 + bi I 8 + bi N 16) 1 != 0) = D) k.D k.A k.B k.N k.I
theorem and_A (k : K) : (bits .and .u8 k.fields 2 != 0) = k.A :=
  (by decide : ∀ D A B N I : Bool, (bits .and .u8 (bi D 1 + bi A 2 + bi B 4 + bi I 8 + bi N 16) 2 != 0) = A) k.D k.A k.B k.N k.I
theorem and_I (k : K) : (bits .and .u8 k.fields 8 != 0) = k.I :=
  (by decide : ∀ D A B N I : Bool, (bits .and .u8 (bi D 1 + bi A 2 + bi B 4 + bi I 8 + bi N 16) 8 != 0) = I) k.D k.A k.B k.N k.I
theorem and_BN (k : K) : (bits .and .u8 k.fields 20 != 0) = (k.B || k.N) :=
  (by decide : ∀ D A B N I : Bool, (bits .and .u8 (bi D 1 + bi A 2 + bi B 4 + bi I 8 + bi N 16) 20 != 0) = (B || N)) k.D k.A k.B k.N k.I
def rH (r : Int) (c : Bool) : Bool := if c then decide (r < 32) else r == 0
def iH (i : Int) (c : Bool) : Bool := if c then decide (-2147483648 ≤ i ∧ i ≤ 2147483647) else i == 0
theorem regHolds (r : Int) (c : Bool) (w : World) : Calls Tryd.prog 68 #[.int .u8 r, .bool c] w fun e w' => e = .returned (.bool (rH r c)) ∧ w' = w := by
  cases c
  all_goals
    go_enter Tryd.func68, Tryd.ntmps68
    go_wp2
    go_ret
    exact ⟨rfl, rfl⟩
theorem fits32 (i : Int) : fitsI i 32 = decide (-2147483648 ≤ i ∧ i ≤ 2147483647) := by
  unfold fitsI sgI
  rw [show (cl 32).toNat = 32 from rfl, Bool.eq_iff_iff]
  simp only [decide_eq_true_eq]
  rw [sg_iff _ 32 (by decide)]
  simp
  omega
theorem immHolds (i : Int) (c : Bool) (w : World) : Calls Tryd.prog 69 #[.int .i64 i, .bool c] w fun e w' => e = .returned (.bool (iH i c)) ∧ w' = w := by
  cases c
  all_goals
    go_enter Tryd.func69, Tryd.ntmps69
    go_wp2_with (first | (go_at_call 86; refine (fits_any _ _ _).mono ?_; rintro e w' ⟨rfl, rfl⟩))
    go_ret
    exact ⟨by simp [iH, fits32], rfl⟩

/-- An operation's five numbers. -/
structure O where
  op : Int
  d : Int
  a : Int
  b : Int
  im : Int
abbrev O.cells (o : O) : Array Value := #[.int .i8 o.op, .int .u8 o.d, .int .u8 o.a, .int .u8 o.b, .int .i64 o.im]
abbrev O.val (o : O) : Value := .agg #[.int .i8 o.op, .int .u8 o.d, .int .u8 o.a, .int .u8 o.b, .int .i64 o.im]
structure O.Ok (o : O) : Prop where
  op0 : -128 ≤ o.op
  op1 : o.op ≤ 127
  d0 : 0 ≤ o.d
  d1 : o.d ≤ 255
  a0 : 0 ≤ o.a
  a1 : o.a ≤ 255
  b0 : 0 ≤ o.b
  b1 : o.b ≤ 255
  i0 : -9223372036854775808 ≤ o.im
  i1 : o.im ≤ 9223372036854775807
def okF (k : K) (o : O) : Bool := rH o.d k.D && rH o.a k.A && rH o.b (k.B || k.N) && iH o.im k.I
def okO (o : O) : Bool := match kOf o.op with | some k => okF k o | none => false
end Go.Proofs.YtldfjlepbbmhnaaDoor.Op
