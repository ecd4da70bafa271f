/- The statement TableReads, once the reference's Parse is known: package table's Parse answers what the document's answer. Conditions: the variables lie in memory as the program lays them; the reference's Parse answers parseF. -/
import Derived.Test.YtgabnjiapkkjaaaGreatDoorBk
namespace Go.Proofs.YtgabnjiapkkjaaaGreatDoor.Tb
open Go.ChangeShapes Go.WideShapes Go.ChangeAt Go.RowKit

/-- What the reference's Parse answers. -/
def RpPost (F : Option (Int × Nat × List UInt8) × Tab) (w : World) (e : Ending) (w' : World) : Prop :=
  ((F.1 = none ∧ e = .returned (.tuple #[F.2.val, .agg #[.int .i64 0, .int .i64 0, .string ⟨#[]⟩]])) ∨
  ∃ f, F.1 = some f ∧ e = .returned (.tuple #[tab0.val, .agg #[.int .i64 f.1, .int .i64 (f.2.1 : Int), .string ⟨f.2.2.toArray⟩]])) ∧ Below w.heap.size w w'
theorem FaultAt.below {w w' : World} {q : Nat} {c a : Int} {s : ByteArray} (h : FaultAt w q c a s) (hb : Below w.heap.size w w') : FaultAt w' q c a s := by
  unfold FaultAt at h ⊢
  have hlt : q < w.heap.size := by
    rcases Nat.lt_or_ge q w.heap.size with h' | h'
    · exact h'
    · rw [Array.getElem?_eq_none h'] at h; cases h
  rw [hb.block q hlt]; exact h

set_option maxRecDepth 20000 in
set_option maxHeartbeats 1000000 in
theorem reads_long (s : ByteArray) (w : World) (hs : s.size ≤ maxLen) (hE : Env w) (hl : 131072 < s.size) : Calls Tryz.prog 4 #[.string s] w fun e w' => e = .returned (.bool true) ∧ Below w.heap.size w w' := by
  have HE : Hid (Env w) := hE
  unfold maxLen at hs
  clear hE
  go_enter Tryz.func4, Tryz.ntmps4
  go_wp2_with (first | (go_at_call 13; refine Calls.mono (wakes_any _ HE.out) ?_; rintro e w9 ⟨rfl, hb9⟩))
  go_ret
  exact ⟨rfl, hb9⟩

set_option maxRecDepth 20000 in
set_option maxHeartbeats 1000000 in
theorem reads_good (s : ByteArray) (w : World) (hs : s.size ≤ maxLen) (hE : Env w) (hl : s.size ≤ 131072) (hp : (parseF s.data.toList).1 = none) (hR : ∀ w', Env w' → Calls Tryz.prog 15 #[.string s] w' (RpPost (parseF s.data.toList) w')) :
    Calls Tryz.prog 4 #[.string s] w fun e w' => e = .returned (.bool true) ∧ Below w.heap.size w w' := by
  have HE : Hid (Env w) := hE
  have hps : Hid (∀ w', Env w' → Calls Tryz.prog 14 #[.string s] w' fun e w'' => e = .returned (.tuple #[(parseF s.data.toList).2.val, .nilIface]) ∧ Below w'.heap.size w' w'') := parse_good s hs hp
  have hrs : Hid (∀ w', Env w' → Calls Tryz.prog 15 #[.string s] w' fun e w'' => e = .returned (.tuple #[(parseF s.data.toList).2.val, .agg #[.int .i64 0, .int .i64 0, .string ⟨#[]⟩]]) ∧ Below w'.heap.size w' w'') := fun w' hE' => (hR w' hE').mono (by
    rintro e w2 ⟨⟨_, h1⟩ | ⟨f, h1, _⟩, h2⟩
    · exact ⟨h1, h2⟩
    · rw [hp] at h1; cases h1)
  clear hR hE
  generalize (parseF s.data.toList).2 = u at *
  have HUn : Hid (∀ w' : World, TabAt (w'.alloc (.cells u.cells 24)) w'.heap.size u) := fun w' => tabAt_new w' u 24
  have hfn : Hid (∀ w', Calls Tryz.prog 16 #[.nilIface] w' fun e w'' => e = .returned (.tuple #[.agg #[.int .i64 0, .int .i64 0, .string ⟨#[]⟩], .bool true]) ∧ Below w'.heap.size w' w'') := fault_nil
  have q4 := eq4same
  unfold maxLen at hs
  clear hp
  unfold Tab.val at *
  go_enter Tryz.func4, Tryz.ntmps4
  go_wp2_with (first
    | (go_at_call 14; refine Calls.mono (hps.out _ HE.out) ?_; rintro e w1 ⟨rfl, hb1⟩)
    | (go_at_call 15; refine Calls.mono (hrs.out _ ((HE.out.bl hb1).al _)) ?_; rintro e w2 ⟨rfl, hb2⟩)
    | (go_at_call 16; refine Calls.mono (hfn.out _) ?_; rintro e w3 ⟨rfl, hb3⟩; refine Hid.out ?_))
  refine Lib.hid ?_
  have z2 : w1.heap.size < w2.heap.size := by have := hb2.size; simp at this; omega
  have z3 : w2.heap.size + 1 < w3.heap.size := by have := hb3.size; simp at this; omega
  have T1 : TabAt w2 w1.heap.size u := (HUn.out w1).below hb2 (by simp)
  have U1 : TabAt ((w2.alloc (.cells u.cells 24)).alloc (.cells #[.int .i64 0, .int .i64 0, .string ⟨#[]⟩] 37)) w2.heap.size u := (HUn.out w2).below ((Below.refl _ _).alloc (Nat.le_refl _) _) (by simp)
  have T2 : TabAt ((w2.alloc (.cells u.cells 24)).alloc (.cells #[.int .i64 0, .int .i64 0, .string ⟨#[]⟩] 37)) w1.heap.size u := (T1.below ((Below.refl _ _).alloc (Nat.le_refl _) _) z2).below ((Below.refl _ _).alloc (Nat.le_refl _) _) (by simp; omega)
  have A3 : Below w3.heap.size w3 (w3.alloc (.cells #[.int .i64 0, .int .i64 0, .string ⟨#[]⟩] 37)) := (Below.refl _ _).alloc (Nat.le_refl _) _
  have T3 : TabAt (w3.alloc (.cells #[.int .i64 0, .int .i64 0, .string ⟨#[]⟩] 37)) w1.heap.size u := (T2.below hb3 (by simp; omega)).below A3 (by omega)
  have U3 : TabAt (w3.alloc (.cells #[.int .i64 0, .int .i64 0, .string ⟨#[]⟩] 37)) w2.heap.size u := (U1.below hb3 (by simp; omega)).below A3 (by omega)
  have F2 : ∀ (j : Nat) v, (#[.int .i64 0, .int .i64 0, .string ⟨#[]⟩] : Array Value)[j]? = some v → ((w2.alloc (.cells u.cells 24)).alloc (.cells #[.int .i64 0, .int .i64 0, .string ⟨#[]⟩] 37)).cell? ⟨w2.heap.size + 1, j, none⟩ = some v := fun j v hv => look [.cells u.cells 24, .cells #[.int .i64 0, .int .i64 0, .string ⟨#[]⟩] 37] w2 1 _ _ _ _ _ rfl rfl hv
  have F3 : ∀ (j : Nat) v, (#[.int .i64 0, .int .i64 0, .string ⟨#[]⟩] : Array Value)[j]? = some v → (w3.alloc (.cells #[.int .i64 0, .int .i64 0, .string ⟨#[]⟩] 37)).cell? ⟨w2.heap.size + 1, j, none⟩ = some v := fun j v hv => by rw [(bcell A3).1 _ _ (by omega), (bcell hb3).1 _ _ (by simp)]; exact F2 j v hv
  have y0 := F3 0 _ rfl
  have y1 := F3 1 _ rfl
  have y2 := F3 2 _ rfl
  obtain ⟨r0, r1, r2, r3, r4, r5, r6, r7, r8, r9, r10, r11, r12⟩ := tab_val T3
  obtain ⟨k0, k1, k2, k3, k4, k5, k6, k7, k8, k9, k10, k11, k12⟩ := tab_val U3
  have HX : Hid (Env (w3.alloc (.cells #[.int .i64 0, .int .i64 0, .string ⟨#[]⟩] 37)) ∧ Below w.heap.size w (w3.alloc (.cells #[.int .i64 0, .int .i64 0, .string ⟨#[]⟩] 37))) := ⟨(((((HE.out.bl hb1).al _).bl hb2).al _).al _ |>.bl hb3).al _, bal (btr (bal (bal (btr (bal hb1 _) hb2) _) _) hb3) _⟩
  clear T1 U1 T2 T3 U3 F2 F3 A3
  go_wp2_with (first | (go_at_call 13; refine Calls.mono (wakes_any _ HX.out.1) ?_; rintro e w9 ⟨rfl, hb9⟩))
  go_ret
  exact ⟨rfl, btr HX.out.2 hb9⟩

set_option maxRecDepth 20000 in
set_option maxHeartbeats 1000000 in
theorem reads_bad (s : ByteArray) (w : World) (hs : s.size ≤ maxLen) (hE : Env w) (hl : s.size ≤ 131072) (f : Int × Nat × List UInt8) (hp : (parseF s.data.toList).1 = some f) (hf0 : f.1 ≠ 0) (hR : ∀ w', Env w' → Calls Tryz.prog 15 #[.string s] w' (RpPost (parseF s.data.toList) w')) :
    Calls Tryz.prog 4 #[.string s] w fun e w' => e = .returned (.bool true) ∧ Below w.heap.size w w' := by
  have HE : Hid (Env w) := hE
  have hps : Hid (∀ w', Env w' → Calls Tryz.prog 14 #[.string s] w' fun e w'' => ∃ q, e = .returned (.tuple #[tab0.val, .iface 58 (.pointer (some ⟨q, 0, none⟩))]) ∧ FaultAt w'' q f.1 (f.2.1 : Int) ⟨f.2.2.toArray⟩ ∧ Below w'.heap.size w' w'') := fun w' hE' => (parse_any s w' hs hE').mono (by
    rintro e w2 (⟨h1, _⟩ | ⟨f', q, h1, h2, h3, _, h5⟩)
    · rw [hp] at h1; cases h1
    · rw [hp] at h1; cases h1; exact ⟨q, h2, h3, h5⟩)
  have hrs : Hid (∀ w', Env w' → Calls Tryz.prog 15 #[.string s] w' fun e w'' => e = .returned (.tuple #[tab0.val, .agg #[.int .i64 f.1, .int .i64 (f.2.1 : Int), .string ⟨f.2.2.toArray⟩]]) ∧ Below w'.heap.size w' w'') := fun w' hE' => (hR w' hE').mono (by
    rintro e w2 ⟨⟨h1, _⟩ | ⟨f', h1, h3⟩, h2⟩
    · rw [hp] at h1; cases h1
    · rw [hp] at h1; cases h1; exact ⟨h3, h2⟩)
  clear hR hE
  generalize hu : tab0 = u at *
  clear hu
  have HUn : Hid (∀ w' : World, TabAt (w'.alloc (.cells u.cells 24)) w'.heap.size u) := fun w' => tabAt_new w' u 24
  have hfn : Hid (∀ (q : Nat) w', Env w' → FaultAt w' q f.1 (f.2.1 : Int) ⟨f.2.2.toArray⟩ → Calls Tryz.prog 16 #[.iface 58 (.pointer (some ⟨q, 0, none⟩))] w' fun e w'' => e = .returned (.tuple #[.agg #[.int .i64 f.1, .int .i64 (f.2.1 : Int), .string ⟨f.2.2.toArray⟩], .bool true]) ∧ Below w'.heap.size w' w'') := fun q w' a b => fault_some q _ _ _ w' a b hf0
  have q4 := eq4same
  unfold maxLen at hs
  clear hp hf0
  generalize f.1 = fc at *
  generalize (f.2.1 : Int) = fa at *
  generalize (⟨f.2.2.toArray⟩ : ByteArray) = fs at *
  unfold Tab.val at *
  go_enter Tryz.func4, Tryz.ntmps4
  go_wp2_with (first
    | (go_at_call 14; refine Calls.mono (hps.out _ HE.out) ?_; rintro e w1 ⟨q, rfl, hFa, hb1⟩)
    | (go_at_call 15; refine Calls.mono (hrs.out _ ((HE.out.bl hb1).al _)) ?_; rintro e w2 ⟨rfl, hb2⟩)
    | (go_at_call 16; refine Calls.mono (hfn.out q _ ((((HE.out.bl hb1).al _).bl hb2).al _ |>.al _) (fault_old (fault_old ((fault_old hFa _).below hb2) _) _)) ?_; rintro e w3 ⟨rfl, hb3⟩; refine Hid.out ?_))
  refine Lib.hid ?_
  have z2 : w1.heap.size < w2.heap.size := by have := hb2.size; simp at this; omega
  have z3 : w2.heap.size + 1 < w3.heap.size := by have := hb3.size; simp at this; omega
  have T1 : TabAt w2 w1.heap.size u := (HUn.out w1).below hb2 (by simp)
  have U1 : TabAt ((w2.alloc (.cells u.cells 24)).alloc (.cells #[.int .i64 fc, .int .i64 fa, .string fs] 37)) w2.heap.size u := (HUn.out w2).below ((Below.refl _ _).alloc (Nat.le_refl _) _) (by simp)
  have T2 : TabAt ((w2.alloc (.cells u.cells 24)).alloc (.cells #[.int .i64 fc, .int .i64 fa, .string fs] 37)) w1.heap.size u := (T1.below ((Below.refl _ _).alloc (Nat.le_refl _) _) z2).below ((Below.refl _ _).alloc (Nat.le_refl _) _) (by simp; omega)
  have A3 : Below w3.heap.size w3 (w3.alloc (.cells #[.int .i64 fc, .int .i64 fa, .string fs] 37)) := (Below.refl _ _).alloc (Nat.le_refl _) _
  have T3 : TabAt (w3.alloc (.cells #[.int .i64 fc, .int .i64 fa, .string fs] 37)) w1.heap.size u := (T2.below hb3 (by simp; omega)).below A3 (by omega)
  have U3 : TabAt (w3.alloc (.cells #[.int .i64 fc, .int .i64 fa, .string fs] 37)) w2.heap.size u := (U1.below hb3 (by simp; omega)).below A3 (by omega)
  have F2 : ∀ (j : Nat) v, (#[.int .i64 fc, .int .i64 fa, .string fs] : Array Value)[j]? = some v → ((w2.alloc (.cells u.cells 24)).alloc (.cells #[.int .i64 fc, .int .i64 fa, .string fs] 37)).cell? ⟨w2.heap.size + 1, j, none⟩ = some v := fun j v hv => look [.cells u.cells 24, .cells #[.int .i64 fc, .int .i64 fa, .string fs] 37] w2 1 _ _ _ _ _ rfl rfl hv
  have F3 : ∀ (j : Nat) v, (#[.int .i64 fc, .int .i64 fa, .string fs] : Array Value)[j]? = some v → (w3.alloc (.cells #[.int .i64 fc, .int .i64 fa, .string fs] 37)).cell? ⟨w2.heap.size + 1, j, none⟩ = some v := fun j v hv => by rw [(bcell A3).1 _ _ (by omega), (bcell hb3).1 _ _ (by simp)]; exact F2 j v hv
  have y0 := F3 0 _ rfl
  have y1 := F3 1 _ rfl
  have y2 := F3 2 _ rfl
  obtain ⟨r0, r1, r2, r3, r4, r5, r6, r7, r8, r9, r10, r11, r12⟩ := tab_val T3
  obtain ⟨k0, k1, k2, k3, k4, k5, k6, k7, k8, k9, k10, k11, k12⟩ := tab_val U3
  have HX : Hid (Env (w3.alloc (.cells #[.int .i64 fc, .int .i64 fa, .string fs] 37)) ∧ Below w.heap.size w (w3.alloc (.cells #[.int .i64 fc, .int .i64 fa, .string fs] 37))) := ⟨(((((HE.out.bl hb1).al _).bl hb2).al _).al _ |>.bl hb3).al _, bal (btr (bal (bal (btr (bal hb1 _) hb2) _) _) hb3) _⟩
  clear T1 U1 T2 T3 U3 F2 F3 A3
  go_wp2_with (first | (go_at_call 13; refine Calls.mono (wakes_any _ HX.out.1) ?_; rintro e w9 ⟨rfl, hb9⟩))
  go_ret
  exact ⟨rfl, btr HX.out.2 hb9⟩

theorem runW_code : ∀ (Ks : List Wk) (ws : List (Nat × List UInt8)) (e : Nat) (st : St) (f : Int × Nat × List UInt8), (runW Ks ws e st).1 = some f → f.1 ≠ 0
  | [], [], _, _, f, h => by simp [runW] at h
  | _ :: _, [], _, _, f, h => by simp only [runW, Option.some.injEq] at h; subst h; exact (by decide : (60 : Int) ≠ 0)
  | [], _ :: _, _, _, f, h => by simp only [runW, Option.some.injEq] at h; subst h; exact (by decide : (60 : Int) ≠ 0)
  | K :: Ks, x :: xs, e, st, f, h => by
    simp only [runW] at h
    split at h
    · exact runW_code Ks xs e _ f h
    · rename_i hc; simp only [Option.some.injEq] at h; subst h; exact hc
theorem runL_code : ∀ (ls : List (List (Nat × List UInt8) × Nat)) (n : Nat) (st : St) (f : Int × Nat × List UInt8), (runL ls n st).1 = some f → f.1 ≠ 0
  | [], n, st, f, h => by
    simp only [runL] at h
    split at h
    · simp only [Option.some.injEq] at h; subst h; exact (by decide : (60 : Int) ≠ 0)
    · cases h
  | ln :: ls, n, st, f, h => by
    rw [runL] at h
    cases hr : runW (wantsL ln.1) ln.1 ln.2 st with
    | mk g st1 =>
      rw [hr] at h
      cases g with
      | none => exact runL_code ls n st1 f h
      | some g => simp only [Option.some.injEq] at h; subst h; exact runW_code _ _ _ _ g (by rw [hr])
theorem parse_code (l : List UInt8) (f : Int × Nat × List UInt8) (h : (parseF l).1 = some f) : f.1 ≠ 0 := by
  unfold parseF at h
  split at h
  · simp only [Option.some.injEq] at h; subst h; exact (by decide : (3 : Int) ≠ 0)
  · exact runL_code _ _ _ f h

theorem law_reads (s : ByteArray) (w : World) (hs : s.size ≤ maxLen) (hE : Env w) (hR : s.size ≤ 131072 → ∀ w', Env w' → Calls Tryz.prog 15 #[.string s] w' (RpPost (parseF s.data.toList) w')) :
    Calls Tryz.prog 4 #[.string s] w fun e w' => e = .returned (.bool true) ∧ Below w.heap.size w w' := by
  by_cases hl : 131072 < s.size
  · exact reads_long s w hs hE hl
  · cases hp : (parseF s.data.toList).1 with
    | none => exact reads_good s w hs hE (by omega) hp (hR (by omega))
    | some f => exact reads_bad s w hs hE (by omega) f hp (parse_code _ f hp) (hR (by omega))

end Go.Proofs.YtgabnjiapkkjaaaGreatDoor.Tb
