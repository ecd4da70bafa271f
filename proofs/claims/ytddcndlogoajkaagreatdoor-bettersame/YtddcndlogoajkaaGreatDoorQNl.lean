/- What Run and State answer of the machine: read off the program by the walk. Conditions: the machine and its program lie in memory. -/
import Derived.Test.YtddcndlogoajkaaGreatDoorQNk
namespace Go.Proofs.YtddcndlogoajkaaGreatDoor.L8.Sm
open Go.ChangeShapes Go.WideShapes Go.ChangeAt Go.RowKit
open _root_.Go.Proofs.YtddcndlogoajkaaGreatDoor.L8.Op _root_.Go.Proofs.YtddcndlogoajkaaGreatDoor.L8.So
set_option maxRecDepth 20000

theorem memL_len (M : Ma) : (memL M).length = 256 := by simp [memL]
theorem memL_get (M : Ma) (i : Nat) (h : i < (memL M).length) : (memL M)[i] = M.m i := by simp [memL]
section
variable {w : World} {q : Nat} {ps : List Bk} {T : Nat → Prop} {M : Ma}
theorem clone_mem (h : MR w q ps T M) : Calls Tryz.prog 33 #[.slice (some ⟨q, 73, none⟩) 256 256] w fun e w' => ∃ r c, e = .returned (.slice r 256 c) ∧ Fresh w w' r (memL M) := by
  obtain ⟨_, _, _, _, hA⟩ := h.mat
  have := cloneN_at q 73 256 (memL M) w (by rw [memL_len]; omega) (fun i hi => by rw [memL_get]; exact hA.m i (by rw [memL_len] at hi; exact hi))
  rw [memL_len] at this
  exact this
/-- A list that is the caller's own. -/
structure Own (w w' : World) (a : Option Addr) (l : List Int) : Prop where
  nl : NL w' a l
  new : 0 < l.length → ∀ x, a = some x → w.heap.size ≤ x.block
theorem Own.up {w w1 w2 : World} {a : Option Addr} {l : List Int} (h : Own w w1 a l) (hb : Below w1.heap.size w1 w2) : Own w w2 a l := ⟨h.nl.up hb, h.new⟩
theorem Own.old {w0 w w1 : World} {a : Option Addr} {l : List Int} (h : Own w w1 a l) (hs : w0.heap.size ≤ w.heap.size) : Own w0 w1 a l := ⟨h.nl, fun h0 x e => Nat.le_trans hs (h.new h0 x e)⟩
/-- What is told of a machine. -/
def outV (M : Ma) (a m : Option Addr) (c d : Nat) : Value := .agg #[.int .i64 M.e, .int .i64 (if M.e = 0 then M.v else 0), .slice a M.pr.length c, .slice m (if M.e = 0 then 256 else 0) d, .int .i64 (M.s : Int)]
def outMem (M : Ma) : List Int := if M.e = 0 then memL M else []
/-- What Run leaves. -/
def RunPost (w : World) (q : Nat) (ps : List Bk) (T : Nat → Prop) (M' : Ma) (e : Ending) (w' : World) : Prop := ∃ a m c d T', e = .returned (outV M' a m c d) ∧ Own w w' a M'.pr ∧ Own w w' m (outMem M') ∧ MM w' q ps T' M' ∧ Tn w T w' T' ∧ M'.pr.length ≤ c
theorem clone_prints (h : MM w q ps T M) (hs : M.s ≤ 1000000000000) : ∃ po pc, w.cell? ⟨q, 335, none⟩ = some (.slice po M.pr.length pc) ∧ ∀ W, Below w.heap.size w W → Calls Tryz.prog 33 #[.slice po M.pr.length pc] W fun e w' => ∃ r c, e = .returned (.slice r M.pr.length c) ∧ Fresh W w' r M.pr ∧ M.pr.length ≤ c := by
  obtain ⟨ba, bc, po, pc, hM, hP, hR, hT⟩ := h.mr.ex
  exact ⟨po, pc, hM.p, fun W hb => cloneN_row po pc (q + 1) M.pr W (by have := h.inv.p; omega) (row_up hR hb)⟩
/-- No block of the program is a box without a kind. -/
theorem PIn.box {w : World} {T : Nat → Prop} {ao : Option Addr} {ps : List Bk} {n : Nat} (h : PIn w T ao ps) (hn : ∀ j k, w.cell? ⟨n, j, none⟩ ≠ some (.int .i8 k)) : PIn w (One n) ao ps := by
  have fa : ∀ {a : Option Addr} {xs : List O}, OpsAt w a xs → Far (One n) a xs.length := fun {a xs} ho h0 x e hx => by
    obtain ⟨b, f, e', z, hc⟩ := ho.is h0
    rw [e'] at e; cases e
    have hx : b = n := hx
    subst hx
    exact hn _ _ (hc 0 h0).c0
  refine ⟨h.len, fun h0 => ?_⟩
  obtain ⟨b, f, e, z, hT, hx⟩ := h.is h0
  refine ⟨b, f, e, z, fun hb => ?_, fun i hi => ?_⟩
  · have hb : b = n := hb
    subst hb
    obtain ⟨p, h1, -⟩ := hx 0 h0
    exact hn _ _ h1.c1
  · obtain ⟨p, h1, h2, -⟩ := hx i hi
    exact ⟨p, h1, h2, fa h2.o, fa h2.b⟩
abbrev oz : Array Value := #[.int .i64 0, .int .i64 0, .slice none 0 0, .slice none 0 0, .int .i64 0]
theorem oz_no (w : World) (j : Nat) (k : Int) : (w.alloc (.cells oz 42)).cell? ⟨w.heap.size, j, none⟩ ≠ some (.int .i8 k) := by
  have hc : (w.alloc (.cells oz 42)).cell? ⟨w.heap.size, j, none⟩ = oz[j]? := by simp
  rw [hc]
  match j with
  | 0 | 1 | 2 | 3 | 4 => simp
  | j + 5 => simp
theorem at_set' {w : World} {q j : Nat} {cs : Array Value} (h : Op.At w q cs) (hj : j < cs.size) (v : Value) : Op.At (w.setCell ⟨q, j, none⟩ v) q (cs.setIfInBounds j v) := by
  refine ⟨fun k u hk => ?_, fun k => by rw [World.frozen?_setCell]; exact h.f k, by simpa using h.lt⟩
  by_cases e : j = k
  · subst e
    rw [World.cell?_setCell_same _ _ _ (h.c j _ (Array.getElem?_eq_getElem hj))]
    rw [Array.getElem?_setIfInBounds_self_of_lt hj] at hk
    exact hk
  · rw [Array.getElem?_setIfInBounds_ne e] at hk
    rw [World.cell?_setCell_other]
    · exact h.c k u hk
    · intro h'; injection h' with _ h2; exact e h2
/-- An outcome in two boxes, on its way. -/
structure Ob (w w1 W : World) (n b : Nat) (a m : Option Addr) (l k : List Int) (vs : Array Value) : Prop where
  up : Below w1.heap.size w1 W
  r : Op.At W n oz
  x : Op.At W b vs
  nb : n < w1.heap.size
  b1 : w1.heap.size ≤ b
  nl : NL W a l
  an : 0 < l.length → ∀ x, a = some x → w1.heap.size ≤ x.block
  ab : 0 < l.length → ∀ x, a = some x → x.block ≠ b
  ml : NL W m k
  mn : 0 < k.length → ∀ x, m = some x → w1.heap.size ≤ x.block
theorem nl_nil (w : World) (m : Option Addr) : NL w m [] := ⟨fun h => by simp at h⟩
theorem ob_end {w w1 W : World} {n b q : Nat} {a m : Option Addr} {ps : List Bk} {T T1 : Nat → Prop} {M2 : Ma} {v0 v1 v2 v3 v4 : Value} {l k : List Int} (h : Ob w w1 W n b a m l k #[v0, v1, v2, v3, v4]) (hn : n = w.heap.size) (hm : MM w1 q ps T1 M2) (htn : Tn w T w1 T1) (hT : ¬ T1 n) (h8 : ∀ j k, w1.cell? ⟨n, j, none⟩ ≠ some (.int .i8 k)) :
    let W4 := ((((W.setCell ⟨n, 0, none⟩ v0).setCell ⟨n, 1, none⟩ v1).setCell ⟨n, 2, none⟩ v2).setCell ⟨n, 3, none⟩ v3).setCell ⟨n, 4, none⟩ v4
    Op.At W4 n #[v0, v1, v2, v3, v4] ∧ Own w W4 a l ∧ Own w W4 m k ∧ MM W4 q ps T1 M2 ∧ Tn w T W4 T1 := by
  intro W4
  have hF : Fr (One n) W W4 := (((((Fr.refl (One n) W).setCell (.inr rfl) _ _).setCell (.inr rfl) _ _).setCell (.inr rfl) _ _).setCell (.inr rfl) _ _).setCell (.inr rfl) _ _
  have hs : w.heap.size ≤ w1.heap.size := htn.f.size
  have hnb := h.nb
  have hmW := hm.up h.up
  have hW8 : ∀ j k, W.cell? ⟨n, j, none⟩ ≠ some (.int .i8 k) := fun j k => by rw [(bcell h.up).1 _ _ h.nb]; exact h8 j k
  refine ⟨at_set' (at_set' (at_set' (at_set' (at_set' h.r (by simp) v0) (by simp) v1) (by simp) v2) (by simp) v3) (by simp) v4, ⟨h.nl.fr hF fun h0 x e hx => ?_, fun h0 x e => Nat.le_trans hs (h.an h0 x e)⟩, ⟨h.ml.fr hF fun h0 x e hx => ?_, fun h0 x e => Nat.le_trans hs (h.mn h0 x e)⟩, hmW.apart hF (fun k hk hx => ?_) (fun k _ e => .inr fun j i => by rw [show k = n from e]; exact hW8 j i), ⟨(htn.then h.up).f.trans hF fun k hk e => ?_, (htn.then h.up).t⟩⟩
  · have := h.an h0 x e
    have hx : x.block = n := hx
    omega
  · have := h.mn h0 x e
    have hx : x.block = n := hx
    omega
  · have hx : k = n := hx
    subst hx
    exact hT hk
  · have e : k = n := e
    omega
set_option maxHeartbeats 4000000 in
theorem run_over' (n : Int) (h : MM w q ps T M) (hb : M.s + (min (max n 0) 1048576).toNat ≤ 1000000000000) (he : ¬ (runM ps (min (max n 0) 1048576).toNat M).e = 0) : Calls Tryz.prog 17 #[ptr q, .int .i64 n] w (RunPost w q ps T (runM ps (min (max n 0) 1048576).toNat M)) := by
  have hB : Below w.heap.size w (w.alloc (.cells #[.int .i64 0, .int .i64 0, .slice none 0 0, .slice none 0 0, .int .i64 0] 42)) := (Below.refl _ _).alloc (Nat.le_refl _) _
  have HG : Hid (Calls Tryz.prog 31 #[ptr q, .int .i64 (min (max n 0) 1048576)] (w.alloc (.cells #[.int .i64 0, .int .i64 0, .slice none 0 0, .slice none 0 0, .int .i64 0] 42)) fun e w' => e = .returned (.tuple #[]) ∧ ∃ T', MM w' q ps T' (runM ps (min (max n 0) 1048576).toNat M) ∧ Tn (w.alloc (.cells #[.int .i64 0, .int .i64 0, .slice none 0 0, .slice none 0 0, .int .i64 0] 42)) T w' T') := by
    have := goOn_any (min (max n 0) 1048576).toNat (h.up hB) hb
    rw [show (((min (max n 0) 1048576).toNat : Nat) : Int) = min (max n 0) 1048576 by omega] at this
    exact this
  have HBr : Hid (∀ W, Calls Tryz.prog 32 #[.int .i64 n, .int .i64 1048576] W fun e w' => e = .returned (.int .i64 (min (max n 0) 1048576)) ∧ w' = W) := fun W => brought_any n 1048576 W
  have HA : Hid (Op.At (w.alloc (.cells #[.int .i64 0, .int .i64 0, .slice none 0 0, .slice none 0 0, .int .i64 0] 42)) w.heap.size #[.int .i64 0, .int .i64 0, .slice none 0 0, .slice none 0 0, .int .i64 0] ∧ ¬ T w.heap.size) := ⟨Op.At.new _ _ _, fun h' => Nat.lt_irrefl _ (h.mr.tl _ h')⟩
  have HS : Hid ((runM ps (min (max n 0) 1048576).toNat M).s ≤ 1000000000000) := by
    show (runM ps (min (max n 0) 1048576).toNat M).s ≤ _
    have h1 := trail_len ps (min (max n 0) 1048576).toNat M
    have h2 := trail_le ps (min (max n 0) 1048576).toNat M
    omega
  have hq := h.mr.mat'.2.2.2
  clear h hb hB
  generalize runM ps (min (max n 0) 1048576).toNat M = M2 at *
  generalize min (max n 0) 1048576 = k at *
  have he' : (M2.e == 0) = false := by simpa using he
  go_enter Tryz.func17, Tryz.ntmps17
  go_wp2_with (first
    | (go_at_call 32; refine Calls.mono (HBr.out _) ?_; rintro e _ ⟨rfl, rfl⟩)
    | (go_at_call 31; refine Calls.mono HG.out ?_; rintro e w1 ⟨rfl, T1, hm, htn⟩; have HM : Hid (MM w1 q ps T1 M2 ∧ Tn w T w1 T1 ∧ Op.At w1 w.heap.size oz ∧ ¬ T1 w.heap.size ∧ ∀ j k, w1.cell? ⟨w.heap.size, j, none⟩ ≠ some (.int .i8 k)) := ⟨hm, (Tn.of ((Below.refl _ _).alloc (Nat.le_refl _) _)).trans htn, ⟨fun j v e => (htn.f.cell (by simp) HA.out.2 j).trans (HA.out.1.c j v e), fun j => (htn.f.frozen (by simp) HA.out.2 j).trans (HA.out.1.f j), Nat.lt_of_lt_of_le HA.out.1.lt htn.f.size⟩, fun h' => (htn.t _ h').elim HA.out.2 (fun h'' => by rw [World.size_alloc] at h''; omega), fun j k => (by rw [htn.f.cell (by simp) HA.out.2]; exact oz_no w j k)⟩; clear hm htn))
  obtain ⟨po, pc, hp, hcl⟩ := clone_prints HM.out.1 HS.out
  have HC : Hid (∀ W, Below w1.heap.size w1 W → Calls Tryz.prog 33 #[.slice po M2.pr.length pc] W fun e w' => ∃ r c, e = .returned (.slice r M2.pr.length c) ∧ Fresh W w' r M2.pr ∧ M2.pr.length ≤ c) := hcl
  have HK : Hid (∀ W, Below w1.heap.size w1 W → W.cell? ⟨q, 333, none⟩ = some (.int .i64 M2.e) ∧ W.cell? ⟨q, 335, none⟩ = some (.slice po M2.pr.length pc) ∧ W.cell? ⟨q, 336, none⟩ = some (.int .i64 (M2.s : Int))) := fun W hb => ⟨(HM.out.1.mr.up hb).mat'.1, by rw [(bcell hb).1 _ _ HM.out.1.mr.mat'.2.2.2]; exact hp, (HM.out.1.mr.up hb).mat'.2.1⟩
  clear hp hcl HG HBr
  refine wp_region_held_drew (S := fun W => Below w1.heap.size w1 W) (by kernel_rfl) (drew_up _) (fun hHeld => ?_)
  refine wpAnyH_take (i := 0) (v := ptr q) rfl (by kernel_rfl) (by kernel_rfl) (by kernel_rfl) (fun _ _ _ h => h) (Or.inl ⟨by rfl, fun w' hSw => by (have hk := HK.out w' hSw; obtain ⟨s0, s1, s2⟩ := hk; go_simp)⟩) hHeld ?_
  simp only [Act.put, List.setIfInBounds_toArray, List.set_cons_zero, List.set_cons_succ, List.getElem_cons_zero, List.getElem_toArray]
  refine wpAnyH_take (i := 1) (v := ptr q) rfl (by kernel_rfl) (by kernel_rfl) (by kernel_rfl) (fun _ _ _ h => h) (Or.inl ⟨by rfl, fun w' hSw => by (have hk := HK.out w' hSw; obtain ⟨s0, s1, s2⟩ := hk; go_simp)⟩) hHeld ?_
  simp only [Act.put, List.setIfInBounds_toArray, List.set_cons_zero, List.set_cons_succ, List.getElem_cons_zero, List.getElem_cons_succ, List.getElem_toArray]
  refine wpAnyH_take (i := 2) (v := .pointer (some ⟨q, 333, none⟩)) rfl (by kernel_rfl) (by kernel_rfl) (by kernel_rfl) (fun _ _ _ h => h) (Or.inl ⟨by rfl, fun w' hSw => by (have hk := HK.out w' hSw; obtain ⟨s0, s1, s2⟩ := hk; go_simp)⟩) hHeld ?_
  simp only [Act.put, List.setIfInBounds_toArray, List.set_cons_zero, List.set_cons_succ, List.getElem_cons_zero, List.getElem_cons_succ, List.getElem_toArray]
  refine wpAnyH_take (i := 3) (v := .int .i64 M2.e) rfl (by kernel_rfl) (by kernel_rfl) (by kernel_rfl) (fun _ _ _ h => h) (Or.inl ⟨by rfl, fun w' hSw => by (have hk := HK.out w' hSw; obtain ⟨s0, s1, s2⟩ := hk; go_simp)⟩) hHeld ?_
  simp only [Act.put, List.setIfInBounds_toArray, List.set_cons_zero, List.set_cons_succ, List.getElem_cons_zero, List.getElem_cons_succ, List.getElem_toArray]
  refine wpAnyH_take (i := 4) (v := ptr q) rfl (by kernel_rfl) (by kernel_rfl) (by kernel_rfl) (fun _ _ _ h => h) (Or.inl ⟨by rfl, fun w' hSw => by (have hk := HK.out w' hSw; obtain ⟨s0, s1, s2⟩ := hk; go_simp)⟩) hHeld ?_
  simp only [Act.put, List.setIfInBounds_toArray, List.set_cons_zero, List.set_cons_succ, List.getElem_cons_zero, List.getElem_cons_succ, List.getElem_toArray]
  refine wpAnyH_take (i := 5) (v := ptr q) rfl (by kernel_rfl) (by kernel_rfl) (by kernel_rfl) (fun _ _ _ h => h) (Or.inl ⟨by rfl, fun w' hSw => by (have hk := HK.out w' hSw; obtain ⟨s0, s1, s2⟩ := hk; go_simp)⟩) hHeld ?_
  simp only [Act.put, List.setIfInBounds_toArray, List.set_cons_zero, List.set_cons_succ, List.getElem_cons_zero, List.getElem_cons_succ, List.getElem_toArray]
  refine wpAnyH_take (i := 6) (v := .pointer (some ⟨q, 335, none⟩)) rfl (by kernel_rfl) (by kernel_rfl) (by kernel_rfl) (fun _ _ _ h => h) (Or.inl ⟨by rfl, fun w' hSw => by (have hk := HK.out w' hSw; obtain ⟨s0, s1, s2⟩ := hk; go_simp)⟩) hHeld ?_
  simp only [Act.put, List.setIfInBounds_toArray, List.set_cons_zero, List.set_cons_succ, List.getElem_cons_zero, List.getElem_cons_succ, List.getElem_toArray]
  refine wpAnyH_take (i := 7) (v := .slice po M2.pr.length pc) rfl (by kernel_rfl) (by kernel_rfl) (by kernel_rfl) (fun _ _ _ h => h) (Or.inl ⟨by rfl, fun w' hSw => by (have hk := HK.out w' hSw; obtain ⟨s0, s1, s2⟩ := hk; go_simp)⟩) hHeld ?_
  simp only [Act.put, List.setIfInBounds_toArray, List.set_cons_zero, List.set_cons_succ, List.getElem_cons_zero, List.getElem_cons_succ, List.getElem_toArray]
  refine wpAnyH_take (i := 9) (v := ptr q) rfl (by kernel_rfl) (by kernel_rfl) (by kernel_rfl) (fun _ _ _ h => h) (Or.inl ⟨by rfl, fun w' hSw => by (have hk := HK.out w' hSw; obtain ⟨s0, s1, s2⟩ := hk; go_simp)⟩) hHeld ?_
  simp only [Act.put, List.setIfInBounds_toArray, List.set_cons_zero, List.set_cons_succ, List.getElem_cons_zero, List.getElem_cons_succ, List.getElem_toArray]
  refine wpAnyH_take (i := 10) (v := ptr q) rfl (by kernel_rfl) (by kernel_rfl) (by kernel_rfl) (fun _ _ _ h => h) (Or.inl ⟨by rfl, fun w' hSw => by (have hk := HK.out w' hSw; obtain ⟨s0, s1, s2⟩ := hk; go_simp)⟩) hHeld ?_
  simp only [Act.put, List.setIfInBounds_toArray, List.set_cons_zero, List.set_cons_succ, List.getElem_cons_zero, List.getElem_cons_succ, List.getElem_toArray]
  refine wpAnyH_take (i := 11) (v := .pointer (some ⟨q, 336, none⟩)) rfl (by kernel_rfl) (by kernel_rfl) (by kernel_rfl) (fun _ _ _ h => h) (Or.inl ⟨by rfl, fun w' hSw => by (have hk := HK.out w' hSw; obtain ⟨s0, s1, s2⟩ := hk; go_simp)⟩) hHeld ?_
  simp only [Act.put, List.setIfInBounds_toArray, List.set_cons_zero, List.set_cons_succ, List.getElem_cons_zero, List.getElem_cons_succ, List.getElem_toArray]
  refine wpAnyH_take (i := 12) (v := .int .i64 (M2.s : Int)) rfl (by kernel_rfl) (by kernel_rfl) (by kernel_rfl) (fun _ _ _ h => h) (Or.inl ⟨by rfl, fun w' hSw => by (have hk := HK.out w' hSw; obtain ⟨s0, s1, s2⟩ := hk; go_simp)⟩) hHeld ?_
  simp only [Act.put, List.setIfInBounds_toArray, List.set_cons_zero, List.set_cons_succ, List.getElem_cons_zero, List.getElem_cons_succ, List.getElem_toArray]
  refine wpAnyH_ready (rs := [8, 14]) (by kernel_rfl) (by simp) ?_
  refine AllReadyH.cons rfl (fun K hK => ?_) (AllReadyH.cons rfl (fun K hK => ?_) AllReadyH.nil)
  · go_simp
    refine Calls.mono (HC.out _ hHeld) ?_
    rintro e w2 ⟨a, c, rfl, hf, hcc⟩
    have HCC : Hid (M2.pr.length ≤ c) := hcc
    clear hcc
    have HX : Hid (Below w1.heap.size w1 w2) := (drew_up w1).trans hf.up
    have HF : Hid (Fresh w1 w2 a M2.pr) := ⟨hf.nl, HX.out, hf.new⟩
    clear hf
    refine hK.out _ _ HX.out (fun hHeld => ?_)
    clear hK K
    refine wpAnyH_take (i := 13) (v := .agg #[.int .i64 M2.e, .int .i64 0, .slice a M2.pr.length c, .slice none 0 0, .int .i64 (M2.s : Int)]) rfl (by kernel_rfl) (by kernel_rfl) (by kernel_rfl) (fun _ _ _ h => h) (Or.inl ⟨by rfl, fun w' hSw => by (have hk := HK.out w' hSw; obtain ⟨s0, s1, s2⟩ := hk; go_simp)⟩) hHeld ?_
    simp only [Act.put, List.setIfInBounds_toArray, List.set_cons_zero, List.set_cons_succ, List.getElem_cons_zero, List.getElem_cons_succ, List.getElem_toArray]
    refine wpAnyH_ready (rs := [14]) (by kernel_rfl) (by simp) ?_
    refine AllReadyH.cons rfl (fun K hK => ?_) AllReadyH.nil
    go_simp
    refine hK.out _ _ (Below.alloc HX.out HX.out.size (.cells #[.int .i64 0, .int .i64 0, .slice none 0 0, .slice none 0 0, .int .i64 0] 42)) (fun hHeld => ?_)
    clear hK K
    refine wpAnyH_ready (rs := [15]) (by kernel_rfl) (by simp) ?_
    refine AllReadyH.cons rfl (fun K hK => ?_) AllReadyH.nil
    go_simp
    refine hK.out _ _ (Below.alloc HX.out HX.out.size (.cells #[.int .i64 M2.e, .int .i64 0, .slice a M2.pr.length c, .slice none 0 0, .int .i64 (M2.s : Int)] 42)) (fun hHeld => ?_)
    clear hK K
    refine wpAnyH_done (by kernel_rfl) ?_ _
    have HO : Hid (Ob w w1 (w2.alloc (.cells #[.int .i64 M2.e, .int .i64 0, .slice a M2.pr.length c, .slice none 0 0, .int .i64 (M2.s : Int)] 42)) w.heap.size w2.heap.size a none M2.pr [] #[.int .i64 M2.e, .int .i64 0, .slice a M2.pr.length c, .slice none 0 0, .int .i64 (M2.s : Int)]) := ⟨Below.alloc HX.out HX.out.size _, (HM.out.2.2.1.below HX.out HM.out.2.2.1.lt).alloc _, Op.At.new _ _ _, HM.out.2.2.1.lt, HX.out.size, HF.out.nl.up ((Below.refl _ _).alloc (Nat.le_refl _) _), HF.out.new, fun h0 x e hx => (by obtain ⟨b', f', e', z, _⟩ := HF.out.nl.is h0; rw [e'] at e; cases e; have hx : b' = w2.heap.size := hx; omega), nl_nil _ _, fun h => (by simp at h)⟩
    have HQ : Hid (q < w1.heap.size ∧ ¬ q = w2.heap.size) := ⟨HM.out.1.mr.mat'.2.2.2, fun e => (by have := HM.out.1.mr.mat'.2.2.2; have h2 := HX.out.size; omega)⟩
    clear HX HF hHeld
    generalize w2.alloc (.cells #[.int .i64 M2.e, .int .i64 0, .slice a M2.pr.length c, .slice none 0 0, .int .i64 (M2.s : Int)] 42) = W at *
    generalize w2.heap.size = bx at *
    have ho := HO.out
    have r0 := ho.r.c 0 _ rfl
    have r1 := ho.r.c 1 _ rfl
    have r2 := ho.r.c 2 _ rfl
    have r3 := ho.r.c 3 _ rfl
    have r4 := ho.r.c 4 _ rfl
    have f0 := ho.r.f 0
    have f1 := ho.r.f 1
    have f2 := ho.r.f 2
    have f3 := ho.r.f 3
    have f4 := ho.r.f 4
    have x0 := ho.x.c 0 _ rfl
    have x1 := ho.x.c 1 _ rfl
    have x2 := ho.x.c 2 _ rfl
    have x3 := ho.x.c 3 _ rfl
    have x4 := ho.x.c 4 _ rfl
    have y0 := ho.x.f 0
    have y1 := ho.x.f 1
    have y2 := ho.x.f 2
    have y3 := ho.x.f 3
    have y4 := ho.x.f 4
    have hl0 := ho.r.lt
    have hl1 := ho.x.lt
    have e3 := (HM.out.1.up ho.up).mr.mat'.1
    clear ho
    go_wp2_with fail
    obtain ⟨g1, g2, g3, g4, g5⟩ := ob_end HO.out rfl HM.out.1 HM.out.2.1 HM.out.2.2.2.1 HM.out.2.2.2.2
    have c0 := g1.c 0 _ rfl
    have c1 := g1.c 1 _ rfl
    have c2 := g1.c 2 _ rfl
    have c3 := g1.c 3 _ rfl
    have c4 := g1.c 4 _ rfl
    refine bodyPost_ret (v := .agg #[.int .i64 M2.e, .int .i64 0, .slice a M2.pr.length c, .slice none 0 0, .int .i64 (M2.s : Int)]) (by simp [results, Tryz.results17, go_sem, c0, c1, c2, c3, c4]) rfl ⟨a, none, c, 0, T1, ?_, g2, ?_, g4, g5, HCC.out⟩
    · unfold outV; rw [if_neg he, if_neg he]
    · unfold outMem; rw [if_neg he]; exact g3
  · go_simp
    refine hK.out _ _ (below_ad w1 (.cells oz 42)) (fun hHeld => ?_)
    clear hK K
    refine wpAnyH_ready (rs := [8]) (by kernel_rfl) (by simp) ?_
    refine AllReadyH.cons rfl (fun K hK => ?_) AllReadyH.nil
    go_simp
    refine Calls.mono (HC.out _ hHeld) ?_
    rintro e w2 ⟨a, c, rfl, hf, hcc⟩
    have HCC : Hid (M2.pr.length ≤ c) := hcc
    clear hcc
    have HX : Hid (Below w1.heap.size w1 w2) := (below_ad w1 _).trans (hf.up.mono (by simp [World.drew]))
    have hxb := (Op.At.new w1 oz 42).below (w' := w2) ((drew_up _).trans hf.up) (by simp)
    have HF : Hid (NL w2 a M2.pr ∧ (0 < M2.pr.length → ∀ x, a = some x → w1.heap.size < x.block) ∧ Op.At w2 w1.heap.size oz) := ⟨hf.nl, fun h0 x e => Nat.lt_of_lt_of_le (by simp [World.drew]) (hf.new h0 x e), hxb⟩
    have z0 := hxb.c 0 _ rfl
    have z1 := hxb.c 1 _ rfl
    have z2 := hxb.c 2 _ rfl
    have z3 := hxb.c 3 _ rfl
    have z4 := hxb.c 4 _ rfl
    have g0 := hxb.f 0
    have g1 := hxb.f 1
    have g2 := hxb.f 2
    have g3 := hxb.f 3
    have g4 := hxb.f 4
    have hl2 := hxb.lt
    clear hf hxb
    refine hK.out _ _ HX.out (fun hHeld => ?_)
    clear hK K
    refine wpAnyH_take (i := 13) (v := .agg #[.int .i64 M2.e, .int .i64 0, .slice a M2.pr.length c, .slice none 0 0, .int .i64 (M2.s : Int)]) rfl (by kernel_rfl) (by kernel_rfl) (by kernel_rfl) (fun _ _ _ h => h) (Or.inl ⟨by rfl, fun w' hSw => by (have hk := HK.out w' hSw; obtain ⟨s0, s1, s2⟩ := hk; go_simp)⟩) hHeld ?_
    simp only [Act.put, List.setIfInBounds_toArray, List.set_cons_zero, List.set_cons_succ, List.getElem_cons_zero, List.getElem_cons_succ, List.getElem_toArray]
    refine wpAnyH_ready (rs := [15]) (by kernel_rfl) (by simp) ?_
    refine AllReadyH.cons rfl (fun K hK => ?_) AllReadyH.nil
    go_simp
    have HS2 : Hid (Below w1.heap.size w1 (((((w2.setCell ⟨w1.heap.size, 0, none⟩ (.int .i64 M2.e)).setCell ⟨w1.heap.size, 1, none⟩ (.int .i64 0)).setCell ⟨w1.heap.size, 2, none⟩ (.slice a M2.pr.length c)).setCell ⟨w1.heap.size, 3, none⟩ (.slice none 0 0)).setCell ⟨w1.heap.size, 4, none⟩ (.int .i64 (M2.s : Int)))) := ((((HX.out.setCell (by show w1.heap.size ≤ w1.heap.size; omega) _).setCell (by show w1.heap.size ≤ w1.heap.size; omega) _).setCell (by show w1.heap.size ≤ w1.heap.size; omega) _).setCell (by show w1.heap.size ≤ w1.heap.size; omega) _).setCell (by show w1.heap.size ≤ w1.heap.size; omega) _
    refine hK.out _ _ HS2.out (fun hHeld => ?_)
    clear hK K
    refine wpAnyH_done (by kernel_rfl) ?_ _
    have hF5 : Fr (One w1.heap.size) w2 (((((w2.setCell ⟨w1.heap.size, 0, none⟩ (.int .i64 M2.e)).setCell ⟨w1.heap.size, 1, none⟩ (.int .i64 0)).setCell ⟨w1.heap.size, 2, none⟩ (.slice a M2.pr.length c)).setCell ⟨w1.heap.size, 3, none⟩ (.slice none 0 0)).setCell ⟨w1.heap.size, 4, none⟩ (.int .i64 (M2.s : Int))) := (((((Fr.refl (One w1.heap.size) w2).setCell (.inr rfl) _ _).setCell (.inr rfl) _ _).setCell (.inr rfl) _ _).setCell (.inr rfl) _ _).setCell (.inr rfl) _ _
    have HO : Hid (Ob w w1 (((((w2.setCell ⟨w1.heap.size, 0, none⟩ (.int .i64 M2.e)).setCell ⟨w1.heap.size, 1, none⟩ (.int .i64 0)).setCell ⟨w1.heap.size, 2, none⟩ (.slice a M2.pr.length c)).setCell ⟨w1.heap.size, 3, none⟩ (.slice none 0 0)).setCell ⟨w1.heap.size, 4, none⟩ (.int .i64 (M2.s : Int))) w.heap.size w1.heap.size a none M2.pr [] #[.int .i64 M2.e, .int .i64 0, .slice a M2.pr.length c, .slice none 0 0, .int .i64 (M2.s : Int)]) := ⟨HS2.out, HM.out.2.2.1.below HS2.out HM.out.2.2.1.lt, at_set' (at_set' (at_set' (at_set' (at_set' HF.out.2.2 (by simp) _) (by simp) _) (by simp) _) (by simp) _) (by simp) _, HM.out.2.2.1.lt, Nat.le_refl _, HF.out.1.fr hF5 (fun h0 x e hx => (by have := HF.out.2.1 h0 x e; have hx : x.block = w1.heap.size := hx; omega)), fun h0 x e => Nat.le_of_lt (HF.out.2.1 h0 x e), fun h0 x e hx => (by have := HF.out.2.1 h0 x e; omega), nl_nil _ _, fun h => (by simp at h)⟩
    have HQ : Hid (q < w1.heap.size ∧ ¬ q = w1.heap.size) := ⟨HM.out.1.mr.mat'.2.2.2, fun e => (by have := HM.out.1.mr.mat'.2.2.2; omega)⟩
    clear HX HF hHeld HS2 hF5 z0 z1 z2 z3 z4 g0 g1 g2 g3 g4 hl2
    generalize ((((w2.setCell ⟨w1.heap.size, 0, none⟩ (.int .i64 M2.e)).setCell ⟨w1.heap.size, 1, none⟩ (.int .i64 0)).setCell ⟨w1.heap.size, 2, none⟩ (.slice a M2.pr.length c)).setCell ⟨w1.heap.size, 3, none⟩ (.slice none 0 0)).setCell ⟨w1.heap.size, 4, none⟩ (.int .i64 (M2.s : Int)) = W at *
    have ho := HO.out
    have r0 := ho.r.c 0 _ rfl
    have r1 := ho.r.c 1 _ rfl
    have r2 := ho.r.c 2 _ rfl
    have r3 := ho.r.c 3 _ rfl
    have r4 := ho.r.c 4 _ rfl
    have f0 := ho.r.f 0
    have f1 := ho.r.f 1
    have f2 := ho.r.f 2
    have f3 := ho.r.f 3
    have f4 := ho.r.f 4
    have x0 := ho.x.c 0 _ rfl
    have x1 := ho.x.c 1 _ rfl
    have x2 := ho.x.c 2 _ rfl
    have x3 := ho.x.c 3 _ rfl
    have x4 := ho.x.c 4 _ rfl
    have y0 := ho.x.f 0
    have y1 := ho.x.f 1
    have y2 := ho.x.f 2
    have y3 := ho.x.f 3
    have y4 := ho.x.f 4
    have hl0 := ho.r.lt
    have hl1 := ho.x.lt
    have e3 := (HM.out.1.up ho.up).mr.mat'.1
    clear ho
    go_wp2_with fail
    obtain ⟨g1, g2, g3, g4, g5⟩ := ob_end HO.out rfl HM.out.1 HM.out.2.1 HM.out.2.2.2.1 HM.out.2.2.2.2
    have c0 := g1.c 0 _ rfl
    have c1 := g1.c 1 _ rfl
    have c2 := g1.c 2 _ rfl
    have c3 := g1.c 3 _ rfl
    have c4 := g1.c 4 _ rfl
    refine bodyPost_ret (v := .agg #[.int .i64 M2.e, .int .i64 0, .slice a M2.pr.length c, .slice none 0 0, .int .i64 (M2.s : Int)]) (by simp [results, Tryz.results17, go_sem, c0, c1, c2, c3, c4]) rfl ⟨a, none, c, 0, T1, ?_, g2, ?_, g4, g5, HCC.out⟩
    · unfold outV; rw [if_neg he, if_neg he]
    · unfold outMem; rw [if_neg he]; exact g3
end
end Go.Proofs.YtddcndlogoajkaaGreatDoor.L8.Sm
