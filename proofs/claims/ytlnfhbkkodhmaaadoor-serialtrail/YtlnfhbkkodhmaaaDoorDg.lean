/- What Run answers of the document's machine: read off the program by the walk. Conditions: the machine lies in memory. -/
import Derived.Test.YtlnfhbkkodhmaaaDoorDe
import Derived.Test.YtlnfhbkkodhmaaaDoorDf
namespace Go.Proofs.YtlnfhbkkodhmaaaDoor.Sm
open Go.ChangeShapes Go.WideShapes Go.ChangeAt Go.RowKit
open _root_.Go.Proofs.YtlnfhbkkodhmaaaDoor.Op _root_.Go.Proofs.YtlnfhbkkodhmaaaDoor.So
set_option maxRecDepth 20000

theorem run_stop {ps : List Bk} {M : Ma} (h : ¬ M.e = 100 ∨ trapB ps M = true) (k : Nat) : runM ps k M = runM ps 0 M := by
  by_cases he : M.e = 100
  · have ht : trapB ps M = true := h.resolve_left fun h' => h' he
    cases k <;> simp [runM, he, ht]
  · rw [run_over he, run_over he]
theorem run_more {ps : List Bk} {M : Ma} (he : M.e = 100) (ht : trapB ps M = false) (k : Nat) : runM ps (k + 1) M = runM ps k (stepM ps M) := by simp [runM, he, ht]
theorem run_idle {ps : List Bk} {M : Ma} (h : ¬ (M.e = 100 ∧ trapB ps M = true)) : runM ps 0 M = M := by
  rcases run_zero_trap (ps := ps) M with e | ⟨h1, h2, -⟩
  · exact e
  · exact absurd ⟨h1, h2⟩ h
theorem stop_e {ps : List Bk} {M : Ma} (h : ¬ M.e = 100 ∨ trapB ps M = true) : ¬ (runM ps 0 M).e = 100 := by
  by_cases he : M.e = 100
  · have ht : trapB ps M = true := h.resolve_left fun h' => h' he
    simp [runM, he, ht]
  · rw [run_over he]; exact he
/-- A value is told of a run that ended by itself alone. -/
def VZ (M : Ma) : Prop := M.e = 0 ∨ M.v = 0
theorem vz_step {ps : List Bk} {M : Ma} (h : M.e = 100) (hv : VZ M) : VZ (stepM ps M) := by
  have hv : M.v = 0 := by
    rcases hv with e | e
    · omega
    · exact e
  show (nextM ps M).e = 0 ∨ (nextM ps M).v = 0
  unfold nextM
  split
  · split
    · right; unfold opM landO; (repeat' split) <;> exact hv
    · unfold endM; (repeat' split) <;> first | exact .inr hv | exact .inl rfl
  · exact .inr hv
theorem vz_zero {ps : List Bk} {M : Ma} (hv : VZ M) : VZ (runM ps 0 M) := by
  rcases run_zero_trap (ps := ps) M with e | ⟨h1, -, e⟩
  · rw [e]; exact hv
  · rw [e]
    rcases hv with h | h
    · omega
    · exact .inr h
section
variable {w : World} {q : Nat} {ps : List Bk} {T : Nat → Prop} {M : Ma} {L : Tg}
theorem rstep_stop (h : DM w q ps T M L) (hst : ¬ M.e = 100 ∨ trapB ps M = true) : Calls Tryd.prog 29 #[ptr q] w (RSt w q ps T false (runM ps 0 M) L) := by
  by_cases he : M.e = 100
  · have ht : trapB ps M = true := hst.resolve_left fun h' => h' he
    have e : runM ps 0 M = { M with e := 101 } := by simp [runM, he, ht]
    rw [e]
    exact rstep_trap h he ht
  · rw [run_over he]
    exact rstep_over h he
theorem rstep_on (h : DM w q ps T M L) (he : M.e = 100) (ht : trapB ps M = false) (hs : M.s < 1000000000000) : Calls Tryd.prog 29 #[ptr q] w (RSt w q ps T true (stepM ps M) (tagM ps M)) := by
  rcases Nat.lt_or_ge M.o (listM ps M).length with hl | hl
  · exact rstep_do h he ht hs hl
  · exact rstep_end h he ht hs (Nat.le_antisymm h.inv.o hl)
/-- What Run leaves. -/
def RRun (w : World) (q : Nat) (ps : List Bk) (T : Nat → Prop) (M' : Ma) (e : Ending) (w' : World) : Prop := ∃ a m c d T' L', e = .returned (outV M' a m c d) ∧ Own w w' a M'.pr ∧ Own w w' m (outMem M') ∧ DM w' q ps T' M' L' ∧ Tn w T w' T'
/-- Run on its way: the machine, and the answer's box. -/
structure Lz (w wz : World) (q : Nat) (ps : List Bk) (T : Nat → Prop) (M1 : Ma) : Prop where
  ex : ∃ T1 L1, DM wz q ps T1 M1 L1 ∧ Tn w T wz T1 ∧ ¬ T1 w.heap.size
  r0 : Op.At wz w.heap.size oz
  vz : VZ M1
theorem lz_start (h : DM w q ps T M L) (hv : VZ M) : Lz w (w.alloc (.cells oz 39)) q ps T M := by
  have hb : Below w.heap.size w (w.alloc (.cells oz 39)) := (Below.refl _ _).alloc (Nat.le_refl _) _
  exact ⟨⟨T, L, h.up hb, Tn.of hb, fun h' => Nat.lt_irrefl _ (h.dr.tl _ h')⟩, Op.At.new _ _ _, hv⟩
theorem Lz.go {wz w2 : World} {M1 M2 : Ma} {T1 T2 : Nat → Prop} {L2 : Tg} (h : Lz w wz q ps T M1) (h1 : Tn w T wz T1) (h2 : ¬ T1 w.heap.size) (hd : DM w2 q ps T2 M2 L2) (ht : Tn wz T1 w2 T2) (hv : VZ M2) : Lz w w2 q ps T M2 := by
  have hlt := h.r0.lt
  exact ⟨⟨T2, L2, hd, h1.trans ht, fun h' => (ht.t _ h').elim h2 fun h'' => by omega⟩, at_fr' h.r0 ht.f h2, hv⟩
theorem Lz.up {wz w2 : World} {M1 : Ma} (h : Lz w wz q ps T M1) (hb : Below wz.heap.size wz w2) : Lz w w2 q ps T M1 := by
  obtain ⟨T1, L1, h1, h2, h3⟩ := h.ex
  exact h.go h2 h3 (h1.up hb) (Tn.of hb) h.vz
/-- What stepping makes of it. -/
def LPost (w : World) (q : Nat) (ps : List Bk) (T : Nat → Prop) (b : Bool) (M2 : Ma) (e : Ending) (w2 : World) : Prop := e = .returned (.bool b) ∧ Lz w w2 q ps T M2
theorem Lz.stop {wz : World} {M1 : Ma} (h : Lz w wz q ps T M1) (hst : ¬ M1.e = 100 ∨ trapB ps M1 = true) : Calls Tryd.prog 29 #[ptr q] wz (LPost w q ps T false (runM ps 0 M1)) := by
  obtain ⟨T1, L1, h1, h2, h3⟩ := h.ex
  refine (rstep_stop h1 hst).mono ?_
  rintro e w2 ⟨rfl, T2, hd, ht⟩
  exact ⟨rfl, h.go h2 h3 hd ht (vz_zero h.vz)⟩
theorem Lz.on {wz : World} {M1 : Ma} (h : Lz w wz q ps T M1) (he : M1.e = 100) (ht : trapB ps M1 = false) (hs : M1.s < 1000000000000) : Calls Tryd.prog 29 #[ptr q] wz (LPost w q ps T true (stepM ps M1)) := by
  obtain ⟨T1, L1, h1, h2, h3⟩ := h.ex
  refine (rstep_on h1 he ht hs).mono ?_
  rintro e w2 ⟨rfl, T2, hd, ht'⟩
  exact ⟨rfl, h.go h2 h3 hd ht' (vz_step he h.vz)⟩
theorem Lz.trap {wz : World} {M1 : Ma} (h : Lz w wz q ps T M1) : Calls Tryd.prog 30 #[ptr q] wz fun e w2 => e = .returned (.bool (M1.e == 100 && trapB ps M1)) ∧ Below wz.heap.size wz w2 := by
  obtain ⟨T1, L1, h1, h2, h3⟩ := h.ex
  exact rtrap_any h1
/-- The prints told so far. -/
structure Pw (w3 wz : World) (R : Ma) (a : Option Addr) (c k : Nat) : Prop where
  up : Below w3.heap.size w3 wz
  x : Op.At wz w3.heap.size #[.int .i64 100, .int .i64 0, .slice a k c, .slice none 0 0, .int .i64 (R.s : Int)]
  row : wz.ownsRow (w3.heap.size + 1) 2 1 (.slice a k c) k (nums (R.pr.take k))
theorem pw_next {w3 wz W w4 : World} {R : Ma} {a : Option Addr} {c k g cap : Nat} {v : Int} (h : Pw w3 wz R a c k) (hW : Below wz.heap.size wz W) (hgrow : W.grownBy w4 (Value.ownBlock (.slice a k c))) (hown : w4.ownsRow (w3.heap.size + 1) 2 1 (.slice (some ⟨g, 0, none⟩) (k + 1) cap) (k + 1) (nums (R.pr.take k) ++ [.int .i64 v])) (hl : nums (R.pr.take k) ++ [.int .i64 v] = nums (R.pr.take (k + 1))) :
    Op.At w4 w3.heap.size #[.int .i64 100, .int .i64 0, .slice a k c, .slice none 0 0, .int .i64 (R.s : Int)] ∧ Pw w3 (w4.setCell ⟨w3.heap.size, 2, none⟩ (.slice (some ⟨g, 0, none⟩) (k + 1) cap)) R (some ⟨g, 0, none⟩) cap (k + 1) := by
  have hF : Fr (fun b => Value.ownBlock (.slice a k c) = some b) wz w4 := (Fr.of hW).trans (grown_fr hgrow) fun _ _ e => e
  have nb : ∀ b, b < w3.heap.size + 1 → ¬ Value.ownBlock (.slice a k c) = some b := fun b hb e => by have := (h.row.lt b e).1; omega
  have h1 := at_fr' h.x hF (nb _ (by omega))
  refine ⟨h1, ?_, at_set' h1 (j := 2) (by simp) _, ?_⟩
  · refine (((h.up.trans (hW.mono h.up.size)).grown hgrow ?_ fun b hb => ?_)).setCell (by show w3.heap.size ≤ w3.heap.size; omega) _
    · exact Nat.le_trans h.up.size hW.size
    · have := (h.row.lt b hb).1; omega
  · rw [← hl]
    exact row_set' hown (by omega) _
theorem pw_ob {w3 wy : World} {R : Ma} {a : Option Addr} {c : Nat} (hp : Pw w3 wy R a c R.pr.length) (hl : Lz w w3 q ps T R) : Ob w w3 wy w.heap.size w3.heap.size a none R.pr [] #[.int .i64 100, .int .i64 0, .slice a R.pr.length c, .slice none 0 0, .int .i64 (R.s : Int)] := by
  have h9 := hp.row
  rw [List.take_length] at h9
  have hna : ∀ x, a = some x → w3.heap.size + 1 ≤ x.block := fun x e => by subst e; exact (h9.lt _ rfl).1
  exact ⟨hp.up, hl.r0.below hp.up hl.r0.lt, hp.x, hl.r0.lt, Nat.le_refl _, nl_row h9, fun _ x e => by have := hna x e; omega, fun _ x e => by have := hna x e; omega, nl_nil _ _, fun h => by simp at h⟩
theorem Ob.set {w3 W : World} {n b : Nat} {a m : Option Addr} {l k : List Int} {vs : Array Value} (h : Ob w w3 W n b a m l k vs) (hm : 0 < k.length → ∀ x, m = some x → x.block ≠ b) {j : Nat} (hj : j < vs.size) (v : Value) : Ob w w3 (W.setCell ⟨b, j, none⟩ v) n b a m l k (vs.setIfInBounds j v) := by
  have hF : Fr (One b) W (W.setCell ⟨b, j, none⟩ v) := (Fr.refl (One b) W).setCell (.inr rfl) _ _
  have hnb := h.nb
  have hb1 := h.b1
  exact ⟨h.up.setCell (by show w3.heap.size ≤ b; exact h.b1) _, at_fr' h.r hF (fun e => by have e : n = b := e; omega), at_set' h.x hj v, h.nb, h.b1, h.nl.fr hF fun h0 x e hx => h.ab h0 x e hx, h.an, h.ab, h.ml.fr hF fun h0 x e hx => hm h0 x e hx, h.mn⟩
theorem Ob.memD {w3 W w5 : World} {n b : Nat} {a m r : Option Addr} {l k d : List Int} {vs : Array Value} (h : Ob w w3 W n b a m l k vs) (ho : Own W w5 r d) (hb : Below W.heap.size W w5) : Ob w w3 w5 n b a r l d vs ∧ (0 < d.length → ∀ x, r = some x → x.block ≠ b) := by
  have hs := h.up.size
  have hx := h.x.lt
  exact ⟨⟨h.up.trans (hb.mono hs), h.r.below hb h.r.lt, h.x.below hb h.x.lt, h.nb, h.b1, h.nl.up hb, h.an, h.ab, ho.nl, fun h0 x e => Nat.le_trans hs (ho.new h0 x e)⟩, fun h0 x e => by have := ho.new h0 x e; omega⟩
theorem ob_endD {w3 W : World} {b : Nat} {a m : Option Addr} {R : Ma} {v0 v1 v2 v3 v4 : Value} {l k : List Int} (h : Ob w w3 W w.heap.size b a m l k #[v0, v1, v2, v3, v4]) (hl : Lz w w3 q ps T R) (hq : q < w.heap.size) :
    let W4 := ((((W.setCell ⟨w.heap.size, 0, none⟩ v0).setCell ⟨w.heap.size, 1, none⟩ v1).setCell ⟨w.heap.size, 2, none⟩ v2).setCell ⟨w.heap.size, 3, none⟩ v3).setCell ⟨w.heap.size, 4, none⟩ v4
    Op.At W4 w.heap.size #[v0, v1, v2, v3, v4] ∧ Own w W4 a l ∧ Own w W4 m k ∧ ∃ T1 L1, DM W4 q ps T1 R L1 ∧ Tn w T W4 T1 := by
  intro W4
  obtain ⟨T1, L1, hm, htn, hT⟩ := hl.ex
  have hF : Fr (One w.heap.size) W W4 := (((((Fr.refl (One w.heap.size) W).setCell (.inr rfl) _ _).setCell (.inr rfl) _ _).setCell (.inr rfl) _ _).setCell (.inr rfl) _ _).setCell (.inr rfl) _ _
  have hs : w.heap.size ≤ w3.heap.size := htn.f.size
  have hnb := h.nb
  have hmW := hm.up h.up
  refine ⟨at_set' (at_set' (at_set' (at_set' (at_set' h.r (by simp) v0) (by simp) v1) (by simp) v2) (by simp) v3) (by simp) v4, ⟨h.nl.fr hF fun h0 x e hx => ?_, fun h0 x e => Nat.le_trans hs (h.an h0 x e)⟩, ⟨h.ml.fr hF fun h0 x e hx => ?_, fun h0 x e => Nat.le_trans hs (h.mn h0 x e)⟩, T1, L1, hmW.apart hF (fun k hk hx => ?_) (fun _ _ _ _ _ hP => hP.grow fun k _ e => .inr ?_), ⟨(htn.then h.up).f.trans hF fun k hk e => ?_, (htn.then h.up).t⟩⟩
  · have := h.an h0 x e
    have hx : x.block = w.heap.size := hx
    omega
  · have := h.mn h0 x e
    have hx : x.block = w.heap.size := hx
    omega
  · have hx : k = w.heap.size := hx
    subst hx
    exact hT hk
  · have e : k = w.heap.size := e
    omega
  · have e : k = w.heap.size := e
    omega
theorem Lz.eo {w3 : World} {R : Ma} (h : Lz w w3 q ps T R) : (R.e = 100 ∨ R.e = 0 ∨ R.e = 101) ∧ R.pr.length ≤ R.s := by
  obtain ⟨T1, L1, hm, htn, hT⟩ := h.ex
  exact ⟨hm.eo, hm.inv.p⟩
end
end Go.Proofs.YtlnfhbkkodhmaaaDoor.Sm
