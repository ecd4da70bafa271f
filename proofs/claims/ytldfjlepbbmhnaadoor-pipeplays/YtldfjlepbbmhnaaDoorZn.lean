/- Both machines side by side in memory, and what of them is the same: the code's and the document's. Conditions: the machines lie in memory. -/
import Derived.Test.YtldfjlepbbmhnaaDoorZm
namespace Go.Proofs.YtldfjlepbbmhnaaDoor.Pp
open Go.ChangeShapes Go.WideShapes Go.ChangeAt Go.RowKit
open _root_.Go.Proofs.YtldfjlepbbmhnaaDoor.Op _root_.Go.Proofs.YtldfjlepbbmhnaaDoor.So _root_.Go.Proofs.YtldfjlepbbmhnaaDoor.Bu
open _root_.Go.Proofs.YtldfjlepbbmhnaaDoor.Tb (Tab TabAt Bnds)
set_option maxRecDepth 20000

section
variable {W W' : World} {t : Tab} {bs : List Bn} {H1 H1' : Hx} {H2 H2' : Rx} {S S' : PM} {R R' : RM} {C : Nat → Prop}
theorem Rch.aside {X : Nat → Prop} (h : Rch W t bs H2 R) (g : Fr X W W') (hx : ∀ b, X b → ¬ rown H2 b) (hF : ∀ V, Fr (rown H2) W' V → BsAt V H2.ba bs) : Rch W' t bs H2 R := by
  have off : ∀ i, i < 6 → ∀ b, blk H2 i = some b → ¬ X b := fun i hi b e hX => hx b hX ⟨i, hi, e⟩
  exact ⟨h.c.fr g (off 0 (by decide) _ rfl), h.rr.fr g (off 1 (by decide) _ rfl), h.mm.fr g (off 2 (by decide) _ rfl), row_fr h.ff g (off 3 (by decide)), row_fr h.tt g (off 4 (by decide)), row_fr h.pp g (off 5 (by decide)), h.d, hF⟩
/-- The code's machine and the document's; C: what may turn. -/
structure M3 (C : Nat → Prop) (W : World) (t : Tab) (bs : List Bn) (H1 : Hx) (S : PM) (H2 : Rx) (R : RM) : Prop where
  m1 : Mch W t bs H1 S
  m2 : Rch W t bs H2 R
  d : ∀ b, own H1 b → ¬ rown H2 b
  b1 : ∀ V, Fr C W V → BsAt V H1.ba bs
  b2 : ∀ V, Fr C W V → BsAt V H2.ba bs
  o1 : ∀ b, own H1 b → C b
  o2 : ∀ b, rown H2 b → C b
  c : ∀ b, W.heap.size ≤ b → C b
theorem M3.next (h : M3 C W t bs H1 S H2 R) (g : Below W.heap.size W W') : M3 C W' t bs H1 S H2 R :=
  ⟨h.m1.up g, h.m2.up g, h.d, fun V hV => h.b1 V ((Fr.of (X := C) g).trans hV fun _ _ e => e), fun V hV => h.b2 V ((Fr.of (X := C) g).trans hV fun _ _ e => e), h.o1, h.o2, fun b hb => h.c b (Nat.le_trans g.size hb)⟩
theorem M3.go1 (h : M3 C W t bs H1 S H2 R) (m : Mch W' t bs H1' S') (g : Tn W H1 W' H1') : M3 C W' t bs H1' S' H2 R := by
  have fC : Fr C W W' := g.f.mono fun b _ e => h.o1 b e
  have o1' : ∀ b, own H1' b → C b := fun b e => (g.t b e).elim (h.o1 b) (h.c b)
  refine ⟨m, h.m2.aside g.f h.d fun V hV => h.b2 V (fC.trans hV fun k _ e => h.o2 k e), fun b e1 e2 => ?_, fun V hV => ?_, fun V hV => h.b2 V (fC.trans hV fun _ _ e => e), o1', h.o2, fun b hb => h.c b (Nat.le_trans g.f.size hb)⟩
  · rcases g.t b e1 with e | e
    · exact h.d b e e2
    · have := rown_lt h.m2 e2; omega
  · rw [g.a]; exact h.b1 V (fC.trans hV fun _ _ e => e)
theorem M3.go2 (h : M3 C W t bs H1 S H2 R) (m : Rch W' t bs H2' R') (g : Rn W H2 W' H2') : M3 C W' t bs H1 S H2' R' := by
  have fC : Fr C W W' := g.f.mono fun b _ e => h.o2 b e
  have o2' : ∀ b, rown H2' b → C b := fun b e => (g.t b e).elim (h.o2 b) (h.c b)
  refine ⟨h.m1.aside g.f (fun b e2 e1 => h.d b e1 e2) fun V hV => h.b1 V (fC.trans hV fun k _ e => h.o1 k e), m, fun b e1 e2 => ?_, fun V hV => h.b1 V (fC.trans hV fun _ _ e => e), fun V hV => ?_, h.o1, o2', fun b hb => h.c b (Nat.le_trans g.f.size hb)⟩
  · rcases g.t b e2 with e | e
    · exact h.d b e1 e
    · have := own_lt h.m1 e1; omega
  · rw [g.a]; exact h.b2 V (fC.trans hV fun _ _ e => e)
/-- Something beside both turns. -/
theorem M3.else {X : Nat → Prop} (h : M3 C W t bs H1 S H2 R) (g : Fr X W W') (hX : ∀ b, X b → C b ∧ ¬ own H1 b ∧ ¬ rown H2 b) : M3 C W' t bs H1 S H2 R := by
  have fC : Fr C W W' := g.mono fun b _ e => (hX b e).1
  exact ⟨h.m1.aside g (fun b e => (hX b e).2.1) fun V hV => h.b1 V (fC.trans hV fun k _ e => h.o1 k e), h.m2.aside g (fun b e => (hX b e).2.2) fun V hV => h.b2 V (fC.trans hV fun k _ e => h.o2 k e), h.d, fun V hV => h.b1 V (fC.trans hV fun _ _ e => e), fun V hV => h.b2 V (fC.trans hV fun _ _ e => e), h.o1, h.o2, fun b hb => h.c b (Nat.le_trans g.size hb)⟩
end
/-! ### what is the same -/
theorem isE_v {S : PM} {o : O} {z : Int × Int} (h : isE S o = some z) : z.1 = 0 ∨ z.2 = 0 := by
  unfold isE at h
  by_cases h20 : o.op = 20
  · rw [if_pos h20] at h; cases h; exact .inl rfl
  · rw [if_neg h20] at h
    by_cases hn : o.op = 0 ∨ o.op = 17 ∨ o.op = 16 ∨ o.op = 21 ∨ o.op = 19 ∨ o.op = 22 ∨ o.op = 23 ∨ o.op = 18
    · rw [if_pos hn] at h; cases h
    · rw [if_neg hn] at h
      by_cases he : resE S o = 0
      · rw [if_pos he] at h; cases h
      · rw [if_neg he] at h; cases h; exact .inr rfl
theorem bdM_z (t : Tab) : ∀ (l : List (O × Nat)) (S : PM) {z : Int × Int}, (bdM t S l).2 = some z → z.1 = 0 ∨ z.2 = 0
  | [], S, z, h => by cases h
  | p :: l, S, z, h => by
    unfold bdM at h
    cases e : isE S p.1 with
    | some z' => rw [e] at h; cases h; exact isE_v e
    | none => rw [e] at h; exact bdM_z t l _ h
/-- Of a machine that ended otherwise than by a halt there is no value. -/
def Vz (S : PM) : Prop := S.e ≠ 0 → S.v = 0
theorem cyM_vz {t : Tab} {bs : List Bn} {S : PM} (h : S.v = 0) : (cyM t bs S).1.v = 0 ∧ ∀ z, (cyM t bs S).2 = some z → z.1 = 0 ∨ z.2 = 0 := by
  have hl : (landM S).v = 0 := (landM_v S).trans h
  unfold cyM
  by_cases ha : 0 ≤ (landM S).a ∧ (landM S).a < (bs.length : Int)
  · rw [if_pos ha]
    have hv := bdM_v t (restO (bs.getD (landM S).a.toNat ⟨fun _ => []⟩) 4) (landM S)
    have hz := fun z => bdM_z t (restO (bs.getD (landM S).a.toNat ⟨fun _ => []⟩) 4) (landM S) (z := z)
    generalize bdM t (landM S) (restO (bs.getD (landM S).a.toNat ⟨fun _ => []⟩) 4) = M at *
    obtain ⟨S2, y⟩ := M
    cases y with
    | none => exact ⟨hv.trans hl, fun z e => by cases e⟩
    | some y => exact ⟨hv.trans hl, fun z e => hz z e⟩
  · rw [if_neg ha]
    exact ⟨hl, fun z e => by cases e⟩
theorem run_vz (t : Tab) (bs : List Bn) : ∀ (n : Nat) {S : PM}, (S.e = 100 → S.v = 0) → Vz S → Vz (runM t bs n S) ∧ ((runM t bs n S).e = 100 → (runM t bs n S).v = 0)
  | 0, S, h1, h2 => by rw [run_zero]; exact ⟨h2, h1⟩
  | n + 1, S, h1, h2 => by
    by_cases he : S.e = 100
    · have hc := cyM_vz (t := t) (bs := bs) (h1 he)
      cases hcy : cyM t bs S with
      | mk S' z =>
        rw [hcy] at hc
        cases z with
        | none =>
          rw [run_none t bs he hcy]
          exact run_vz t bs n (fun _ => hc.1) (fun _ => hc.1)
        | some z =>
          rw [run_some t bs he hcy]
          have hz := hc.2 z rfl
          refine ⟨fun h0 => ?_, fun h0 => ?_⟩
          · have h0 : z.1 ≠ 0 := h0
            exact hz.resolve_left h0
          · have h0 : z.1 = 100 := h0
            exact hz.resolve_left (by omega)
    · rw [run_over t bs he]
      exact ⟨h2, h1⟩
/-- Both have done c cycles that were asked for. -/
structure Rl (S : PM) (R : RM) (c k : Nat) : Prop where
  r : Rel S R (512 * c)
  s : S.Ok (512 * c)
  o : R.Ok (512 * c)
  v : Vz S
  v1 : S.e = 100 → S.v = 0
  sn : S.s ≤ 2 * c + k
section
variable {t : Tab} {bs : List Bn} {S : PM} {R : RM} {c : Nat}
theorem runR_ok (hB : Bp t bs) : ∀ (m : Nat) {R : RM} {L : Nat}, R.Ok L → L + 512 * m ≤ 100000000 → R.s + m ≤ 10000000000 → (runR t bs m R).Ok (L + 512 * m)
  | 0, R, L, h, _, _ => h
  | m + 1, R, L, h, h1, h2 => by
    have hc := cyR_ok hB h (by omega) (by omega)
    rw [runR_one]
    exact (runR_ok hB m hc.1 (by omega) (by omega)).mono (by omega)
theorem Rl.run {k : Nat} (hB : Bp t bs) (h : Rl S R c k) (n : Nat) (hc : c + n ≤ 100000) (hk : k ≤ 100000) : Rl (runM t bs n S) (runR t bs n R) (c + n) (k + 1) := by
  have h1 := rel_run hB.tt hB.d hB.b n h.r h.s (by omega)
  have h2 := run_ok hB.b n h.s
  have h3 := run_vz t bs n h.v1 h.v
  have hs := (let ⟨_, hl, _⟩ := h.r; hl.s : R.s = S.s)
  have h0 := h.sn
  have h4 := runR_ok hB n h.o (by omega) (by omega)
  rw [show 512 * c + 512 * n = 512 * (c + n) by omega] at h1 h2 h4
  exact ⟨h1, h2.1, h4, h3.1, h3.2, by have := h2.2; omega⟩
theorem rel_list (h : Rel S R c) : R.r = S.r ∧ R.m = S.m ∧ R.p = S.p ∧ R.s = S.s ∧ ouE R = S.e ∧ ((S.e ≠ 0 → S.v = 0) → ouV R = vI S) ∧ ouM R = memL S := by
  obtain ⟨lo, hl, h2⟩ := h
  have hm : mmR R = mL S := by unfold mmR mL; rw [hl.m]
  refine ⟨hl.r, hl.m, hl.p, hl.s, ?_, fun hv => ?_, ?_⟩
  · rcases h2 with ⟨e1, e2, -, -⟩ | ⟨e1, e2, e3, -⟩
    · unfold ouE; rw [e2, e1]; rfl
    · unfold ouE; rw [e2, e3]; rfl
  · rcases h2 with ⟨e1, e2, -, -⟩ | ⟨e1, e2, e3, e4⟩
    · unfold ouV vI; rw [e2, if_neg (show ¬ S.e = 0 by omega)]; rfl
    · unfold ouV vI
      rw [e2]
      by_cases h0 : S.e = 0
      · rw [if_pos h0]; exact e4
      · rw [if_neg h0]; exact e4.trans (hv h0)
  · rcases h2 with ⟨e1, e2, -, -⟩ | ⟨e1, e2, e3, -⟩
    · unfold ouM memL; rw [if_neg (by rw [e2]; rintro ⟨e, -⟩; cases e), if_neg (show ¬ S.e = 0 by omega)]
    · unfold ouM memL
      by_cases h0 : S.e = 0
      · rw [if_pos ⟨e2, e3.trans h0⟩, if_pos h0]; exact hm
      · rw [if_neg (fun e => h0 (e3.symm.trans e.2)), if_neg h0]
end
end Go.Proofs.YtldfjlepbbmhnaaDoor.Pp
