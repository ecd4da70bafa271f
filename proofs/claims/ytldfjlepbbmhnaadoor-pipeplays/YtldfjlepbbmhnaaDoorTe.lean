/- Two machines of the same words side by side; what Run tells, whatever has come of it. Conditions: the machines lie in memory, their bundles are well formed. -/
import Derived.Test.YtldfjlepbbmhnaaDoorQl
import Derived.Test.YtldfjlepbbmhnaaDoorTd
namespace Go.Proofs.YtldfjlepbbmhnaaDoor.Pp
open Go.ChangeShapes Go.WideShapes Go.ChangeAt Go.RowKit
open _root_.Go.Proofs.YtldfjlepbbmhnaaDoor.Op _root_.Go.Proofs.YtldfjlepbbmhnaaDoor.So _root_.Go.Proofs.YtldfjlepbbmhnaaDoor.Bu
open _root_.Go.Proofs.YtldfjlepbbmhnaaDoor.Tb (Tab TabAt Bnds)
set_option maxRecDepth 20000

section
variable {t : Tab} {bs : List Bn} {S : PM}
theorem rkE_ne (d b : Int) : rkE d b ≠ 100 := by
  unfold rkE
  split
  · decide
  · split
    · split <;> decide
    · decide
theorem resE_ne (S : PM) (o : O) : resE S o ≠ 100 := by
  unfold resE
  split
  · decide
  · split
    · decide
    · exact rkE_ne _ _
theorem isE_ne {o : O} {z : Int × Int} (h : isE S o = some z) : z.1 ≠ 100 := by
  unfold isE at h
  split at h
  · cases h; exact (show (0 : Int) ≠ 100 by decide)
  · split at h
    · cases h
    · split at h
      · cases h
      · cases h
        exact resE_ne S o
theorem bdM_ne (t : Tab) : ∀ (l : List (O × Nat)) (S : PM) {z : Int × Int}, (bdM t S l).2 = some z → z.1 ≠ 100
  | [], S, z, h => by cases h
  | p :: l, S, z, h => by
    unfold bdM at h
    cases e : isE S p.1 with
    | some z' => rw [e] at h; cases h; exact isE_ne e
    | none => rw [e] at h; exact bdM_ne t l _ h
theorem cyM_ne {S' : PM} {z : Int × Int} (h : cyM t bs S = (S', some z)) : z.1 ≠ 100 := by
  unfold cyM at h
  split at h
  · generalize hR : bdM t (landM S) (restO (bs.getD (landM S).a.toNat ⟨fun _ => []⟩) 4) = R at h
    obtain ⟨S2, y⟩ := R
    cases y with
    | none => cases h
    | some y =>
      cases h
      exact bdM_ne t _ _ (by rw [hR])
  · cases h
theorem run_add (t : Tab) (bs : List Bn) : ∀ (n m : Nat) (S : PM), runM t bs (n + m) S = runM t bs m (runM t bs n S)
  | 0, m, S => by rw [Nat.zero_add, run_zero]
  | n + 1, m, S => by
    by_cases he : S.e = 100
    · rw [Nat.add_right_comm]
      cases hc : cyM t bs S with
      | mk S' z =>
        cases z with
        | none => rw [run_none t bs he hc, run_none t bs he hc, run_add t bs n m S']
        | some z =>
          rw [run_some t bs he hc, run_some t bs he hc]
          exact (run_over t bs (cyM_ne hc : (endM S' z).e ≠ 100) m).symm
    · rw [run_over t bs he, run_over t bs he, run_over t bs he]
theorem run_ok (hB : Bo t bs) : ∀ (n : Nat) {S : PM} {L : Nat}, S.Ok L → (runM t bs n S).Ok (L + 512 * n) ∧ (runM t bs n S).s ≤ S.s + n + 1
  | 0, S, L, h => ⟨h, by rw [run_zero]; omega⟩
  | n + 1, S, L, h => by
    by_cases he : S.e = 100
    · have h1 := cyM_ok h hB
      cases hc : cyM t bs S with
      | mk S' z =>
        rw [hc] at h1
        obtain ⟨o1, s1⟩ := h1
        dsimp only at o1 s1
        cases z with
        | none =>
          rw [run_none t bs he hc]
          have h2 := run_ok hB n o1
          exact ⟨h2.1.mono (by omega), by omega⟩
        | some z =>
          rw [run_some t bs he hc]
          exact ⟨PM.Ok.mono (L := L + 512) ⟨o1.r, o1.m, o1.a, o1.c0, o1.c1, o1.f, o1.l, o1.p⟩ (by omega), by show S'.s + 1 ≤ _; omega⟩
    · rw [run_over t bs he]
      exact ⟨h.mono (by omega), by omega⟩
theorem run_step (t : Tab) (bs : List Bn) (n : Nat) (S : PM) : runM t bs (n + 1) S = runM t bs 1 (runM t bs n S) := run_add t bs n 1 S
/-! ### what was printed -/
theorem isM_p (t : Tab) (S : PM) (o : O) (la : Nat) : ∃ l, (isM t S o la).p = S.p ++ l := by
  have z : ∃ l, S.p = S.p ++ l := ⟨[], by simp⟩
  have tr : (trnM S o).p = S.p := by
    unfold trnM
    split
    · rfl
    · split <;> rfl
  unfold isM
  by_cases h0 : o.op = 0
  · rw [if_pos h0]; exact z
  rw [if_neg h0]
  by_cases h1 : o.op = 17
  · rw [if_pos h1]; exact ⟨_, rfl⟩
  rw [if_neg h1]
  by_cases h2 : o.op = 16
  · rw [if_pos h2]; exact z
  rw [if_neg h2]
  by_cases h3 : o.op = 21
  · rw [if_pos h3]; exact z
  rw [if_neg h3]
  by_cases h4 : o.op = 20
  · rw [if_pos h4]; exact z
  rw [if_neg h4]
  by_cases h5 : o.op = 19 ∨ o.op = 22 ∨ o.op = 23
  · rw [if_pos h5]
    split
    · exact ⟨[], by show (trnM S o).p = _; rw [tr]; simp⟩
    · exact ⟨[], by rw [tr]; simp⟩
  rw [if_neg h5]
  by_cases h7 : o.op = 18
  · rw [if_pos h7]; exact z
  rw [if_neg h7]; exact z
theorem bdM_p (t : Tab) : ∀ (l : List (O × Nat)) (S : PM), ∃ q, (bdM t S l).1.p = S.p ++ q
  | [], S => ⟨[], by simp [bdM]⟩
  | p :: l, S => by
    unfold bdM
    cases e : isE S p.1 with
    | some z => exact ⟨[], by simp⟩
    | none =>
      obtain ⟨q1, h1⟩ := isM_p t S p.1 (S.s + (t.l p.2).toNat)
      obtain ⟨q2, h2⟩ := bdM_p t l (isM t S p.1 (S.s + (t.l p.2).toNat))
      exact ⟨q1 ++ q2, by rw [h2, h1]; simp⟩
theorem landM_p (S : PM) : (landM S).p = S.p := by
  unfold landM
  have : ∀ (l : List F) (T : PM), (l.foldl ld1 T).p = T.p := fun l => by
    induction l with
    | nil => exact fun _ => rfl
    | cons y l ih => exact fun T => (ih (ld1 T y)).trans (ld1_s T y).2.2.1
  exact this _ _
theorem cyM_p (t : Tab) (bs : List Bn) (S : PM) : ∃ l, (cyM t bs S).1.p = S.p ++ l := by
  unfold cyM
  split
  · obtain ⟨q, h⟩ := bdM_p t (restO (bs.getD (landM S).a.toNat ⟨fun _ => []⟩) 4) (landM S)
    rw [landM_p] at h
    generalize bdM t (landM S) (restO (bs.getD (landM S).a.toNat ⟨fun _ => []⟩) 4) = R at h
    obtain ⟨S2, y⟩ := R
    cases y with
    | none => exact ⟨q, h⟩
    | some y => exact ⟨q, h⟩
  · exact ⟨[], by show (landM S).p = _; rw [landM_p]; simp⟩
theorem run_p (t : Tab) (bs : List Bn) : ∀ (n : Nat) (S : PM), ∃ l, (runM t bs n S).p = S.p ++ l
  | 0, S => ⟨[], by rw [run_zero]; simp⟩
  | n + 1, S => by
    by_cases he : S.e = 100
    · obtain ⟨l, h⟩ := cyM_p t bs S
      cases hc : cyM t bs S with
      | mk S' z =>
        rw [hc] at h
        dsimp only at h
        cases z with
        | none =>
          rw [run_none t bs he hc]
          obtain ⟨q, h2⟩ := run_p t bs n S'
          exact ⟨l ++ q, by rw [h2, h]; simp⟩
        | some z =>
          rw [run_some t bs he hc]
          exact ⟨l, h⟩
    · rw [run_over t bs he]
      exact ⟨[], by simp⟩
end
end Go.Proofs.YtldfjlepbbmhnaaDoor.Pp
namespace Go.Proofs.YtldfjlepbbmhnaaDoor.Pp
open Go.ChangeShapes Go.WideShapes Go.ChangeAt Go.RowKit
open _root_.Go.Proofs.YtldfjlepbbmhnaaDoor.Op _root_.Go.Proofs.YtldfjlepbbmhnaaDoor.So _root_.Go.Proofs.YtldfjlepbbmhnaaDoor.Bu
open _root_.Go.Proofs.YtldfjlepbbmhnaaDoor.Tb (Tab TabAt Bnds)
set_option maxRecDepth 20000

/-- What a run tells of cells, and of its value. -/
def memL (S : PM) : List Int := if S.e = 0 then mL S else []
def vI (S : PM) : Int := if S.e = 0 then S.v else 0
/-- What Run answers. -/
def RunOut (w : World) (t : Tab) (bs : List Bn) (H : Hx) (S2 : PM) (e : Ending) (w' : World) : Prop :=
  ∃ po pc mo mc, e = .returned (.agg #[.int .i64 S2.e, .int .i64 (vI S2), .slice po S2.p.length pc, .slice mo (memL S2).length mc, .int .i64 (S2.s : Int)]) ∧ w'.ownsRow w.heap.size 2 1 (.slice po S2.p.length pc) S2.p.length (nums S2.p) ∧ w'.ownsRow w.heap.size 2 1 (.slice mo (memL S2).length mc) (memL S2).length (nums (memL S2)) ∧
    ∃ H', Mch w' t bs H' S2 ∧ Tn w H w' H' ∧ (∀ b, (Value.slice po S2.p.length pc).ownBlock = some b → ¬ own H' b) ∧ (∀ b, (Value.slice mo (memL S2).length mc).ownBlock = some b → ¬ own H' b)
section
variable {w : World} {t : Tab} {bs : List Bn} {H : Hx} {S : PM}
theorem run_any (n L : Nat) (h : Mch w t bs H S) (hS : S.Ok L) (hB : Bo t bs) (hn : n ≤ 1048576) (hs : S.s + n ≤ 10000000000) (hL : L + 512 * n ≤ 100000000) : Calls Tryd.prog 10 #[ptr H.mb, .int .i64 (n : Int)] w (RunOut w t bs H (runM t bs n S)) := by
  have hp : (runM t bs n S).p.length ≤ 1000000000 := by have := (run_ok hB n hS).1.p; omega
  by_cases he : (runM t bs n S).e = 0
  · refine (run_done2 n L h hS hB hn hs hL _ rfl he hp).mono ?_
    rintro e w' ⟨vp, vm, rfl, h1, h2, H', h3, h4, h5, h6⟩
    obtain ⟨po, pc, rfl⟩ := row_slice h1
    obtain ⟨mo, mc, rfl⟩ := row_slice h2
    have hm : memL (runM t bs n S) = mL (runM t bs n S) := by unfold memL; rw [if_pos he]
    have hv : vI (runM t bs n S) = (runM t bs n S).v := by unfold vI; rw [if_pos he]
    rw [nums_m] at h2
    refine ⟨po, pc, mo, mc, ?_, h1, ?_, H', h3, h4, h5, ?_⟩
    · rw [hm, hv, he, mL_len]
    · rw [hm, mL_len]; exact h2
    · rw [hm, mL_len]; exact h6
  · refine (run_open n L h hS hB hn hs hL _ rfl he hp).mono ?_
    rintro e w' ⟨vp, rfl, h1, H', h3, h4, h5⟩
    obtain ⟨po, pc, rfl⟩ := row_slice h1
    have hm : memL (runM t bs n S) = [] := by unfold memL; rw [if_neg he]
    have hv : vI (runM t bs n S) = 0 := by unfold vI; rw [if_neg he]
    refine ⟨po, pc, none, 0, ?_, h1, ?_, H', h3, h4, h5, fun b hb => by cases hb⟩
    · rw [hm, hv]; rfl
    · rw [hm]; exact World.ownsRow_nil _ _ _ _
end
/-- Two machines of the same bundles, made behind w. -/
structure M2 (w W : World) (t : Tab) (bs : List Bn) (H1 H2 : Hx) (S1 S2 : PM) : Prop where
  m1 : Mch W t bs H1 S1
  m2 : Mch W t bs H2 S2
  d : ∀ b, own H1 b → ¬ own H2 b
  b1 : ∀ V, Fr (fun b => own H1 b ∨ own H2 b) W V → BsAt V H1.ba bs
  b2 : ∀ V, Fr (fun b => own H1 b ∨ own H2 b) W V → BsAt V H2.ba bs
  o1 : ∀ b, own H1 b → w.heap.size ≤ b
  o2 : ∀ b, own H2 b → w.heap.size ≤ b
  up : Below w.heap.size w W
section
variable {w W W' : World} {t : Tab} {bs : List Bn} {H1 H2 H1' H2' : Hx} {S1 S2 S1' S2' : PM}
theorem M2.next (h : M2 w W t bs H1 H2 S1 S2) (g : Below W.heap.size W W') : M2 w W' t bs H1 H2 S1 S2 :=
  ⟨h.m1.up g, h.m2.up g, h.d, fun V hV => h.b1 V ((Fr.of (X := fun b => own H1 b ∨ own H2 b) g).trans hV fun _ _ e => e), fun V hV => h.b2 V ((Fr.of (X := fun b => own H1 b ∨ own H2 b) g).trans hV fun _ _ e => e), h.o1, h.o2, h.up.trans (g.mono h.up.size)⟩
theorem M2.swap (h : M2 w W t bs H1 H2 S1 S2) : M2 w W t bs H2 H1 S2 S1 :=
  ⟨h.m2, h.m1, fun b h2 h1 => h.d b h1 h2, fun V hV => h.b2 V (hV.mono fun _ _ e => e.symm), fun V hV => h.b1 V (hV.mono fun _ _ e => e.symm), h.o2, h.o1, h.up⟩
/-- The first one turns. -/
theorem M2.go (h : M2 w W t bs H1 H2 S1 S2) (m : Mch W' t bs H1' S1') (g : Tn W H1 W' H1') : M2 w W' t bs H1' H2 S1' S2 := by
  have hz := h.up.size
  have key : ∀ V, Fr (fun b => own H1' b ∨ own H2 b) W' V → Fr (fun b => own H1 b ∨ own H2 b) W V := fun V hV =>
    (g.f.mono (Y := fun b => own H1 b ∨ own H2 b) fun _ _ e => .inl e).trans hV fun k hk e => e.elim (fun e => (g.t k e).elim .inl fun e' => absurd hk (by omega)) .inr
  refine ⟨m, h.m2.aside g.f h.d fun V hV => h.b2 V ((g.f.mono (Y := fun b => own H1 b ∨ own H2 b) fun _ _ e => .inl e).trans hV fun _ _ e => .inr e), fun b h1 h2 => ?_, fun V hV => ?_, fun V hV => h.b2 V (key V hV), fun b hb => ?_, h.o2, h.up.trans (g.f.below hz fun k hk e => by have := h.o1 k e; omega)⟩
  · rcases g.t b h1 with e | e
    · exact h.d b e h2
    · have := own_lt h.m2 h2; omega
  · rw [g.a]; exact h.b1 V (key V hV)
  · rcases g.t b hb with e | e
    · exact h.o1 b e
    · omega
/-- A row that neither of both holds, while the first turns. -/
theorem M2.row {B : Nat} {v : Value} {n : Nat} {xs : List Value} (_h : M2 w W t bs H1 H2 S1 S2) (g : Tn W H1 W' H1') (hr : W.ownsRow B 2 1 v n xs) (hn : ∀ b, v.ownBlock = some b → ¬ own H1 b) : W'.ownsRow B 2 1 v n xs ∧ ∀ b, v.ownBlock = some b → ¬ own H1' b :=
  ⟨row_fr hr g.f hn, fun b hb e => (g.t b e).elim (hn b hb) fun e' => by have := (hr.lt b hb).2; omega⟩
/-- A row behind B, that a machine whose parts lie ahead of B does not hold. -/
theorem row_free {B : Nat} {v : Value} {n : Nat} {xs : List Value} (hr : W.ownsRow B 2 1 v n xs) (hB : ∀ b, own H2 b → b < B) : ∀ b, v.ownBlock = some b → ¬ own H2 b := fun b hb e => by
  have := (hr.lt b hb).1
  have := hB b e
  omega
/-- Two machines are made. -/
theorem m2_new {w1 w2 : World} {rs ms : List Int} {q1 q2 c1 c2 : Nat} {r1 r2 : Option Addr} (h1 : Mch w1 t bs (newH q1 r1 c1) (newM rs ms)) (u1 : Below w.heap.size w w1) (z1 : w.heap.size ≤ q1) (f1 : ∀ V, Fr (fun k => k < w.heap.size ∨ k = q1) w1 V → BsAt V r1 bs)
    {wm : World} (hm : Below w1.heap.size w1 wm) (h2 : Mch w2 t bs (newH q2 r2 c2) (newM rs ms)) (u2 : Below wm.heap.size wm w2) (z2 : wm.heap.size ≤ q2) (f2 : ∀ V, Fr (fun k => k < wm.heap.size ∨ k = q2) w2 V → BsAt V r2 bs) : M2 w w2 t bs (newH q1 r1 c1) (newH q2 r2 c2) (newM rs ms) (newM rs ms) := by
  have l1 : q1 < w1.heap.size := h1.c.lt
  have l2 := hm.size
  have l3 := u1.size
  have hb : Below w1.heap.size w1 w2 := hm.trans (u2.mono l2)
  refine ⟨h1.up hb, h2, fun b e1 e2 => ?_, fun V hV => f1 V ?_, fun V hV => f2 V (hV.mono fun k _ e => ?_), fun b e => ?_, fun b e => ?_, u1.trans (hb.mono l3)⟩
  · have := own_new e1
    have := own_new e2
    omega
  · refine (Fr.of (X := fun k => k < w.heap.size ∨ k = q1) hb).trans hV fun k hk e => ?_
    rcases e with e | e
    · exact .inr (own_new e)
    · have := own_new e; omega
  · rcases e with e | e
    · exact .inl (by have := own_new e; omega)
    · exact .inr (own_new e)
  · have := own_new e; omega
  · have := own_new e; omega
end
end Go.Proofs.YtldfjlepbbmhnaaDoor.Pp
