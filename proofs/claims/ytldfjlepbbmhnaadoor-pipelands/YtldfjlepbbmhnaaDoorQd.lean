/- What is in flight: how it is put in and taken out (put, take), and whether a turn is made (turns), read off the program by the walk. Conditions: the machine lies in memory. -/
import Derived.Test.YtldfjlepbbmhnaaDoorQc
namespace Go.Proofs.YtldfjlepbbmhnaaDoor.Pp
open Go.ChangeShapes Go.WideShapes Go.ChangeAt Go.RowKit
open _root_.Go.Proofs.YtldfjlepbbmhnaaDoor.Op _root_.Go.Proofs.YtldfjlepbbmhnaaDoor.So _root_.Go.Proofs.YtldfjlepbbmhnaaDoor.Bu
open _root_.Go.Proofs.YtldfjlepbbmhnaaDoor.Tb (Tab TabAt Bnds)
set_option maxRecDepth 20000

theorem info118 : (Tryd.prog.info? 118).map (fun i => (i.zero, i.size, i.bytes)) = some (some (.agg #[.int .u8 0, .int .u8 0, .int .i64 0]), 3, 16) := by kernel_rfl
theorem fr_grown {W W' : World} {o : Option Nat} (h : W.grownBy W' o) : Fr (fun b => o = some b) W W' := ⟨h.os, h.tape, h.output, h.size, fun k hk hx => h.block k hk fun e => hx e.symm⟩
theorem row_slice {W : World} {B e s n : Nat} {v : Value} {xs : List Value} (h : W.ownsRow B e s v n xs) : ∃ ao c, v = .slice ao n c := by
  obtain ⟨-, ⟨h1, h2⟩ | ⟨g, cap, cur, h1, -⟩⟩ := h
  · exact ⟨none, 0, by rw [h1, h2]⟩
  · exact ⟨_, cap, h1⟩
section
variable {W W' : World} {t : Tab} {bs : List Bn} {H : Hx} {S : PM}
def setRv (H : Hx) (k : Nat) (v : Value) : Hx := { H with rv := fun j => if j = k then v else H.rv j }
/-- A row of what is in flight turns, in its own block or in a new one. -/
theorem Mch.row (h : Mch W t bs H S) {k : Nat} (hk : k < 8) {v' : Value} {l : List F} (hg : W.grownBy W' (H.rv k).ownBlock) (ho : W'.ownsRow 0 118 3 v' l.length (fcells l)) (hb : v'.ownBlock = (H.rv k).ownBlock ∨ v'.ownBlock = some W.heap.size ∨ v'.ownBlock = none) :
    MC W' t bs.length H S ∧ Mch (W'.setCell ⟨H.mb, 304 + k, none⟩ v') t bs (setRv H k v') { S with f := fun j => if j = k then l else S.f j } ∧ Tn W H (W'.setCell ⟨H.mb, 304 + k, none⟩ v') (setRv H k v') := by
  have g := fr_grown hg
  have c' : MC W' t bs.length H S := h.c.fr g fun e => h.d3 k hk e
  have g2 : Fr (own H) W (W'.setCell ⟨H.mb, 304 + k, none⟩ v') := (g.mono fun b _ e => .inr (.inl ⟨k, hk, e⟩)).setCell (.inr (.inl rfl)) _ _
  have gx : Fr (fun b => (H.rv k).ownBlock = some b ∨ b = H.mb) W (W'.setCell ⟨H.mb, 304 + k, none⟩ v') := (g.mono fun b _ e => .inl e).setCell (.inr (.inr rfl)) _ _
  have hm := h.c.lt
  have vb : ∀ b, v'.ownBlock = some b → (H.rv k).ownBlock = some b ∨ b = W.heap.size := fun b e => by
    rcases hb with hb | hb | hb
    · exact .inl (hb ▸ e)
    · rw [hb] at e; injection e with e; exact .inr e.symm
    · rw [hb] at e; cases e
  have rvl : ∀ i, i < 8 → ∀ b, (H.rv i).ownBlock = some b → b < W.heap.size := fun i hi b e => ((h.rr i hi).lt b e).2
  have pvl : ∀ b, H.pv.ownBlock = some b → b < W.heap.size := fun b e => (h.pp.lt b e).2
  have tn : Tn W H (W'.setCell ⟨H.mb, 304 + k, none⟩ v') (setRv H k v') := ⟨g2, fun b hb' => by
    rcases hb' with e | ⟨i, hi, e⟩ | e
    · exact .inl (.inl e)
    · by_cases ei : i = k
      · subst ei
        have e : v'.ownBlock = some b := by simpa [setRv] using e
        exact (vb b e).imp (fun e => .inr (.inl ⟨i, hi, e⟩)) fun e => by omega
      · exact .inl (.inr (.inl ⟨i, hi, by simpa [setRv, ei] using e⟩))
    · exact .inl (.inr (.inr e)), rfl, rfl⟩
  refine ⟨c', ⟨c'.setF k hk v' _, fun i hi => ?_, ?_, ?_, ?_, ?_, h.d4, bF_go h.bF tn rfl⟩, tn⟩
  · by_cases ei : i = k
    · subst ei
      simp only [setRv, if_true]
      exact row_fr ho ((Fr.refl (One H.mb) W').setCell (.inr rfl) _ _) fun b e e2 => by
        have e2 : b = H.mb := e2
        subst e2
        rcases vb _ e with e | e
        · exact h.d3 i hi e
        · omega
    · simp only [setRv, if_neg ei]
      exact row_fr (h.rr i hi) gx fun b e e2 => by
        rcases e2 with e2 | e2
        · exact h.d1 i hi k hk ei b e e2
        · subst e2; exact h.d3 i hi e
  · exact row_fr h.pp gx fun b e e2 => by
      rcases e2 with e2 | e2
      · exact h.d2 k hk b e2 e
      · subst e2; exact h.d4 e
  · intro i hi j hj hij b e1 e2
    by_cases ei : i = k
    · have ej : j ≠ k := fun e => hij (ei.trans e.symm)
      have e1 : v'.ownBlock = some b := by simpa [setRv, ei] using e1
      have e2 : (H.rv j).ownBlock = some b := by simpa [setRv, ej] using e2
      rcases vb b e1 with e | e
      · exact h.d1 k hk j hj (fun e => ej e.symm) b e e2
      · have := rvl j hj b e2; omega
    · have e1 : (H.rv i).ownBlock = some b := by simpa [setRv, ei] using e1
      by_cases ej : j = k
      · have e2 : v'.ownBlock = some b := by simpa [setRv, ej] using e2
        rcases vb b e2 with e | e
        · exact h.d1 i hi k hk ei b e1 e
        · have := rvl i hi b e1; omega
      · have e2 : (H.rv j).ownBlock = some b := by simpa [setRv, ej] using e2
        exact h.d1 i hi j hj hij b e1 e2
  · intro i hi b e1 e2
    by_cases ei : i = k
    · have e1 : v'.ownBlock = some b := by simpa [setRv, ei] using e1
      rcases vb b e1 with e | e
      · exact h.d2 k hk b e e2
      · have := pvl b e2; omega
    · exact h.d2 i hi b (by simpa [setRv, ei] using e1) e2
  · intro i hi e1
    by_cases ei : i = k
    · have e1 : v'.ownBlock = some H.mb := by simpa [setRv, ei] using e1
      rcases vb _ e1 with e | e
      · exact h.d3 k hk e
      · omega
    · exact h.d3 i hi (by simpa [setRv, ei] using e1)
theorem putF_eq (S : PM) (cy : Nat) (x : F) : putF S cy x = { S with f := fun j => if j = cy % 8 then S.f (cy % 8) ++ [x] else S.f j } := by
  unfold putF
  congr 1
  funext j
  by_cases e : j = cy % 8
  · rw [if_pos e, if_pos e, e]
  · rw [if_neg e, if_neg e]
set_option maxHeartbeats 4000000 in
theorem put_any (cy : Nat) (x : F) (h : Mch W t bs H S) (hl : (S.f (cy % 8)).length ≤ 1000000000) : Calls Tryd.prog 80 #[.pointer (some ⟨H.mb, 304, none⟩), .int .i64 (cy : Int), .agg #[.int .u8 x.w, .int .u8 x.n, .int .i64 x.v]] W fun e w' => e = .returned (.tuple #[]) ∧ ∃ H', Mch w' t bs H' (putF S cy x) ∧ Tn W H w' H' := by
  obtain ⟨i0, hi, hi2⟩ := Option.map_eq_some_iff.1 info118
  simp only [Prod.mk.injEq] at hi2
  have HI : Hid (Tryd.prog.info? 118 = some i0 ∧ i0.zero = some (.agg #[.int .u8 0, .int .u8 0, .int .i64 0]) ∧ i0.size = 3 ∧ i0.bytes = 16) := ⟨hi, hi2.1, hi2.2.1, hi2.2.2⟩
  rw [putF_eq]
  have hk : cy % 8 < 8 := Nat.mod_lt _ (by decide)
  have e1 : Int.tmod (cy : Int) 8 = ((cy % 8 : Nat) : Int) := by rw [Int.tmod_eq_emod_of_nonneg (by omega)]; omega
  generalize cy % 8 = k at *
  have k0 : (0 : Int) ≤ (k : Int) := by omega
  have k8 : (k : Int) < 8 := by omega
  have HM : Hid (Mch W t bs H S) := h
  clear h hi hi2
  go_enter Tryd.func80, Tryd.ntmps80
  go_upto_region 2 with fail
  have HX : Hid (Mch (W.alloc (.cells #[.int .u8 x.w, .int .u8 x.n, .int .i64 x.v] 118)) t bs H S ∧ Tn W H (W.alloc (.cells #[.int .u8 x.w, .int .u8 x.n, .int .i64 x.v] 118)) H ∧ At (W.alloc (.cells #[.int .u8 x.w, .int .u8 x.n, .int .i64 x.v] 118)) W.heap.size #[.int .u8 x.w, .int .u8 x.n, .int .i64 x.v]) := by
    have g : Below W.heap.size W (W.alloc (.cells #[.int .u8 x.w, .int .u8 x.n, .int .i64 x.v] 118)) := (Below.refl _ _).alloc (Nat.le_refl _) _
    exact ⟨HM.out.up g, Tn.of g, At.new _ _ _⟩
  clear HM
  generalize (W.alloc (.cells #[.int .u8 x.w, .int .u8 x.n, .int .i64 x.v] 118)) = X at *
  have f0 := HX.out.1.c.f k hk
  have q0 := HX.out.2.2.c 0 _ rfl
  have q1 := HX.out.2.2.c 1 _ rfl
  have q2 := HX.out.2.2.c 2 _ rfl
  have ql := HX.out.2.2.lt
  have fl := HX.out.1.c.lt
  have e2 : X.drew.heap.size = X.heap.size := rfl
  go_region_law
    ((refine step_append_lies _ (by rfl) _ _ 82 (by rfl) 0 118 i0 (.agg #[.int .u8 0, .int .u8 0, .int .i64 0]) 3 16 Tryd.underlying82 HI.out.1 HI.out.2.1 HI.out.2.2.1 HI.out.2.2.2 rfl (by decide) (H.rv k) (S.f k).length (fcells (S.f k)) (by rfl) ((HX.out.1.rr k hk).drew.alloc _) ⟨X.heap.size, 0, none⟩ 1 1 [.int .u8 x.w, .int .u8 x.n, .int .i64 x.v] (by rfl) rfl (World.news_of_block (heap_alloc_new X.drew (.cells #[.int .u8 x.w, .int .u8 x.n, .int .i64 x.v] 118))) (by simp [Value.oneCell']) (by decide) (by unfold maxLen; omega) (by omega) (Nat.zero_le _) _ rfl ?_; intro g cap2 w6 hown hgrow hg hlt3; have HU : Hid (MC w6 t bs.length H S ∧ Mch (w6.setCell ⟨H.mb, 304 + k, none⟩ (.slice (some ⟨g, 0, none⟩) ((S.f k).length + 1) cap2)) t bs (setRv H k (.slice (some ⟨g, 0, none⟩) ((S.f k).length + 1) cap2)) { S with f := fun j => if j = k then S.f k ++ [x] else S.f j } ∧ Tn W H (w6.setCell ⟨H.mb, 304 + k, none⟩ (.slice (some ⟨g, 0, none⟩) ((S.f k).length + 1) cap2)) (setRv H k (.slice (some ⟨g, 0, none⟩) ((S.f k).length + 1) cap2))) := (by have hup : Below X.heap.size X (X.alloc (.cells #[.int .u8 x.w, .int .u8 x.n, .int .i64 x.v] 118)).drew := ((Below.refl _ X).alloc (Nat.le_refl _) _).drew; have hh := (HX.out.1.up hup).row hk (v' := .slice (some ⟨g, 0, none⟩) ((S.f k).length + 1) cap2) (l := S.f k ++ [x]) hgrow (by rw [fcells_snoc, List.length_append]; exact hown) (hg.elim (fun e => .inl e.symm) (fun e => .inr (.inl (congrArg some e)))); exact ⟨hh.1, hh.2.1, (HX.out.2.1.up hup).trans hh.2.2⟩); have z0 := HU.out.1.f k hk; have z1 := HU.out.1.fz; have z2 := HU.out.1.lt; clear hown hgrow hg hlt3))
  all_goals
    go_wp2_with fail
    go_end0
    exact ⟨rfl, _, HU.out.2.1, HU.out.2.2⟩
end
end Go.Proofs.YtldfjlepbbmhnaaDoor.Pp
