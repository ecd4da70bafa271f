/- What is ahead of each block's end, and of an operation, read off the program by the walk. Conditions: the program lies in memory; the variable lies there as the program lays it. -/
import Derived.Test.YtlinekpaffgcjaaDoorVe
namespace Go.Proofs.YtlinekpaffgcjaaDoor.Li
open Go.ChangeShapes Go.WideShapes Go.ChangeAt Go.RowKit Go.Maps
open _root_.Go.Proofs.YtlinekpaffgcjaaDoor.So _root_.Go.Proofs.YtlinekpaffgcjaaDoor.Op _root_.Go.Proofs.YtlinekpaffgcjaaDoor.Fl _root_.Go.Proofs.YtlinekpaffgcjaaDoor.Lv
set_option maxRecDepth 20000

open Classical in
/-- The sets into the blocks. -/
noncomputable def inL (ps : List Bk) : List Nat := if h : ∃ xs, IsIn ps xs then h.choose else []
theorem inL_eq {ps : List Bk} {xs : List Nat} (ho : PsOk ps) (h : IsIn ps xs) : xs = inL ps := by
  unfold inL
  rw [dif_pos ⟨xs, h⟩]
  exact h.same ho (Exists.choose_spec (⟨xs, h⟩ : ∃ xs, IsIn ps xs))
theorem in_is (ao : Option Addr) (cap : Nat) (ps : List Bk) (w : World) (h : PAt w ao ps) (he : Env w) :
    Calls Tryd.prog 12 #[.agg #[.slice ao ps.length cap]] w fun e w' => ∃ a c, e = .returned (.slice a (inL ps).length c) ∧ Ul w' a (inL ps) ∧ IsIn ps (inL ps) ∧ Below w.heap.size w w' :=
  (in_any ao cap ps w h he).mono fun e w' ⟨v, xs, h1, ⟨a, c, h2, h3, h4⟩, h5⟩ => by
    have e1 := inL_eq (psOk_of h) h5
    subst e1
    exact ⟨a, c, by rw [h1, h2], h3, h5, h4⟩
/-- What of a program follows, where there are sets at all. -/
structure Fine (ps : List Bk) (xs : List Nat) : Prop where
  ck : ckP ps = 0
  len : xs.length = ps.length
  fit : Fit xs
  fin : ∀ (i : Nat) (h : i < ps.length), endB ps[i] xs.length = true
theorem fine_of {ps : List Bk} {xs : List Nat} (h : IsIn ps xs) (h0 : 0 < xs.length) : Fine ps xs := by
  have hc : ckP ps = 0 := by
    by_cases hc : ckP ps = 0
    · exact hc
    · rw [h.no hc] at h0; simp at h0
  have hl := h.len
  rw [if_pos hc] at hl
  exact ⟨hc, hl, h.fit, fun i hi => by rw [hl]; exact end_of (ck_blocks hc _ (List.getElem_mem hi))⟩
/-- A list of sets under way. -/
structure Ot (wI wr : World) (n bO k : Nat) (f : Nat → Nat) (ys : List Nat) : Prop where
  b : Below wI.heap.size wI wr
  hO : wI.heap.size ≤ bO
  u : Op.At wr bO (uc ys)
  len : ys.length = n
  is : ∀ i, i < k → inN ys i = f i
theorem Ot.start (wI : World) (n : Nat) (f : Nat → Nat) (t : TypeId) : Ot wI (wI.alloc (.cells (madeCells #[.int .u32 0] n) t)) n wI.heap.size 0 f (List.replicate n 0) :=
  ⟨below_al _, Nat.le_refl _, by rw [uc_made]; exact Op.At.new _ _ _, by simp, fun i hi => by omega⟩
theorem Ot.step {wI wr w2 : World} {n bO k : Nat} {f : Nat → Nat} {ys : List Nat} (h : Ot wI wr n bO k f ys) (hk : k < n) (hb : Below wr.heap.size wr w2) : Ot wI (w2.setCell ⟨bO, k, none⟩ (.int .u32 ((f k : Nat) : Int))) n bO (k + 1) f (ys.set k (f k)) := by
  have hl := h.len
  have hO := h.hO
  refine ⟨?_, hO, ?_, by simp [hl], fun i hi => ?_⟩
  · have f1 : Fr Non wI w2 := Fr.of (h.b.trans (hb.mono h.b.size))
    exact (f1.setCell (Or.inl hO) k _).non
  · rw [← uc_set]
    exact (h.u.below hb h.u.lt).set (by rw [uc_size]; omega) _
  · rw [inN_set (by omega)]
    split
    · rename_i e; rw [← e]
    · exact h.is i (by omega)
theorem Ot.done {wI wr : World} {n bO : Nat} {f : Nat → Nat} {ys : List Nat} (h : Ot wI wr n bO n f ys) : ys = (List.range n).map f :=
  List.ext_getElem (by simp [h.len]) fun i h1 h2 => by
    rw [← inN_eq h1, h.is i (by rw [← h.len]; exact h1)]; simp
def endAt (ps : List Bk) (xs : List Nat) (i : Nat) : Nat := match ps[i]? with
  | some x => endN (bOf x) xs
  | none => 0
theorem endAt_eq {ps : List Bk} {xs : List Nat} {i : Nat} (h : i < ps.length) : endAt ps xs i = endN (bOf ps[i]) xs := by
  unfold endAt; rw [List.getElem?_eq_getElem h]
theorem out_eq {ps : List Bk} {xs : List Nat} (h : IsIn ps xs) : (List.range xs.length).map (endAt ps xs) = outL ps xs := by
  unfold outL
  by_cases hc : ckP ps = 0
  · have hl := h.len
    rw [if_pos hc] at hl ⊢
    refine List.ext_getElem (by simp [hl]) fun i h1 h2 => ?_
    have hi : i < ps.length := by simpa using h2
    simp [endAt_eq hi]
  · rw [if_neg hc, h.no hc]; rfl
theorem end_fit {ps : List Bk} {xs : List Nat} (ho : PsOk ps) (h : Fine ps xs) {i : Nat} (hi : i < ps.length) : endN (bOf ps[i]) xs < 4294967296 :=
  end_lt (h.fin i hi) (ho _ (List.getElem_mem hi)).1.a0 (ho _ (List.getElem_mem hi)).2.1 (ho _ (List.getElem_mem hi)).2.2 h.fit

set_option maxHeartbeats 2000000 in
theorem out_is (ao : Option Addr) (cap : Nat) (ps : List Bk) (w : World) (h : PAt w ao ps) (he : Env w) :
    Calls Tryd.prog 14 #[.agg #[.slice ao ps.length cap]] w fun e w' => ∃ a c, e = .returned (.slice a (outL ps (inL ps)).length c) ∧ Ul w' a (outL ps (inL ps)) ∧ IsIn ps (inL ps) ∧ Below w.heap.size w w' := by
  have hb1 : Below w.heap.size w (w.alloc (.cells #[.slice ao ps.length cap] 24)) := below_al _
  have HK : Hid _ := in_is ao cap ps (w.alloc (.cells #[.slice ao ps.length cap] 24)) (h.below hb1) (he.up hb1)
  have HP : Hid (PAt w ao ps) := h
  generalize hxs : inL ps = xs at *
  obtain ⟨i1, hi, hi2⟩ := Option.map_eq_some_iff.1 info34
  simp only [Prod.mk.injEq] at hi2
  obtain ⟨hz0, hz1, hz2⟩ := hi2
  have HJ : Hid (Tryd.prog.info? 34 = some i1 ∧ i1.zero = some (.int .u32 0) ∧ i1.size = 1 ∧ i1.bytes = 4) := ⟨hi, hz0, hz1, hz2⟩
  have HL : Hid (IsIn ps xs → xs.length ≤ 128) := fun hI => by
    have := hI.len
    split at this
    · rename_i hc; have := (good_of hc).le; omega
    · omega
  clear hi hz0 hz1 hz2 h he hb1 hxs
  go_enter Tryd.func14, Tryd.ntmps14
  go_wp2_with (first
    | (go_at_call 12; refine Calls.mono HK.out ?_; rintro e w1 ⟨a, c, rfl, hU, hI, hb⟩; obtain ⟨a1, hb0, hz⟩ := one_new w _ _ hb; have HB1 : Hid (Below w.heap.size w w1) := hb0; have HA1 : Hid (Op.At w1 w.heap.size #[.slice ao ps.length cap]) := a1; have HI1 : Hid (Ul w1 a xs ∧ IsIn ps xs) := ⟨hU, hI⟩; have hle := HL.out hI; clear hb hb0 a1 HK hU hI)
    | (at_make; refine wpList_make_row _ rfl _ _ 32 rfl 34 i1 (.int .u32 0) Tryd.underlying32 HJ.out.1 HJ.out.2.1 HJ.out.2.2.1 rfl .i64 .i64 xs.length rfl rfl (by rw [HJ.out.2.2.2]; omega) (by omega) ?_))
  have HS : Hid (Ot w1 (w1.alloc (.cells (madeCells #[.int .u32 0] xs.length) 34)) xs.length w1.heap.size 0 (endAt ps xs) (List.replicate xs.length 0)) := Ot.start _ _ _ _
  generalize hbO : w1.heap.size = bO at *
  go_loopw [13] (fun i wr => ∃ (k : Nat) (ys : List Nat), k ≤ xs.length ∧ i = .int .i64 k ∧ Hid (Ot w1 wr xs.length bO k (endAt ps xs) ys)) (fun i _ => xs.length - (intOf i).toNat)
  case atStart => exact ⟨0, _, by omega, rfl, HS.out⟩
  case round =>
    rename_i wr
    clear HS
    obtain ⟨k, ys, hk, rfl, HO⟩ := hrel
    by_cases hlk : k < xs.length
    · have hkz : (k : Int) < (xs.length : Int) := by omega
      have hF := fine_of HI1.out.2 (by omega)
      have hkp : k < ps.length := by rw [← hF.len]; exact hlk
      have hkpz : (k : Int) < (ps.length : Int) := by omega
      obtain ⟨bp, fp, rfl, hblt, hx⟩ := HP.out.is (by omega)
      obtain ⟨p, hp, hin⟩ := hx k hkp
      have hbw : Below w.heap.size w wr := HB1.out.trans (HO.out.b.mono HB1.out.size)
      obtain ⟨p0, p1, p2, p3, p4, p5⟩ := hp.below hbw hblt
      have cb := (HA1.out.below HO.out.b HA1.out.lt).c 0 _ rfl
      have HC : Hid (Calls Tryd.prog 31 #[ps[k].val p, .slice a xs.length c] wr fun e w' => e = .returned (.int .u32 ((endAt ps xs k : Nat) : Int)) ∧ Below wr.heap.size wr w') := by
        rw [endAt_eq hkp]
        exact aheadOfEnd_any ps[k] p a c xs wr (hin.below hbw) (HI1.out.1.below HO.out.b) hF.fit (by omega) (hF.fin k hkp)
      have hyk : k < ys.length := by rw [HO.out.len]; exact hlk
      clear hp hx hin hF hbw
      go_wp2_with (first
        | (go_at_call 31; refine Calls.mono HC.out ?_; rintro e w2 ⟨rfl, hb2⟩; have HB2 : Hid (Below wr.heap.size wr w2) := hb2; have cv := (HO.out.u.below hb2 HO.out.u.lt).c k _ (uc_get hyk); have fv := (HO.out.u.below hb2 HO.out.u.lt).f k; clear hb2 HC p0 p1 p2 p3 p4 p5 cb))
      go_roundw
      case rel => exact ⟨k + 1, _, by omega, by go_num, HO.out.step hlk HB2.out⟩
      case measure => simp [intOf]; omega
    · obtain rfl : k = xs.length := by omega
      have hys := HO.out.done
      rw [out_eq HI1.out.2] at hys
      have hln := HO.out.len
      have HR : Hid (Ul wr (some ⟨bO, 0, none⟩) (outL ps xs) ∧ (outL ps xs).length = xs.length ∧ IsIn ps xs ∧ Below w.heap.size w wr) := ⟨by rw [← hys]; exact ul_of HO.out.u, by rw [← hys]; exact hln, HI1.out.2, HB1.out.trans (HO.out.b.mono HB1.out.size)⟩
      clear hys hln HO HI1
      go_wp2
      go_ret
      exact ⟨_, _, by rw [HR.out.2.1]; rfl, HR.out.1, HR.out.2.2⟩
end Go.Proofs.YtlinekpaffgcjaaDoor.Li
