/- An operation is issued, told by the plain machine; what lands is written (land), read off the program by the walk. Conditions: the machine lies in memory. -/
import Derived.Test.YtldfjlepbbmhnaaDoorQg
namespace Go.Proofs.YtldfjlepbbmhnaaDoor.Pp
open Go.ChangeShapes Go.WideShapes Go.ChangeAt Go.RowKit
open _root_.Go.Proofs.YtldfjlepbbmhnaaDoor.Op _root_.Go.Proofs.YtldfjlepbbmhnaaDoor.So _root_.Go.Proofs.YtldfjlepbbmhnaaDoor.Bu
open _root_.Go.Proofs.YtldfjlepbbmhnaaDoor.Tb (Tab TabAt Bnds)
set_option maxRecDepth 20000

section
variable {W : World} {t : Tab} {bs : List Bn} {H : Hx} {S : PM}
theorem issue_go (o : O) (la L : Nat) (h : Mch W t bs H S) (hS : S.Ok L) (ho : OkM o) (he : isE S o = none) (hs : S.s ≤ 1000000000000) (hd : 0 ≤ t.d ∧ t.d ≤ 1000) (hL : L ≤ 1000000000) : Calls Tryd.prog 63 #[ptr H.mb, o.val, .int .i64 (la : Int)] W fun e w' => IsP W t bs H (isM t S o la) e w' := by
  have hl : ∀ k, (S.f k).length ≤ 1000000000 := fun k => Nat.le_trans (hS.l k) hL
  unfold isM
  by_cases h0 : o.op = 0
  · rw [if_pos h0]; exact issue_nop o la h h0
  rw [if_neg h0]
  by_cases h1 : o.op = 17
  · rw [if_pos h1]; exact issue_print o la h ho h1 (Nat.le_trans hS.p hL)
  rw [if_neg h1]
  by_cases h2 : o.op = 16
  · rw [if_pos h2]; exact issue_store o la h ho h2 (hl _)
  rw [if_neg h2]
  by_cases h3 : o.op = 21
  · rw [if_pos h3]; exact issue_count o la h ho h3 hS.r
  rw [if_neg h3]
  by_cases h4 : o.op = 20
  · unfold isE at he; rw [if_pos h4] at he; cases he
  rw [if_neg h4]
  by_cases h5 : o.op = 19 ∨ o.op = 22 ∨ o.op = 23
  · rw [if_pos h5]; exact issue_turn o la L h hS ho h5 hs hd hl
  rw [if_neg h5]
  by_cases h6 : o.op = 18
  · rw [if_pos h6]; exact issue_jump o la h h6 hs hd hl
  rw [if_neg h6]
  refine issue_other o la L h hS ho (by omega) ?_ hl
  unfold isE at he
  rw [if_neg h4, if_neg (by omega)] at he
  by_cases e : resE S o = 0
  · exact e
  · rw [if_neg e] at he; cases he
theorem issue_end (o : O) (la L : Nat) (h : Mch W t bs H S) (hS : S.Ok L) (ho : OkM o) (z : Int × Int) (he : isE S o = some z) : Calls Tryd.prog 63 #[ptr H.mb, o.val, .int .i64 (la : Int)] W fun e w' => e = .panicked [{ v := .iface 109 (.agg #[.int .i64 z.1, .int .i64 z.2]), recovered := false }] ∧ Below W.heap.size W w' := by
  unfold isE at he
  by_cases h4 : o.op = 20
  · rw [if_pos h4] at he
    injection he with he
    subst he
    exact issue_halt o la h ho h4
  rw [if_neg h4] at he
  by_cases h5 : o.op = 0 ∨ o.op = 17 ∨ o.op = 16 ∨ o.op = 21 ∨ o.op = 19 ∨ o.op = 22 ∨ o.op = 23 ∨ o.op = 18
  · rw [if_pos h5] at he; cases he
  rw [if_neg h5] at he
  by_cases e : resE S o = 0
  · rw [if_pos e] at he; cases he
  · rw [if_neg e] at he
    injection he with he
    subst he
    exact issue_trap o la L h hS ho (by omega) e
/-- What has landed of a row. -/
def ldN (S : PM) (l : List F) (j : Nat) : PM := (l.take j).foldl ld1 (takeF S)
theorem ldN_succ (S : PM) (l : List F) (j : Nat) (h : j < l.length) : ldN S l (j + 1) = ld1 (ldN S l j) l[j] := by
  unfold ldN
  rw [List.take_succ_eq_append_getElem h, List.foldl_append]
  rfl
theorem ld1_s (S : PM) (x : F) : (ld1 S x).s = S.s ∧ (ld1 S x).f = S.f ∧ (ld1 S x).p = S.p ∧ (ld1 S x).e = S.e := by
  unfold ld1
  split
  · exact ⟨rfl, rfl, rfl, rfl⟩
  · split <;> exact ⟨rfl, rfl, rfl, rfl⟩
set_option maxHeartbeats 8000000 in
theorem land_any {L : Nat} (h : Mch W t bs H S) (hS : S.Ok L) (hs : S.s ≤ 1000000000000) (hL : L ≤ 1000000000) : Calls Tryd.prog 62 #[ptr H.mb] W fun e w' => e = .returned (.tuple #[]) ∧ ∃ H', Mch w' t bs H' (landM S) ∧ Tn W H w' H' := by
  have hk : S.s % 8 < 8 := Nat.mod_lt _ (by decide)
  obtain ⟨ao, cc, hrv⟩ := row_slice (h.rr (S.s % 8) hk)
  have HT : Hid (∀ V, Below W.heap.size W V → Calls Tryd.prog 79 #[.pointer (some ⟨H.mb, 304, none⟩), .int .i64 (S.s : Int)] V fun e w' => e = .returned (.slice ao (S.f (S.s % 8)).length cc) ∧ w' = V.setCell ⟨H.mb, 304 + S.s % 8, none⟩ (.slice ao 0 cc)) := fun V hV => take_any ao cc (h.up hV) hs hrv
  have HM : Hid (Mch (W.drew.setCell ⟨H.mb, 304 + S.s % 8, none⟩ (.slice ao 0 cc)) t bs (setRv H (S.s % 8) (.slice ao 0 cc)) (ldN S (S.f (S.s % 8)) 0) ∧ Tn W H (W.drew.setCell ⟨H.mb, 304 + S.s % 8, none⟩ (.slice ao 0 cc)) (setRv H (S.s % 8) (.slice ao 0 cc))) := by
    have hh := (h.up (drew_up W)).taken hrv
    exact ⟨hh.1, (Tn.of (drew_up W)).trans hh.2⟩
  have HG : Hid (0 < (S.f (S.s % 8)).length → ∃ g, ao = some ⟨g, 0, none⟩ ∧ g < (W.drew.setCell ⟨H.mb, 304 + S.s % 8, none⟩ (.slice ao 0 cc)).heap.size ∧ g ≠ H.mb ∧ ∀ j u, (fcells (S.f (S.s % 8)))[j]? = some u → (W.drew.setCell ⟨H.mb, 304 + S.s % 8, none⟩ (.slice ao 0 cc)).cell? ⟨g, j, none⟩ = some u) := fun h0 => by
    obtain ⟨g, e, h1, h2, h3⟩ := h.lands hrv h0
    have f : Fr (One H.mb) W (W.drew.setCell ⟨H.mb, 304 + S.s % 8, none⟩ (.slice ao 0 cc)) := (Fr.refl (One H.mb) W).drew.setCell (.inr rfl) _ _
    exact ⟨g, e, Nat.lt_of_lt_of_le h1 f.size, h2, fun j u hu => by rw [f.cell h1 h2]; exact h3 j u hu⟩
  have HF : Hid (∀ x ∈ S.f (S.s % 8), x.Ok) := hS.f _
  have hlen : (S.f (S.s % 8)).length ≤ 1000000000 := Nat.le_trans (hS.l _) hL
  have HE : Hid (ldN S (S.f (S.s % 8)) (S.f (S.s % 8)).length = landM S) := by
    show ldN S (S.f (S.s % 8)) (S.f (S.s % 8)).length = landM S
    unfold ldN landM
    rw [List.take_length]
  have hq := h.c.lt
  have hs5 : W.cell? ⟨H.mb, 315, none⟩ = some (.int .i64 (S.s : Int)) := h.c.s
  have HSs : Hid (∀ V, Below W.heap.size W V → H.mb < V.heap.size ∧ V.cell? ⟨H.mb, 315, none⟩ = some (.int .i64 (S.s : Int))) := fun V hV => ⟨(h.up hV).c.lt, (h.up hV).c.s⟩
  clear h hS hrv hs5 hq
  generalize landM S = SE at *
  go_enter Tryd.func62, Tryd.ntmps62
  go_upto_region 0 with fail
  refine wp_region_held_drew (S := fun W' => H.mb < W'.heap.size ∧ W'.cell? ⟨H.mb, 315, none⟩ = some (.int .i64 (S.s : Int))) (by kernel_rfl) (HSs.out _ (drew_up _)) (fun hHeld => ?_)
  refine wpAnyH_take (i := 0) (v := ptr H.mb) rfl (by kernel_rfl) (by kernel_rfl) (by kernel_rfl) (fun _ _ _ h => h) (Or.inl ⟨by rfl, fun w' hSw => by (go_simp)⟩) hHeld ?_
  simp only [Act.put, List.setIfInBounds_toArray, List.set_cons_zero, List.set_cons_succ, List.getElem_cons_zero, List.getElem_toArray]
  refine wpAnyH_take (i := 1) (v := ptr H.mb) rfl (by kernel_rfl) (by kernel_rfl) (by kernel_rfl) (fun _ _ _ h => h) (Or.inl ⟨by rfl, fun w' hSw => by (go_simp)⟩) hHeld ?_
  simp only [Act.put, List.setIfInBounds_toArray, List.set_cons_zero, List.set_cons_succ, List.getElem_cons_zero, List.getElem_cons_succ, List.getElem_toArray]
  refine wpAnyH_take (i := 2) (v := .pointer (some ⟨H.mb, 304, none⟩)) rfl (by kernel_rfl) (by kernel_rfl) (by kernel_rfl) (fun _ _ _ h => h) (Or.inl ⟨by rfl, fun w' hSw => by (go_simp)⟩) hHeld ?_
  simp only [Act.put, List.setIfInBounds_toArray, List.set_cons_zero, List.set_cons_succ, List.getElem_cons_zero, List.getElem_cons_succ, List.getElem_toArray]
  refine wpAnyH_take (i := 3) (v := ptr H.mb) rfl (by kernel_rfl) (by kernel_rfl) (by kernel_rfl) (fun _ _ _ h => h) (Or.inl ⟨by rfl, fun w' hSw => by (go_simp)⟩) hHeld ?_
  simp only [Act.put, List.setIfInBounds_toArray, List.set_cons_zero, List.set_cons_succ, List.getElem_cons_zero, List.getElem_cons_succ, List.getElem_toArray]
  refine wpAnyH_take (i := 4) (v := ptr H.mb) rfl (by kernel_rfl) (by kernel_rfl) (by kernel_rfl) (fun _ _ _ h => h) (Or.inl ⟨by rfl, fun w' hSw => by (go_simp)⟩) hHeld ?_
  simp only [Act.put, List.setIfInBounds_toArray, List.set_cons_zero, List.set_cons_succ, List.getElem_cons_zero, List.getElem_cons_succ, List.getElem_toArray]
  refine wpAnyH_take (i := 5) (v := .pointer (some ⟨H.mb, 315, none⟩)) rfl (by kernel_rfl) (by kernel_rfl) (by kernel_rfl) (fun _ _ _ h => h) (Or.inl ⟨by rfl, fun w' hSw => by (go_simp)⟩) hHeld ?_
  simp only [Act.put, List.setIfInBounds_toArray, List.set_cons_zero, List.set_cons_succ, List.getElem_cons_zero, List.getElem_cons_succ, List.getElem_toArray]
  refine wpAnyH_take (i := 6) (v := .int .i64 (S.s : Int)) rfl (by kernel_rfl) (by kernel_rfl) (by kernel_rfl) (fun _ _ _ h => h) (Or.inl ⟨by rfl, fun w' hSw => by (have q := hSw.2; have ql := hSw.1; go_simp)⟩) hHeld ?_
  simp only [Act.put, List.setIfInBounds_toArray, List.set_cons_zero, List.set_cons_succ, List.getElem_cons_zero, List.getElem_cons_succ, List.getElem_toArray]
  refine wpAnyH_take (i := 9) (v := .int .i64 0) rfl (by kernel_rfl) (by kernel_rfl) (by kernel_rfl) (fun _ _ _ h => h) (Or.inl ⟨by rfl, fun w' hSw => by (go_simp)⟩) hHeld ?_
  simp only [Act.put, List.setIfInBounds_toArray, List.set_cons_zero, List.set_cons_succ, List.getElem_cons_zero, List.getElem_cons_succ, List.getElem_toArray]
  refine wpAnyH_ready (rs := [7]) (by kernel_rfl) (by simp) ?_
  refine AllReadyH.cons rfl (fun K hK => ?_) AllReadyH.nil
  go_simp
  refine Calls.mono (HT.out W.drew (drew_up W)) ?_
  rintro e w5 ⟨rfl, rfl⟩
  have hs6 := (HM.out.1.c.s); have hs7 := HM.out.1.c.lt
  refine hK.out _ _ ⟨hs7, by rw [show (ldN S (S.f (S.s % 8)) 0).s = S.s from rfl] at hs6; exact hs6⟩ (fun hHeld => ?_)
  clear hK K
  clear hs6 hs7
  refine wpAnyH_take (i := 8) (v := .int .i64 ((S.f (S.s % 8)).length : Int)) rfl (by kernel_rfl) (by kernel_rfl) (by kernel_rfl) (fun _ _ _ h => h) (Or.inl ⟨by rfl, fun w' hSw => by (go_simp)⟩) hHeld ?_
  simp only [Act.put, List.setIfInBounds_toArray, List.set_cons_zero, List.set_cons_succ, List.getElem_cons_zero, List.getElem_cons_succ, List.getElem_toArray]
  refine wpAnyH_done (by kernel_rfl) ?_ _
  clear hHeld
  generalize (W.drew.setCell ⟨H.mb, 304 + S.s % 8, none⟩ (.slice ao 0 cc)) = X at *
  generalize hl : S.f (S.s % 8) = l at *
  have HMb : Hid ((setRv H (S.s % 8) (.slice ao 0 cc)).mb = H.mb) := rfl
  generalize (setRv H (S.s % 8) (.slice ao 0 cc)) = H1 at *
  clear hl HT HSs
  go_wp2_with fail
  go_loopw [13] (fun v wr => ∃ j : Nat, j ≤ l.length ∧ v = .int .i64 j ∧ Hid (Mch wr t bs H1 (ldN S l j) ∧ Tn W H wr H1 ∧ Fr (One H.mb) X wr)) (fun v _ => l.length - (intOf v).toNat)
  case atStart => exact ⟨0, by omega, rfl, HM.out.1, HM.out.2, Fr.refl _ _⟩
  case round =>
    rename World => wr
    clear HM
    obtain ⟨j, hj, rfl, HM⟩ := hrel
    by_cases hlt : j < l.length
    · have j0 : (0 : Int) ≤ (j : Int) := by omega
      have j1 : (j : Int) < (l.length : Int) := by omega
      obtain ⟨g, rfl, g1, g2, g3⟩ := HG.out (by omega)
      obtain ⟨x, hx⟩ : ∃ x, l[j]? = some x := ⟨_, List.getElem?_eq_getElem hlt⟩
      obtain ⟨t0, t1, t2⟩ := fcells_at hx
      have c0 : wr.cell? ⟨g, j * 3, none⟩ = some (.int .u8 x.w) := by rw [HM.out.2.2.cell g1 g2]; exact g3 _ _ t0
      have c1 : wr.cell? ⟨g, j * 3 + 1, none⟩ = some (.int .u8 x.n) := by rw [HM.out.2.2.cell g1 g2]; exact g3 _ _ t1
      have c2 : wr.cell? ⟨g, j * 3 + 2, none⟩ = some (.int .i64 x.v) := by rw [HM.out.2.2.cell g1 g2]; exact g3 _ _ t2
      have gl : g < wr.heap.size := Nat.lt_of_lt_of_le g1 HM.out.2.2.size
      have hxo := HF.out x (List.mem_of_getElem? hx)
      have HN : Hid (ldN S l (j + 1) = ld1 (ldN S l j) x) := by
        have e := ldN_succ S l j hlt
        rw [show l[j] = x from by rw [List.getElem?_eq_getElem hlt] at hx; exact Option.some.inj hx] at e
        exact e
      have g0 : Below wr.heap.size wr (wr.alloc (.cells #[.int .u8 x.w, .int .u8 x.n, .int .i64 x.v] 118)) := (Below.refl _ _).alloc (Nat.le_refl _) _
      have HX : Hid (Mch (wr.alloc (.cells #[.int .u8 x.w, .int .u8 x.n, .int .i64 x.v] 118)) t bs H1 (ldN S l j) ∧ Tn W H (wr.alloc (.cells #[.int .u8 x.w, .int .u8 x.n, .int .i64 x.v] 118)) H1 ∧ Fr (One H.mb) X (wr.alloc (.cells #[.int .u8 x.w, .int .u8 x.n, .int .i64 x.v] 118)) ∧ At (wr.alloc (.cells #[.int .u8 x.w, .int .u8 x.n, .int .i64 x.v] 118)) wr.heap.size #[.int .u8 x.w, .int .u8 x.n, .int .i64 x.v]) := ⟨HM.out.1.up g0, HM.out.2.1.up g0, HM.out.2.2.then g0, At.new _ _ _⟩
      have HGo : Hid (∀ (V V' : World) (S2 : PM), Mch V t bs H1 (ldN S l j) → Tn W H V H1 → Fr (One H.mb) X V → MC V' t bs.length H1 S2 → Fr (One H1.mb) V V' → S2 = ld1 (ldN S l j) x → Mch V'.drew t bs H1 (ldN S l (j + 1)) ∧ Tn W H V'.drew H1 ∧ Fr (One H.mb) X V'.drew) := fun V V' S2 m1 m2 m3 m4 m5 m6 => by
        have e := ld1_s (ldN S l j) x
        have hh := m1.one m4 m5 (by rw [m6]; exact e.2.1) (by rw [m6]; exact e.2.2.1)
        rw [HMb.out] at m5
        have hm := hh.1
        rw [m6, ← HN.out] at hm
        exact ⟨hm.up (drew_up _), (m2.trans hh.2).up (drew_up _), (m3.same m5).drew⟩
      clear hx t0 t1 t2 g0
      have w3 := hxo.w
      have n0 := hxo.n0
      have n1 := hxo.n1
      by_cases hw0 : x.w = 0
      · have nr := hxo.r hw0
        have hb0 : (x.w == 0) = true := by simpa using hw0
        have HW0 : Hid (x.w = 0) := hw0
        clear hw0 w3 hxo
        go_upto_region 5 with fail
        have q0 := HX.out.1.c.r x.n.toNat (by omega)
        have qz := HX.out.1.c.fz
        have ql := HX.out.1.c.lt
        rw [HMb.out] at q0 qz ql
        have y0 := HX.out.2.2.2.c 0 _ rfl
        have y1 := HX.out.2.2.2.c 1 _ rfl
        have y2 := HX.out.2.2.2.c 2 _ rfl
        have yl := HX.out.2.2.2.lt
        generalize (wr.alloc (.cells #[.int .u8 x.w, .int .u8 x.n, .int .i64 x.v] 118)) = Y at *
        go_region
        all_goals
          go_wp2_with fail
          go_roundw
          case rel =>
            refine ⟨j + 1, by omega, by go_num, ?_⟩
            have hm := HX.out.1.c.setR x.n.toNat (by omega) x.v
            have hh := HGo.out _ _ _ HX.out.1 HX.out.2.1 HX.out.2.2.1 hm ((Fr.refl (One H1.mb) Y).setCell (.inr rfl) _ _) (by unfold ld1; rw [if_pos HW0.out])
            rw [HMb.out] at hh
            exact hh
          case measure => simp [intOf]; omega
      · by_cases hw1 : x.w = 1
        · have hb0 : (x.w == 0) = false := by simpa using hw0
          have hb1 : (x.w == 1) = true := by simpa using hw1
          have HW1 : Hid (¬ x.w = 0 ∧ x.w = 1) := ⟨hw0, hw1⟩
          clear hw0 hw1 w3 hxo
          go_upto_region 7 with fail
          have q0 := HX.out.1.c.m x.n.toNat (by omega)
          have qz := HX.out.1.c.fz
          have ql := HX.out.1.c.lt
          rw [HMb.out] at q0 qz ql
          have y0 := HX.out.2.2.2.c 0 _ rfl
          have y1 := HX.out.2.2.2.c 1 _ rfl
          have y2 := HX.out.2.2.2.c 2 _ rfl
          have yl := HX.out.2.2.2.lt
          generalize (wr.alloc (.cells #[.int .u8 x.w, .int .u8 x.n, .int .i64 x.v] 118)) = Y at *
          go_region
          all_goals
            go_wp2_with fail
            go_roundw
            case rel =>
              refine ⟨j + 1, by omega, by go_num, ?_⟩
              have hm := HX.out.1.c.setM x.n.toNat (by omega) x.v
              have hh := HGo.out _ _ _ HX.out.1 HX.out.2.1 HX.out.2.2.1 hm ((Fr.refl (One H1.mb) Y).setCell (.inr rfl) _ _) (by unfold ld1; rw [if_neg HW1.out.1, if_pos HW1.out.2])
              rw [HMb.out] at hh
              exact hh
            case measure => simp [intOf]; omega
        · have hb0 : (x.w == 0) = false := by simpa using hw0
          have hb1 : (x.w == 1) = false := by simpa using hw1
          have hb2 : (x.w == 2) = true := by simp; omega
          go_upto_region 9 with fail
          have q0 := HX.out.1.c.a
          have qz := HX.out.1.c.fz
          have ql := HX.out.1.c.lt
          rw [HMb.out] at q0 qz ql
          have y0 := HX.out.2.2.2.c 0 _ rfl
          have y1 := HX.out.2.2.2.c 1 _ rfl
          have y2 := HX.out.2.2.2.c 2 _ rfl
          have yl := HX.out.2.2.2.lt
          generalize (wr.alloc (.cells #[.int .u8 x.w, .int .u8 x.n, .int .i64 x.v] 118)) = Y at *
          go_wp2_with fail
          go_roundw
          case rel =>
            refine ⟨j + 1, by omega, by go_num, ?_⟩
            have hm := HX.out.1.c.setA x.v
            have e := ld1_s (ldN S l j) x
            have hS2 : { ldN S l j with a := x.v } = ld1 (ldN S l j) x := by unfold ld1; rw [if_neg hw0, if_neg hw1]
            have hh := HX.out.1.one hm ((Fr.refl (One H1.mb) Y).setCell (.inr rfl) _ _) rfl rfl
            rw [hS2, ← HN.out, HMb.out] at hh
            exact ⟨hh.1, HX.out.2.1.trans hh.2, HX.out.2.2.1.setCell (.inr rfl) _ _⟩
          case measure => simp [intOf]; omega
    · obtain rfl : j = l.length := by omega
      have j1 : ¬ (l.length : Int) < (l.length : Int) := by omega
      go_wp2_with fail
      go_end0
      exact ⟨rfl, H1, by rw [← HE.out]; exact HM.out.1, HM.out.2.1⟩
end
end Go.Proofs.YtldfjlepbbmhnaaDoor.Pp
