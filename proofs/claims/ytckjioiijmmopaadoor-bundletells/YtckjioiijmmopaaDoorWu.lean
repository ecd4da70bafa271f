/- The document's own Encode, read off the program by the walk. Conditions: the bundles lie in memory. -/
import Derived.Test.YtckjioiijmmopaaDoorWt
namespace Go.Proofs.YtckjioiijmmopaaDoor.Bu
open Go.ChangeShapes Go.WideShapes Go.ChangeAt Go.RowKit
open _root_.Go.Proofs.YtckjioiijmmopaaDoor.Op
open _root_.Go.Proofs.YtckjioiijmmopaaDoor.Tb (Tab TabAt Bnds four tabAt_new ckR)
open _root_.Go.Proofs.YtckjioiijmmopaaDoor.So
set_option maxRecDepth 20000

/-- Words under way. -/
structure Ra (w W : World) (t : Tab) (a : Option Addr) (c : Nat) (ws : List Int) : Prop where
  row : W.ownsRow (w.heap.size + 1) 44 1 (.slice a ws.length c) ws.length (ws.map (Value.int .u64))
  t : TabAt W w.heap.size t
  up : Below w.heap.size w W
theorem Ra.next {w W W' : World} {t : Tab} {a : Option Addr} {c : Nat} {ws : List Int} (h : Ra w W t a c ws) (g : Below W.heap.size W W') : Ra w W' t a c ws := ⟨row_up h.row g, h.t.below g h.t.lt, h.up.trans (g.mono h.up.size)⟩
theorem Ra.add {w X w4 : World} {t : Tab} {a : Option Addr} {c g cap : Nat} {ws : List Int} {y : Int} (s : Ra w X t a c ws) (hgrow : X.grownBy w4 (Value.slice a ws.length c).ownBlock) (hown : w4.ownsRow (w.heap.size + 1) 44 1 (.slice (some ⟨g, 0, none⟩) (ws.length + 1) cap) (ws.length + 1) (ws.map (Value.int .u64) ++ [.int .u64 y])) : Ra w w4 t (some ⟨g, 0, none⟩) cap (ws ++ [y]) := by
  have hl := s.t.lt
  have B : Below (w.heap.size + 1) X w4 := ⟨hgrow.os, hgrow.tape, hgrow.output, hgrow.size, fun k hk => hgrow.block k (Nat.lt_of_lt_of_le hk hl) fun e => by
    have := (s.row.lt k e.symm).1
    omega⟩
  refine ⟨?_, s.t.below B (by omega), s.up.trans (B.mono (by omega))⟩
  rw [List.map_append, List.length_append]
  exact hown
theorem Ra.ws {w W : World} {t : Tab} {a : Option Addr} {c : Nat} {ws : List Int} (h : Ra w W t a c ws) (hok : ∀ y ∈ ws, 0 ≤ y ∧ y < 18446744073709551616) : Ws W a ws.length (fun j => ws.getD j 0) := by
  refine ⟨fun j hj => ?_, fun h0 => ?_⟩
  · rw [← getD_at _ _ hj]; exact hok _ (List.getElem_mem hj)
  · rcases h.row.2 with ⟨_, h1⟩ | ⟨g, cap, cur, h1, h2, h3, h4⟩
    · omega
    · injection h1 with e1 e2 e3
      subst e1
      refine ⟨g, 0, rfl, (h.row.lt g rfl).2, fun j hj => ?_⟩
      have := h.row.cells (g := g) rfl j (.int .u64 (ws.getD j 0)) (by rw [List.getElem?_map, List.getElem?_eq_getElem hj, getD_at _ _ hj]; rfl)
      rw [add_bu] at this
      exact this
theorem Ra.start (w : World) {W : World} {t : Tab} (ht : TabAt W w.heap.size t) (hu : Below w.heap.size w W) : Ra w W t none 0 [] := ⟨⟨rfl, .inl ⟨rfl, rfl⟩⟩, ht, hu⟩
/-- Words of a class under way. -/
def EncJ (w : World) (t : Tab) (Lk V : List Int) (u : Nat) (l v : Value) (wz : World) : Prop := ∃ (j n c : Nat) (a : Option Addr), j ≤ u ∧ v = .int .i64 j ∧ l = .slice a n c ∧ n = (Lk ++ V.take j).length ∧ Ra w wz t a c (Lk ++ V.take j)
/-- What the document's Encode answers. -/
def RnOut (w : World) (t : Tab) (ls : List Bn) (e : Ending) (w' : World) : Prop :=
  if allW t ls then ∃ a c, e = .returned (.tuple #[.slice a (ls.length * ofs t 4) c, .int .i64 0]) ∧ Ws w' a (ls.length * ofs t 4) (fun j => (encW t ls).getD j 0) ∧ Below w.heap.size w w'
  else e = .returned (.tuple #[.slice none 0 0, .int .i64 210]) ∧ Below w.heap.size w w'
theorem RnOut.no {w w' : World} {t : Tab} {ls : List Bn} (h : allW t ls = false) (hb : Below w.heap.size w w') : RnOut w t ls (.returned (.tuple #[.slice none 0 0, .int .i64 210])) w' := by
  unfold RnOut; rw [h]; exact ⟨rfl, hb⟩
theorem RnOut.yes {w w' : World} {t : Tab} {ls : List Bn} {a : Option Addr} {n c : Nat} (h : allW t ls = true) (hn : n = ls.length * ofs t 4) (h1 : Ws w' a n (fun j => (encW t ls).getD j 0)) (hb : Below w.heap.size w w') : RnOut w t ls (.returned (.tuple #[.slice a n c, .int .i64 0])) w' := by
  subst hn
  unfold RnOut; rw [h]; exact ⟨a, c, rfl, h1, hb⟩
theorem wsL_next {n : Nat} {xs : List O} {j : Nat} (hl : xs.length ≤ n) (hj : j < n) : (wsL n xs).take (j + 1) = (wsL n xs).take j ++ [(wsL n xs).getD j 0] := by
  have h : j < (wsL n xs).length := by rw [wsL_len hl]; exact hj
  rw [List.take_succ_eq_append_getElem h, getD_at _ _ h]
set_option maxHeartbeats 1000000 in
theorem renc_table (ao : Option Addr) (cap : Nat) (ls : List Bn) (t : Tab) (w : World) (ht : t.ok = false) :
    Calls Tryd.prog 8 #[.slice ao ls.length cap, t.val] w fun e w' => e = .returned (.tuple #[.slice none 0 0, .int .i64 20]) ∧ Below w.heap.size w w' := by
  have HC : Hid (∀ W, Calls Tryd.prog 20 #[t.val] W fun e w' => e = .returned (.int .i64 20) ∧ Below W.heap.size W w') := fun W => by
    have := Tb.refCheck_any t W
    rw [ck_bad ht] at this
    exact this
  clear ht
  unfold Tab.val at *
  go_enter Tryd.func8, Tryd.ntmps8
  go_wp2_with (first | (go_at_call 20; refine Calls.mono (HC.out _) ?_; rintro e w1 ⟨rfl, hb⟩; obtain ⟨-, hb0, hz⟩ := one_new w _ _ hb; have HB : Hid (Below w.heap.size w w1) := hb0; clear hb hb0))
  go_ret2
  exact ⟨rfl, HB.out⟩
set_option maxHeartbeats 1000000 in
theorem renc_long (ao : Option Addr) (cap : Nat) (ls : List Bn) (t : Tab) (w : World) (ht : t.ok = true) (hl : 65536 < ls.length) :
    Calls Tryd.prog 8 #[.slice ao ls.length cap, t.val] w fun e w' => e = .returned (.tuple #[.slice none 0 0, .int .i64 3]) ∧ Below w.heap.size w w' := by
  have HC : Hid (∀ W, Calls Tryd.prog 20 #[t.val] W fun e w' => e = .returned (.int .i64 0) ∧ Below W.heap.size W w') := fun W => by
    have := Tb.refCheck_any t W
    rw [ck_good ht] at this
    exact this
  have hl' : (65536 : Int) < (ls.length : Int) := by omega
  clear ht hl
  unfold Tab.val at *
  go_enter Tryd.func8, Tryd.ntmps8
  go_wp2_with (first | (go_at_call 20; refine Calls.mono (HC.out _) ?_; rintro e w1 ⟨rfl, hb⟩; obtain ⟨-, hb0, hz⟩ := one_new w _ _ hb; have HB : Hid (Below w.heap.size w w1) := hb0; clear hb hb0))
  go_ret2
  exact ⟨rfl, HB.out⟩
set_option maxHeartbeats 8000000 in
theorem renc_any (ao : Option Addr) (cap : Nat) (ls : List Bn) (t : Tab) (w : World) (hx : BsAt w ao ls) (ht : t.ok = true) (hl : ls.length ≤ 65536) :
    Calls Tryd.prog 8 #[.slice ao ls.length cap, t.val] w (RnOut w t ls) := by
  have HC : Hid (∀ W, Calls Tryd.prog 20 #[t.val] W fun e w' => e = .returned (.int .i64 0) ∧ Below W.heap.size W w') := fun W => by
    have := Tb.refCheck_any t W
    rw [ck_good ht] at this
    exact this
  have HF : Hid (∀ x p W, BnIn W x p → Calls Tryd.prog 12 #[bval x p, t.val] W fun e w' => e = .returned (.int .i64 (ckX t x)) ∧ Below W.heap.size W w') := fun x p W h => rcheck_any x p t W h
  have HO : Hid (BsAt w ao ls) := hx
  have HK0 : Hid (∀ x, wfB t x = true → ckX t x = 0) := fun x e => by simp [ckX, ht, e]
  have HK1 : Hid (∀ x, wfB t x = false → ckX t x = 210) := fun x e => by simp [ckX, ht, e]
  have HU : Hid (∀ k, k < 4 → t.u k = (U t k : Int) ∧ U t k ≤ 8 ∧ ofs t k + U t k ≤ 32) := fun k hk => ⟨u_nat ht hk, u_le ht hk, Nat.le_trans (ofs_mono hk) (ofs_le ht)⟩
  have hl' : (ls.length : Int) ≤ 65536 := by omega
  have hd65 : decide ((65536 : Int) < (ls.length : Int)) = false := by simp; omega
  obtain ⟨i0, hi, hi2⟩ := Option.map_eq_some_iff.1 info44
  simp only [Prod.mk.injEq] at hi2
  obtain ⟨hz0, hz1, hz2⟩ := hi2
  have HI : Hid (Tryd.prog.info? 44 = some i0 ∧ i0.zero = some (.int .u64 0) ∧ i0.size = 1 ∧ i0.bytes = 8) := ⟨hi, hz0, hz1, hz2⟩
  have H32 : Hid (ofs t 4 ≤ 32) := ofs_le ht
  clear hi hz0 hz1 hz2 hx ht
  unfold Tab.val at *
  go_enter Tryd.func8, Tryd.ntmps8
  go_upto_region 8 with (first | (go_at_call 20; refine Calls.mono (HC.out _) ?_; rintro e w1 ⟨rfl, hb⟩; have HS : Hid (Ra w w1 t none 0 []) := Ra.start w ((tabAt_new w t 26).below hb (by simp)) ((by go_grown : Below w.heap.size w (w.alloc (.cells t.cells 26))).trans (hb.mono (by simp))); clear hb))
  clear HC
  go_loopw [7, 8] (fun l v wr => ∃ (i n c : Nat) (a : Option Addr), i ≤ ls.length ∧ v = .int .i64 i ∧ l = .slice a n c ∧ n = (encW t (ls.take i)).length ∧ allW t (ls.take i) = true ∧ Ra w wr t a c (encW t (ls.take i))) (fun _ v _ => ls.length - (intOf v).toNat)
  case atStart => exact ⟨0, 0, 0, none, by omega, rfl, rfl, rfl, rfl, HS.out⟩
  case round =>
    rename World => wr
    obtain ⟨i, n1, c1, a1, hi, rfl, rfl, h0, h1, h2⟩ := hrel
    have HQ : Hid (n1 = (encW t (ls.take i)).length ∧ allW t (ls.take i) = true ∧ Ra w wr t a1 c1 (encW t (ls.take i))) := ⟨h0, h1, h2⟩
    clear h0 h1 h2 HS
    by_cases hil : i < ls.length
    · have i0' : (0 : Int) ≤ (i : Int) := by omega
      have i1 : (i : Int) < (ls.length : Int) := by omega
      obtain ⟨lb, f, rfl, hz0, hx⟩ := HO.out.is (by omega)
      obtain ⟨p, hN0, hB⟩ := hx i hil
      have hLn : (encW t (ls.take i)).length ≤ 2097152 := by
        rw [encW_len HQ.out.2.1]
        exact Nat.mul_le_mul (show (ls.take i).length ≤ 65536 by rw [List.length_take]; omega) H32.out
      have HLn : Hid ((encW t (ls.take i)).length ≤ 2097152) := hLn
      clear hLn
      have HX : Hid (NAt w lb (f + i * 4) ls[i] p ∧ BnIn w ls[i] p ∧ lb < w.heap.size) := ⟨hN0, hB, hz0⟩
      have HNx : Hid (encW t (ls.take (i + 1)) = encW t (ls.take i) ++ wBk t ls[i] 4) := (by rw [List.take_succ_eq_append_getElem hil, encW_next] : encW t (ls.take (i + 1)) = encW t (ls.take i) ++ wBk t ls[i] 4)
      have HYe : Hid (wfB t ls[i] = true → allW t (ls.take (i + 1)) = true) := fun e => by unfold allW; rw [List.take_succ_eq_append_getElem hil, List.all_append, show (ls.take i).all (wfB t) = true from HQ.out.2.1]; simp [e]
      have HNo : Hid (wfB t ls[i] = false → allW t ls = false) := fun e => by
        cases hb : allW t ls
        · rfl
        · rw [List.all_eq_true.1 hb _ (List.getElem_mem hil)] at e; cases e
      clear hx hN0 hB hz0
      generalize ls[i] = x at *
      have HRg : Hid (NAt wr.drew lb (f + i * 4) x p ∧ TabAt wr.drew w.heap.size t) := ⟨HX.out.1.below HQ.out.2.2.up.drew HX.out.2.2, HQ.out.2.2.t.below (Below.refl _ _).drew HQ.out.2.2.t.lt⟩
      have hlbz : lb < wr.heap.size := Nat.lt_of_lt_of_le HX.out.2.2 HQ.out.2.2.up.size
      have HF1 : Hid (∀ W, BnIn W x p → Calls Tryd.prog 12 #[bval x p, .agg #[.int .i64 (t.u 0), .int .i64 (t.u 1), .int .i64 (t.u 2), .int .i64 (t.u 3), .int .i64 (t.l 0), .int .i64 (t.l 1), .int .i64 (t.l 2), .int .i64 (t.l 3), .int .i64 (t.b 0), .int .i64 (t.b 1), .int .i64 (t.b 2), .int .i64 (t.b 3), .int .i64 t.d]] W fun e w' => e = .returned (.int .i64 (ckX t x)) ∧ Below W.heap.size W w') := fun W h => HF.out x p W h
      have HRd : Hid (Ra w wr.drew t a1 c1 (encW t (ls.take i))) := HQ.out.2.2.next (Below.refl _ _).drew
      have hlw : lb < w.heap.size := HX.out.2.2
      obtain ⟨ck, hck⟩ : ∃ ck, ckX t x = ck := ⟨_, rfl⟩
      have HCK : Hid (ckX t x = ck) := hck
      rw [hck] at HF1
      clear hck
      go_upto_region 10 with fail
      refine wp_region_held_drew (S := fun W' => NAt W' lb (f + i * 4) x p ∧ TabAt W' w.heap.size t ∧ lb < W'.heap.size) (by kernel_rfl) ⟨HRg.out.1, HRg.out.2, hlbz⟩ (fun hHeld => ?_)
      refine wpAnyH_take (i := 0) (v := .slice (some ⟨lb, f, none⟩) ls.length cap) rfl (by kernel_rfl) (by kernel_rfl) (by kernel_rfl) (fun _ _ _ h => h) (Or.inl ⟨by rfl, fun w' hSw => by (go_simp)⟩) hHeld ?_
      simp only [Act.put, List.setIfInBounds_toArray, List.set_cons_zero, List.set_cons_succ, List.getElem_cons_zero, List.getElem_toArray]
      refine wpAnyH_take (i := 1) (v := .int .i64 (i : Int)) rfl (by kernel_rfl) (by kernel_rfl) (by kernel_rfl) (fun _ _ _ h => h) (Or.inl ⟨by rfl, fun w' hSw => by (go_simp)⟩) hHeld ?_
      simp only [Act.put, List.setIfInBounds_toArray, List.set_cons_zero, List.set_cons_succ, List.getElem_cons_zero, List.getElem_cons_succ, List.getElem_toArray]
      refine wpAnyH_take (i := 2) (v := .pointer (some ⟨lb, f + i * 4, none⟩)) rfl (by kernel_rfl) (by kernel_rfl) (by kernel_rfl) (fun _ _ _ h => h) (Or.inl ⟨by rfl, fun w' hSw => by (go_simp)⟩) hHeld ?_
      simp only [Act.put, List.setIfInBounds_toArray, List.set_cons_zero, List.set_cons_succ, List.getElem_cons_zero, List.getElem_cons_succ, List.getElem_toArray]
      refine wpAnyH_take (i := 3) (v := bval x p) rfl (by kernel_rfl) (by kernel_rfl) (by kernel_rfl) (fun _ _ _ h => h) (Or.inl ⟨by rfl, fun w' hSw => by (have m0 := hSw.1.c 0 (by decide); rw [Nat.add_zero] at m0; have m1 := hSw.1.c 1 (by decide); have m2 := hSw.1.c 2 (by decide); have m3 := hSw.1.c 3 (by decide); have ml := hSw.2.2; clear hSw; go_simp)⟩) hHeld ?_
      simp only [Act.put, List.setIfInBounds_toArray, List.set_cons_zero, List.set_cons_succ, List.getElem_cons_zero, List.getElem_cons_succ, List.getElem_toArray]
      refine wpAnyH_take (i := 4) (v := .agg #[.int .i64 (t.u 0), .int .i64 (t.u 1), .int .i64 (t.u 2), .int .i64 (t.u 3), .int .i64 (t.l 0), .int .i64 (t.l 1), .int .i64 (t.l 2), .int .i64 (t.l 3), .int .i64 (t.b 0), .int .i64 (t.b 1), .int .i64 (t.b 2), .int .i64 (t.b 3), .int .i64 t.d]) rfl (by kernel_rfl) (by kernel_rfl) (by kernel_rfl) (fun _ _ _ h => h) (Or.inl ⟨by rfl, fun w' hSw => by (have k2 := hSw.2.1; have qu0 := k2.cu 0 (by decide); have qu1 := k2.cu 1 (by decide); have qu2 := k2.cu 2 (by decide); have qu3 := k2.cu 3 (by decide); have ql0 := k2.cl 0 (by decide); have ql1 := k2.cl 1 (by decide); have ql2 := k2.cl 2 (by decide); have ql3 := k2.cl 3 (by decide); have qb0 := k2.cb 0 (by decide); have qb1 := k2.cb 1 (by decide); have qb2 := k2.cb 2 (by decide); have qb3 := k2.cb 3 (by decide); have qd := k2.cd; have qz := k2.lt; clear k2; clear hSw; go_simp)⟩) hHeld ?_
      simp only [Act.put, List.setIfInBounds_toArray, List.set_cons_zero, List.set_cons_succ, List.getElem_cons_zero, List.getElem_cons_succ, List.getElem_toArray]
      refine wpAnyH_ready (rs := [5]) (by kernel_rfl) (by simp) ?_
      refine AllReadyH.cons rfl (fun K hK => ?_) AllReadyH.nil
      go_simp
      refine Calls.mono (HF1.out _ (HX.out.2.1.below HRd.out.up)) ?_
      rintro e w2 ⟨rfl, hb2⟩
      have HR2 : Hid (Ra w w2 t a1 c1 (encW t (ls.take i))) := HRd.out.next hb2
      have hN2 : NAt w2 lb (f + i * 4) x p := HX.out.1.below HR2.out.up hlw
      clear hb2
      refine hK.out _ _ ⟨hN2, HR2.out.t, Nat.lt_of_lt_of_le hlw HR2.out.up.size⟩ (fun hHeld => ?_)
      clear hK K
      refine wpAnyH_take (i := 6) (v := .bool (ck != 0)) rfl (by kernel_rfl) (by kernel_rfl) (by kernel_rfl) (fun _ _ _ h => h) (Or.inl ⟨by rfl, fun w' hSw => by (go_simp)⟩) hHeld ?_
      simp only [Act.put, List.setIfInBounds_toArray, List.set_cons_zero, List.set_cons_succ, List.getElem_cons_zero, List.getElem_cons_succ, List.getElem_toArray]
      refine wpAnyH_done (by kernel_rfl) ?_ _
      clear hHeld hN2 HRg HRd
      cases hw : wfB t x
      · have hck : ck = 210 := HCK.out.symm.trans (HK1.out x hw)
        subst hck
        have hR := HNo.out hw
        go_wp2_with fail
        go_ret2
        exact RnOut.no hR HR2.out.up
      · have hck : ck = 0 := HCK.out.symm.trans (HK0.out x hw)
        subst hck
        rw [show ((0 : Int) != 0) = false from rfl]
        have HY2 : Hid (allW t (ls.take (i + 1)) = true) := HYe.out hw
        have hwf := wfK_iff.1 hw
        have HL : Hid (∀ k, k < 4 → (x.l k).length ≤ U t k ∧ wBk t x (k + 1) = wBk t x k ++ wsL (U t k) (x.l k) ∧ (wBk t x k).length = ofs t k) := fun k hk => ⟨(clsB_parts (hwf k hk)).1, rfl, wBk_len (wfK_iff.2 fun j hj => hwf j (by omega))⟩
        have HFl : Hid (∀ k, k < 4 → ∀ o ∈ x.l k, Fld o) := fun k hk o hm => isB_fld ((HX.out.2.1.o k hk).ok o hm) (List.all_eq_true.1 (clsB_parts (hwf k hk)).2 o hm)
        have HCe : Hid (∀ W, Below w.heap.size w W → ∀ k, k < 4 → W.cell? ⟨lb, f + i * 4 + k, none⟩ = some (.slice (p.a k) (x.l k).length (p.c k)) ∧ OpsAt W (p.a k) (x.l k)) := fun W hb k hk => ⟨(HX.out.1.below hb HX.out.2.2).c k hk, (HX.out.2.1.o k hk).below hb⟩
        clear hw hwf HNo HYe HF1 HCK
        have hn1 := HQ.out.1
        have HE0 : Hid (n1 = (encW t (ls.take i)).length) := hn1
        clear hn1 HQ
        generalize encW t (ls.take i) = L at *
        go_upto_region 13 with fail
        go_loopw [7, 9] (fun l v wx => ∃ (k n c : Nat) (a : Option Addr), k ≤ 4 ∧ v = .int .i64 k ∧ l = .slice a n c ∧ n = (L ++ wBk t x k).length ∧ Ra w wx t a c (L ++ wBk t x k)) (fun _ v _ => 4 - (intOf v).toNat)
        case atStart => exact ⟨0, n1, c1, a1, by omega, rfl, rfl, by rw [HE0.out]; simp [wBk], by simpa [wBk] using HR2.out⟩
        case round =>
          rename World => wx
          obtain ⟨k, n2, c2, a2, hk, rfl, rfl, h0, h1⟩ := hrel
          have HQk : Hid (n2 = (L ++ wBk t x k).length ∧ Ra w wx t a2 c2 (L ++ wBk t x k)) := ⟨h0, h1⟩
          clear h0 h1 HR2 HE0
          by_cases hk4 : k < 4
          · have k0 : (0 : Int) ≤ (k : Int) := by omega
            have k1 : (k : Int) < 4 := by omega
            obtain ⟨l1, l2, l3⟩ := HL.out k hk4
            have HNk : Hid (L ++ wBk t x (k + 1) = (L ++ wBk t x k) ++ wsL (U t k) (x.l k)) := (by rw [l2, List.append_assoc] : L ++ wBk t x (k + 1) = (L ++ wBk t x k) ++ wsL (U t k) (x.l k))
            obtain ⟨hu, hu8, hu32⟩ := HU.out k hk4
            have HUk : Hid (t.u k = (U t k : Int)) := hu
            have HLm : Hid ((L ++ wBk t x k).length + U t k ≤ 2100000) := (by rw [List.length_append, l3]; have := HLn.out; omega : (L ++ wBk t x k).length + U t k ≤ 2100000)
            have HFk : Hid (∀ o ∈ x.l k, Fld o) := HFl.out k hk4
            have HCk : Hid (∀ W, Below w.heap.size w W → W.cell? ⟨lb, f + i * 4 + k, none⟩ = some (.slice (p.a k) (x.l k).length (p.c k)) ∧ OpsAt W (p.a k) (x.l k)) := fun W hb => HCe.out W hb k hk4
            clear hu l2 l3
            generalize L ++ wBk t x k = Lk at *
            generalize hxs : x.l k = xs at *
            clear hxs
            generalize U t k = u at *
            generalize p.a k = pa at *
            generalize p.c k = pc at *
            go_upto_region 16 with fail
            go_loopw [7, 10] (fun l v wz => EncJ w t Lk (wsL u xs) u l v wz) (fun _ v _ => u - (intOf v).toNat)
            case atStart => exact ⟨0, n2, c2, a2, by omega, rfl, rfl, by rw [HQk.out.1]; simp, by simpa using HQk.out.2⟩
            case round =>
              rename World => wz
              obtain ⟨j, n3, c3, a3, hj, rfl, rfl, h0, h1⟩ := hrel
              have HZ : Hid (n3 = (Lk ++ (wsL u xs).take j).length ∧ Ra w wz t a3 c3 (Lk ++ (wsL u xs).take j)) := ⟨h0, h1⟩
              clear h0 h1 HQk
              have tu := HZ.out.2.t.cu k hk4
              rw [HUk.out] at tu
              have tz := HZ.out.2.t.lt
              by_cases hju : j < u
              · have j0 : (0 : Int) ≤ (j : Int) := by omega
                have j1 : (j : Int) < (u : Int) := by omega
                have HNj : Hid (Lk ++ (wsL u xs).take (j + 1) = (Lk ++ (wsL u xs).take j) ++ [(wsL u xs).getD j 0]) := (by rw [wsL_next l1 hju, List.append_assoc] : Lk ++ (wsL u xs).take (j + 1) = (Lk ++ (wsL u xs).take j) ++ [(wsL u xs).getD j 0])
                have HMl : Hid ((Lk ++ (wsL u xs).take j).length ≤ 2100000) := (by rw [List.length_append, List.length_take, wsL_len l1]; have := HLm.out; omega : (Lk ++ (wsL u xs).take j).length ≤ 2100000)
                generalize Lk ++ (wsL u xs).take j = M at *
                obtain ⟨hn3, hr3⟩ := HZ.out
                subst hn3
                have HZ2 : Hid (Ra w wz t a3 c3 M) := hr3
                clear HZ hr3
                have hMl := HMl.out
                have xc := (HCk.out wz HZ2.out.up).1
                have xz : lb < wz.heap.size := Nat.lt_of_lt_of_le hlw HZ2.out.up.size
                by_cases hjx : j < xs.length
                · have j2 : (j : Int) < (xs.length : Int) := by omega
                  obtain ⟨ob, of, hpa, oz, ox⟩ := (HCk.out wz HZ2.out.up).2.is (by omega)
                  subst hpa
                  obtain ⟨q0, q1, q2, q3, q4⟩ := ox j hjx
                  have HWd : Hid (∀ W, Calls Tryd.prog 21 #[xs[j].val] W fun e w' => e = .returned (.int .u64 (wdO xs[j])) ∧ Below W.heap.size W w') := fun W => rword_any _ W (HFk.out _ (List.getElem_mem hjx))
                  have hat := wsL_at (n := u) hjx
                  rw [hat] at HNj
                  clear ox hat
                  generalize xs[j] = o at *
                  generalize wdO o = y at *
                  go_upto_region 19 with fail
                  go_wp2_with (first
                    | (go_at_call 21; refine Calls.mono (HWd.out _) ?_; rintro e w6 ⟨rfl, hb6⟩; have HR6 : Hid (Ra w w6 t a3 c3 M) := HZ2.out.next hb6; clear hb6 HWd q0 q1 q2 q3 q4 oz)
                    | (at_builtin; refine wpList_append_lies _ rfl _ _ 23 rfl (w.heap.size + 1) 44 i0 (.int .u64 0) 1 8 Tryd.underlying23 HI.out.1 HI.out.2.1 HI.out.2.2.1 HI.out.2.2.2 rfl (by decide) (.slice a3 M.length c3) M.length (M.map (Value.int .u64)) rfl (World.ownsRow.alloc HR6.out.row _) ⟨w6.heap.size, 0, none⟩ 1 1 [.int .u64 y] rfl rfl (World.news_of_block (heap_alloc_new w6 _)) (by simp [Value.oneCell']) (by decide) (by unfold maxLen; omega) (by omega) (by have := HR6.out.t.lt; simp; omega) (w6.heap.size + 1) (by simp) ?_; intro g cp w7 hown hgrow hat hlt3; have HR7 : Hid (Ra w w7 t (some ⟨g, 0, none⟩) cp (M ++ [y])) := (HR6.out.next ((Below.refl _ _).alloc (Nat.le_refl _) _)).add hgrow hown; clear hown hgrow hat hlt3))
                  go_roundw
                  case rel => exact ⟨j + 1, M.length + 1, cp, some ⟨g, 0, none⟩, by omega, by go_num, rfl, by rw [HNj.out]; simp, by rw [HNj.out]; exact HR7.out⟩
                  case measure => simp [intOf]; omega
                · have j2 : ¬ (j : Int) < (xs.length : Int) := by omega
                  have hat := wsL_zero (n := u) (xs := xs) (j := j) (by omega)
                  rw [hat] at HNj
                  clear hat
                  go_upto_region 20 with fail
                  go_wp2_with (first
                    | (at_builtin; refine wpList_append_lies _ rfl _ _ 23 rfl (w.heap.size + 1) 44 i0 (.int .u64 0) 1 8 Tryd.underlying23 HI.out.1 HI.out.2.1 HI.out.2.2.1 HI.out.2.2.2 rfl (by decide) (.slice a3 M.length c3) M.length (M.map (Value.int .u64)) rfl (World.ownsRow.alloc HZ2.out.row _) ⟨wz.heap.size, 0, none⟩ 1 1 [.int .u64 0] rfl rfl (World.news_of_block (heap_alloc_new wz _)) (by simp [Value.oneCell']) (by decide) (by unfold maxLen; omega) (by omega) (by have := HZ2.out.t.lt; simp; omega) (wz.heap.size + 1) (by simp) ?_; intro g cp w7 hown hgrow hat hlt3; have HR7 : Hid (Ra w w7 t (some ⟨g, 0, none⟩) cp (M ++ [0])) := (HZ2.out.next ((Below.refl _ _).alloc (Nat.le_refl _) _)).add hgrow hown; clear hown hgrow hat hlt3))
                  go_roundw
                  case rel => exact ⟨j + 1, M.length + 1, cp, some ⟨g, 0, none⟩, by omega, by go_num, rfl, by rw [HNj.out]; simp, by rw [HNj.out]; exact HR7.out⟩
                  case measure => simp [intOf]; omega
              · obtain rfl : j = u := by omega
                have j1 : ¬ (j : Int) < (j : Int) := by omega
                have HE : Hid (n3 = (L ++ wBk t x (k + 1)).length ∧ Ra w wz t a3 c3 (L ++ wBk t x (k + 1))) := by
                  have := HZ.out
                  rw [List.take_of_length_le (by rw [wsL_len l1]; exact Nat.le_refl _)] at this
                  rw [HNk.out]
                  exact this
                clear HZ
                go_wp2_with fail
                go_roundw
                case rel => exact ⟨k + 1, n3, c3, a3, by omega, by go_num, rfl, HE.out.1, HE.out.2⟩
                case measure => simp [intOf]; omega
          · obtain rfl : k = 4 := by omega
            have HE : Hid (n2 = (encW t (ls.take (i + 1))).length ∧ Ra w wx t a2 c2 (encW t (ls.take (i + 1)))) := by
              rw [HNx.out]
              exact HQk.out
            clear HQk
            go_wp2_with fail
            go_roundw
            case rel => exact ⟨i + 1, n2, c2, a2, by omega, by go_num, rfl, HE.out.1, HY2.out, HE.out.2⟩
            case measure => simp [intOf]; omega
    · obtain rfl : i = ls.length := by omega
      have i1 : ¬ (ls.length : Int) < (ls.length : Int) := by omega
      have hAll : allW t ls = true := by have := HQ.out.2.1; rw [List.take_length] at this; exact this
      have hn : n1 = ls.length * ofs t 4 := by rw [HQ.out.1, List.take_length, encW_len hAll]
      have hR := HQ.out.2.2
      rw [List.take_length] at hR
      have hW := hR.ws (enc_in (bs_ok HO.out) hAll)
      rw [encW_len hAll, ← hn] at hW
      have HW : Hid _ := hW
      have HN : Hid (n1 = ls.length * ofs t 4) := hn
      have HU' : Hid (Below w.heap.size w wr) := hR.up
      clear hW hR hn
      go_wp2_with fail
      go_ret2
      exact RnOut.yes hAll HN.out HW.out HU'.out
end Go.Proofs.YtckjioiijmmopaaDoor.Bu
