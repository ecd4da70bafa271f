/- Both machines are made, or refused by both (the statement PipePlays): the front of the walk. Conditions: words, table, state and asks lie in memory; the two constructors' contracts. -/
import Derived.Test.YtldfjlepbbmhnaaDoorZs
namespace Go.Proofs.YtldfjlepbbmhnaaDoor.Pp
open Go.ChangeShapes Go.WideShapes Go.ChangeAt Go.RowKit
open _root_.Go.Proofs.YtldfjlepbbmhnaaDoor.Op _root_.Go.Proofs.YtldfjlepbbmhnaaDoor.So _root_.Go.Proofs.YtldfjlepbbmhnaaDoor.Bu
open _root_.Go.Proofs.YtldfjlepbbmhnaaDoor.Tb (Tab TabAt Bnds)
set_option maxRecDepth 20000

set_option maxHeartbeats 16000000 in
theorem plays_all (ao ra ma la : Option Addr) (n cap rc mc lc : Nat) (v : Nat → Int) (t : Tab) (rs ms : List Int) (l : List (Int × Int)) (ls : List Bn) (E : Int) (w : World) (hG : Bnds w) (hx : Ws w ao n v) (hcap : n ≤ cap) (hr : NL w ra rs) (hm : NL w ma ms) (hl : AL w la l) (f0 : ¬ 16384 < n) (f1 : ¬ 40 < l.length) (f2 : ¬ 2000 < smN l l.length) (f3 : ¬ 1000 < rs.length) (f4 : ¬ 1000 < ms.length) (hri : ∀ x ∈ rs, I64 x) (hmi : ∀ x ∈ ms, I64 x) (hBp : E = 0 → Bp t ls)
    (h8 : ∀ V, Below w.heap.size w V → Calls Tryd.prog 8 #[.slice ao n cap, t.val, .agg #[.slice ra rs.length rc, .slice ma ms.length mc]] V fun e w' => ∃ p, e = .returned (.tuple #[p, .int .i64 E]) ∧ P8 V t ls rs ms E p w')
    (h9 : ∀ V mo nc ra' rc' ma' mc', Below w.heap.size w V → Ws V mo n v → n ≤ nc → NL V ra' rs → NL V ma' ms → Calls Tryd.prog 9 #[.slice mo n nc, t.val, .agg #[.slice ra' rs.length rc', .slice ma' ms.length mc']] V fun e w' => ∃ p, e = .returned (.tuple #[p, .int .i64 E]) ∧ P9 V t ls rs ms E p w') :
    Calls Tryd.prog 3 #[.slice ao n cap, t.val, .agg #[.slice ra rs.length rc, .slice ma ms.length mc], .slice la l.length lc] w (Yes w) := by
  have HW : Hid (∀ V, Below w.heap.size w V → Calls Tryd.prog 7 #[] V fun e w' => e = .returned (.bool true) ∧ Below V.heap.size V w') := fun V hV => wakes_any V (hG.below hV hG.big)
  obtain ⟨i0, hi0, hi2⟩ := Option.map_eq_some_iff.1 info40
  simp only [Prod.mk.injEq] at hi2
  have HI : Hid (Tryd.prog.info? 40 = some i0 ∧ i0.zero = some (.int .u64 0) ∧ i0.size = 1 ∧ i0.bytes = 8) := ⟨hi0, hi2⟩
  clear hi0 hi2
  have H8 : Hid _ := h8
  have H9 : Hid _ := h9
  have HWs : Hid (Ws w ao n v ∧ NL w ra rs ∧ NL w ma ms) := ⟨hx, hr, hm⟩
  have HV : Hid (∀ j, j < n → 0 ≤ v j ∧ v j < 18446744073709551616) := hx.1
  have HCap : Hid (n ≤ cap) := hcap
  have HN2 : Hid (∀ k, k = l.length → ¬ 2000 < smN l k) := fun k e => e ▸ f2
  have HBp : Hid (E = 0 → Bp t ls) := hBp
  have HR0 : Hid (Rl (newM rs ms) (newR rs ms) 0 0) := Rl.start hri hmi
  obtain ⟨rl, hrl⟩ : ∃ rl, rs.length = rl := ⟨_, rfl⟩
  obtain ⟨ml, hml⟩ : ∃ ml, ms.length = ml := ⟨_, rfl⟩
  have HRL : Hid (rs.length = rl ∧ ms.length = ml) := ⟨hrl, hml⟩
  rw [hrl] at f3 H8 H9 ⊢
  rw [hml] at f4 H8 H9 ⊢
  have HX0 : Hid (Sb w ((w.alloc (.cells t.cells 25)).alloc (.cells #[.slice ra rl rc, .slice ma ml mc] 28)) t ra ma rl rc ml mc) := Sb.start w t ra ma rl rc ml mc
  have HA : Hid (AL w la l) := hl
  clear hG hx hr hm hl h8 h9 hrl hml hcap hBp hri hmi
  unfold Tab.val at *
  go_enter Tryd.func3, Tryd.ntmps3
  go_upto_region 1 with fail
  generalize ((w.alloc (.cells t.cells 25)).alloc (.cells #[.slice ra rl rc, .slice ma ml mc] 28)) = X at *
  go_wp2_with fail
  go_loopw [9, 10] (fun c i wr => ∃ k : Nat, k ≤ l.length ∧ k ≤ 41 ∧ i = .int .i64 k ∧ c = .int .i64 (smN l k) ∧ Hid (Sb w wr t ra ma rl rc ml mc)) (fun _ i _ => 41 - (intOf i).toNat)
  case atStart => exact ⟨0, by omega, by omega, rfl, rfl, HX0⟩
  case round =>
    rename World => wr
    clear HX0
    obtain ⟨k, hk, hk1, rfl, rfl, HX⟩ := hrel
    by_cases hlt : k < l.length
    · by_cases h40 : k ≤ 40
      · have k0 : (0 : Int) ≤ (k : Int) := by omega
        have k1 : (k : Int) < (l.length : Int) := by omega
        have k2 : (k : Int) ≤ 40 := by omega
        obtain ⟨x, hx⟩ : ∃ x, l[k]? = some x := ⟨_, List.getElem?_eq_getElem hlt⟩
        obtain ⟨lb, lf, rfl, lz, hc⟩ := (HA.out.up HX.out.b).is (by omega)
        have c1 := (hc k x hx).2
        have HS : Hid (smN l (k + 1) = smN l k + asN x) := smN_succ hx
        have hsn := smN_in l k
        have han := asN_in x
        obtain ⟨m0, hm0⟩ : ∃ m0, max x.2 0 = m0 := ⟨_, rfl⟩
        have hm1 : min m0 5000 = asN x := by rw [← hm0]; rfl
        generalize smN l k = sk at *
        generalize asN x = ax at *
        have hw : IntKind.i64.wrap (sk + ax) = sk + ax := by rw [IntKind.wrap_i64]; omega
        clear hx hc
        go_wp2_with fail
        go_roundw
        case rel => exact ⟨k + 1, by omega, by omega, by go_num, by rw [HS.out], HX⟩
        case measure => simp [intOf]; omega
      · have k1 : (k : Int) < (l.length : Int) := by omega
        have k2 : ¬ (k : Int) ≤ 40 := by omega
        exact absurd hlt (by omega)
    · have k1 : ¬ (k : Int) < (l.length : Int) := by omega
      have hks : k = l.length := by omega
      subst hks
      have g0 : ¬ 16384 < (n : Int) := by omega
      have g1 : ¬ 40 < (l.length : Int) := by omega
      have g2 : ¬ 2000 < smN l l.length := by omega
      have g3 : ¬ 1000 < (rl : Int) := by omega
      have g4 : ¬ 1000 < (ml : Int) := by omega
      have s0 := HX.out.s.c 0 _ rfl
      have s1 := HX.out.s.c 1 _ rfl
      have sl := HX.out.s.lt
      have k2 := HX.out.p; have qu0 := k2.cu 0 (by decide); have qu1 := k2.cu 1 (by decide); have qu2 := k2.cu 2 (by decide); have qu3 := k2.cu 3 (by decide); have ql0 := k2.cl 0 (by decide); have ql1 := k2.cl 1 (by decide); have ql2 := k2.cl 2 (by decide); have ql3 := k2.cl 3 (by decide); have qb0 := k2.cb 0 (by decide); have qb1 := k2.cb 1 (by decide); have qb2 := k2.cb 2 (by decide); have qb3 := k2.cb 3 (by decide); have qd := k2.cd; have qz := k2.lt; clear k2
      generalize smN l l.length = cs at *
      clear hk hk1
      go_upto_region 9 with (first | (go_at_call 8; go_loud (refine Calls.mono (H8.out _ HX.out.b) ?_; rintro e w2 ⟨p8, rfl, h8⟩; have HP8 : Hid (P8 wr t ls rs ms E p8 w2) := h8; have HX2 : Hid (Sb w w2 t ra ma rl rc ml mc) := HX.out.up h8.b; clear h8)))
      have HE : Hid ((w2.alloc (.cells #[] 40)).ownsRow w2.heap.size 40 1 (.slice (some ⟨w2.heap.size, 0, none⟩) 0 0) 0 []) := empty_row w2 _ 40 (Nat.le_refl _)
      have HZ2 : Hid (w.heap.size + 2 ≤ w2.heap.size) := HX2.out.s.lt
      have HU : Hid (Below w2.heap.size w2 (w2.alloc (.cells #[] 40)) ∧ Sb w (w2.alloc (.cells #[] 40)) t ra ma rl rc ml mc) := ⟨(Below.refl _ _).alloc (Nat.le_refl _) _, HX2.out.up ((Below.refl _ _).alloc (Nat.le_refl _) _)⟩
      have HNw : Hid (((ao = none → n = 0) ∧ ∀ ad, ao = some ad → ∀ j u, (wds n v)[j]? = some u → (w2.alloc (.cells #[] 40)).cell? (ad.add j) = some u)) := by
        have k := HWs.out.1.below (HU.out.2.b)
        refine ⟨fun e => ?_, fun ad e j u hu => ?_⟩
        · rcases Nat.eq_zero_or_pos n with h0 | h0
          · exact h0
          · obtain ⟨b, f, e2, -⟩ := k.is h0
            rw [e] at e2; cases e2
        · rcases Nat.eq_zero_or_pos n with h0 | h0
          · subst h0; cases hu
          · obtain ⟨ad', e2, hc⟩ := ws_cells k h0
            rw [e] at e2; cases e2
            exact hc j u hu
      clear qu0 qu1 qu2 qu3 ql0 ql1 ql2 ql3 qb0 qb1 qb2 qb3 qd qz s0 s1 sl
      go_upto_region 10 with (first | (at_builtin; refine wpList_append_any _ rfl _ _ 22 rfl w2.heap.size 40 i0 (.int .u64 0) 1 8 Tryd.underlying22 HI.out.1 HI.out.2.1 HI.out.2.2.1 HI.out.2.2.2 rfl (by decide) _ 0 [] rfl HE.out ao n cap (wds n v) rfl (by rw [wds_len]; omega) HNw.out.1 HNw.out.2 wds_one (by unfold maxLen; omega) (by omega) (by simp) ?_; intro vm W0 hown hgrow hor; have HQ0 : Hid (W0.ownsRow w2.heap.size 40 1 vm n (wds n v) ∧ (w2.alloc (.cells #[] 40)).grownBy W0 (some w2.heap.size)) := ⟨(by have := hown; rwa [Nat.zero_add, List.nil_append] at this), hgrow⟩; clear hown hgrow hor))
      clear HNw HE
      obtain ⟨mo, nc, rfl⟩ := row_slice HQ0.out.1
      have HQ : Hid (Qo w w2 W0.drew t ra ma rl rc ml mc mo nc n (wds n v) rs ms (fun b => if w2.heap.size ≤ b ∧ b < W0.heap.size then 1 else 0) none none none none none) := by
        have fU : Below w2.heap.size w2 W0 := HU.out.1.trans ((fr_grown HQ0.out.2).below (by simp) fun b hb e => by cases e; omega)
        have fS : Fr (fun b => b = w2.heap.size) (w2.alloc (.cells #[] 40)) W0.drew := (fr_grown HQ0.out.2).mono (fun b _ e => (Option.some.inj e).symm) |>.trans (Fr.of (drew_up _)) fun _ _ e => e
        refine ⟨HU.out.2.fr fS fun b e => by have := HZ2.out; omega, fU.trans ((drew_up W0).mono fU.size), HZ2.out, fun b hb => ?_, ⟨HQ0.out.1.drew, fun b e => if_pos (HQ0.out.1.lt b e)⟩, (fun x e => nomatch e), (fun x e => nomatch e), (fun x e => nomatch e), (fun x e => nomatch e), (fun b e => nomatch e)⟩
        by_cases h1 : w2.heap.size ≤ b ∧ b < W0.heap.size
        · exact h1
        · exact absurd (if_neg h1) hb
      clear HQ0 HU HX2
      have HNL : Hid True := trivial
      go_cut [13, 14] (fun v13 v14 wc => ∃ ob mo nc r' rc' m' mc', v13 = .slice mo n nc ∧ v14 = .pointer (some ⟨ob, 0, none⟩) ∧ Qz w w2 wc t ra ma rl rc ml mc mo nc n (wds n v) rs ms ob r' rc' m' mc')
      case first =>
        refine wp_region_held_drew (S := (fun V => V.cell? ⟨w.heap.size + 1, 0, none⟩ = some (.slice ra rl rc) ∧ V.cell? ⟨w.heap.size + 1, 1, none⟩ = some (.slice ma ml mc) ∧ w.heap.size + 1 < V.heap.size)) (by kernel_rfl) ⟨HQ.out.sb.s.c 0 _ rfl, HQ.out.sb.s.c 1 _ rfl, HQ.out.sb.s.lt⟩ (fun hHeld => ?_)
        generalize W0.drew = Y0 at *
        refine wpAnyH_take (i := 1) (v := .pointer (some ⟨w.heap.size + 1, 0, none⟩)) rfl (by kernel_rfl) (by kernel_rfl) (by kernel_rfl) (fun _ _ _ h => h) (Or.inl ⟨by rfl, fun w' hSw => by (go_simp)⟩) hHeld ?_
        simp only [Act.put, List.setIfInBounds_toArray, List.getElem_toArray]
        refine wpAnyH_take (i := 2) (v := .slice ra rl rc) rfl (by kernel_rfl) (by kernel_rfl) (by kernel_rfl) (fun _ _ _ h => h) (Or.inl ⟨by rfl, fun w' hSw => by (have y := hSw.1; have yl := hSw.2.2; go_simp)⟩) hHeld ?_
        simp only [Act.put, List.setIfInBounds_toArray, List.set_cons_zero, List.set_cons_succ, List.getElem_cons_zero, List.getElem_cons_succ, List.getElem_toArray]
        refine wpAnyH_take (i := 5) (v := .pointer (some ⟨w.heap.size + 1, 1, none⟩)) rfl (by kernel_rfl) (by kernel_rfl) (by kernel_rfl) (fun _ _ _ h => h) (Or.inl ⟨by rfl, fun w' hSw => by (go_simp)⟩) hHeld ?_
        simp only [Act.put, List.setIfInBounds_toArray, List.set_cons_zero, List.set_cons_succ, List.getElem_cons_zero, List.getElem_cons_succ, List.getElem_toArray]
        refine wpAnyH_take (i := 6) (v := .slice ma ml mc) rfl (by kernel_rfl) (by kernel_rfl) (by kernel_rfl) (fun _ _ _ h => h) (Or.inl ⟨by rfl, fun w' hSw => by (have y := hSw.2.1; have yl := hSw.2.2; go_simp)⟩) hHeld ?_
        simp only [Act.put, List.setIfInBounds_toArray, List.set_cons_zero, List.set_cons_succ, List.getElem_cons_zero, List.getElem_cons_succ, List.getElem_toArray]
        refine wpAnyH_ready (rs := [0, 4, 9]) (by kernel_rfl) (by simp) ?_
        refine AllReadyH.cons rfl (fun K hK => ?_) (AllReadyH.cons rfl (fun K hK => ?_) (AllReadyH.cons rfl (fun K hK => ?_) AllReadyH.nil))
        · go_simp
          obtain ⟨ow1, hq⟩ := HQ.out.s0
          have HQ1 : Hid _ := hq
          clear hq
          refine hK.out _ _ ⟨HQ1.out.sb.s.c 0 _ rfl, HQ1.out.sb.s.c 1 _ rfl, HQ1.out.sb.s.lt⟩ (fun hHeld => ?_)
          clear hK K
          generalize (Y0.alloc (.cells #[] 2)) = W1 at *
          refine wpAnyH_ready (rs := [3, 4, 9]) (by kernel_rfl) (by simp) ?_
          refine AllReadyH.cons rfl (fun K hK => ?_) (AllReadyH.cons rfl (fun K hK => ?_) (AllReadyH.cons rfl (fun K hK => ?_) AllReadyH.nil))
          · refine step_copy_onto _ (by rfl) _ _ (by rfl) w2.heap.size _ (by rfl) (HQ1.out.r0 _ rfl).1 HQ1.out.up.size ra rl rc rs HRL.out.1 (by rfl) (HWs.out.2.1.up HQ1.out.sb.b) (by omega) ?_
            intro a3 c3 W2 hown hgrow hor
            obtain ⟨ow2, hq⟩ := HQ1.out.s3 hgrow hown hor
            have HQ2 : Hid _ := hq
            clear hq hown hgrow hor
            refine hK.out _ _ ⟨HQ2.out.sb.s.c 0 _ rfl, HQ2.out.sb.s.c 1 _ rfl, HQ2.out.sb.s.lt⟩ (fun hHeld => ?_)
            clear hK K
            refine wpAnyH_ready (rs := [4, 9]) (by kernel_rfl) (by simp) ?_
            refine AllReadyH.cons rfl (fun K hK => ?_) (AllReadyH.cons rfl (fun K hK => ?_) AllReadyH.nil)
            · go_simp
              obtain ⟨ow3, hq⟩ := HQ2.out.s4
              have HQ3 : Hid _ := hq
              clear hq
              refine hK.out _ _ ⟨HQ3.out.sb.s.c 0 _ rfl, HQ3.out.sb.s.c 1 _ rfl, HQ3.out.sb.s.lt⟩ (fun hHeld => ?_)
              clear hK K
              generalize (W2.alloc (.cells #[] 2)) = W3 at *
              refine wpAnyH_ready (rs := [7, 9]) (by kernel_rfl) (by simp) ?_
              refine AllReadyH.cons rfl (fun K hK => ?_) (AllReadyH.cons rfl (fun K hK => ?_) AllReadyH.nil)
              · refine step_copy_onto _ (by rfl) _ _ (by rfl) w2.heap.size _ (by rfl) (HQ3.out.r4 _ rfl).1 HQ3.out.up.size ma ml mc ms HRL.out.2 (by rfl) (HWs.out.2.2.up HQ3.out.sb.b) (by omega) ?_
                intro a7 c7 W4 hown hgrow hor
                obtain ⟨ow4, hq⟩ := HQ3.out.s7 hgrow hown hor
                have HQ4 : Hid _ := hq
                clear hq hown hgrow hor
                refine hK.out _ _ ⟨HQ4.out.sb.s.c 0 _ rfl, HQ4.out.sb.s.c 1 _ rfl, HQ4.out.sb.s.lt⟩ (fun hHeld => ?_)
                clear hK K
                refine wpAnyH_take (i := 8) (v := .agg #[.slice a3 rl c3, .slice a7 ml c7]) rfl (by kernel_rfl) (by kernel_rfl) (by kernel_rfl) (fun _ _ _ h => h) (Or.inl ⟨by rfl, fun w' hSw => by (go_simp)⟩) hHeld ?_
                simp only [Act.put, List.setIfInBounds_toArray, List.set_cons_zero, List.set_cons_succ, List.getElem_cons_zero, List.getElem_cons_succ, List.getElem_toArray]
                refine wpAnyH_ready (rs := [9]) (by kernel_rfl) (by simp) ?_
                refine AllReadyH.cons rfl (fun K hK => ?_) AllReadyH.nil
                go_simp
                obtain ⟨ow5, hq⟩ := HQ4.out.s9
                have HQ5 : Hid _ := hq
                clear hq
                refine hK.out _ _ ⟨HQ5.out.sb.s.c 0 _ rfl, HQ5.out.sb.s.c 1 _ rfl, HQ5.out.sb.s.lt⟩ (fun hHeld => ?_)
                clear hK K
                generalize (W4.alloc (.cells #[.slice none 0 0, .slice none 0 0] 28)) = W5 at *
                have z0 := (HQ5.out.r9 _ rfl).1.c 0 _ rfl
                have z1 := (HQ5.out.r9 _ rfl).1.c 1 _ rfl
                have zl := (HQ5.out.r9 _ rfl).1.lt
                have zf := (HQ5.out.r9 _ rfl).1.f
                refine wpAnyH_ready (rs := [10]) (by kernel_rfl) (by simp) ?_
                refine AllReadyH.cons rfl (fun K hK => ?_) AllReadyH.nil
                go_simp
                have HZ : Hid _ := HQ5.out.s10
                refine hK.out _ _ ⟨HZ.out.sb.s.c 0 _ rfl, HZ.out.sb.s.c 1 _ rfl, HZ.out.sb.s.lt⟩ (fun _ => ?_)
                clear hK K z0 z1 zl zf
                refine wpAnyH_done (by kernel_rfl) ?_ _
                go_wp2_with fail
                go_meet
                exact ⟨_, _, _, _, _, _, _, rfl, rfl, HZ.out⟩
              · go_simp
                obtain ⟨ow4, hq⟩ := HQ3.out.s9
                have HQ4 : Hid _ := hq
                clear hq
                refine hK.out _ _ ⟨HQ4.out.sb.s.c 0 _ rfl, HQ4.out.sb.s.c 1 _ rfl, HQ4.out.sb.s.lt⟩ (fun hHeld => ?_)
                clear hK K
                generalize (W3.alloc (.cells #[.slice none 0 0, .slice none 0 0] 28)) = W4 at *
                refine wpAnyH_ready (rs := [7]) (by kernel_rfl) (by simp) ?_
                refine AllReadyH.cons rfl (fun K hK => ?_) AllReadyH.nil
                refine step_copy_onto _ (by rfl) _ _ (by rfl) w2.heap.size _ (by rfl) (HQ4.out.r4 _ rfl).1 HQ4.out.up.size ma ml mc ms HRL.out.2 (by rfl) (HWs.out.2.2.up HQ4.out.sb.b) (by omega) ?_
                intro a7 c7 W5 hown hgrow hor
                obtain ⟨ow5, hq⟩ := HQ4.out.s7 hgrow hown hor
                have HQ5 : Hid _ := hq
                clear hq hown hgrow hor
                refine hK.out _ _ ⟨HQ5.out.sb.s.c 0 _ rfl, HQ5.out.sb.s.c 1 _ rfl, HQ5.out.sb.s.lt⟩ (fun hHeld => ?_)
                clear hK K
                refine wpAnyH_take (i := 8) (v := .agg #[.slice a3 rl c3, .slice a7 ml c7]) rfl (by kernel_rfl) (by kernel_rfl) (by kernel_rfl) (fun _ _ _ h => h) (Or.inl ⟨by rfl, fun w' hSw => by (go_simp)⟩) hHeld ?_
                simp only [Act.put, List.setIfInBounds_toArray, List.set_cons_zero, List.set_cons_succ, List.getElem_cons_zero, List.getElem_cons_succ, List.getElem_toArray]
                have z0 := (HQ5.out.r9 _ rfl).1.c 0 _ rfl
                have z1 := (HQ5.out.r9 _ rfl).1.c 1 _ rfl
                have zl := (HQ5.out.r9 _ rfl).1.lt
                have zf := (HQ5.out.r9 _ rfl).1.f
                refine wpAnyH_ready (rs := [10]) (by kernel_rfl) (by simp) ?_
                refine AllReadyH.cons rfl (fun K hK => ?_) AllReadyH.nil
                go_simp
                have HZ : Hid _ := HQ5.out.s10
                refine hK.out _ _ ⟨HZ.out.sb.s.c 0 _ rfl, HZ.out.sb.s.c 1 _ rfl, HZ.out.sb.s.lt⟩ (fun _ => ?_)
                clear hK K z0 z1 zl zf
                refine wpAnyH_done (by kernel_rfl) ?_ _
                go_wp2_with fail
                go_meet
                exact ⟨_, _, _, _, _, _, _, rfl, rfl, HZ.out⟩
            · go_simp
              obtain ⟨ow3, hq⟩ := HQ2.out.s9
              have HQ3 : Hid _ := hq
              clear hq
              refine hK.out _ _ ⟨HQ3.out.sb.s.c 0 _ rfl, HQ3.out.sb.s.c 1 _ rfl, HQ3.out.sb.s.lt⟩ (fun hHeld => ?_)
              clear hK K
              generalize (W2.alloc (.cells #[.slice none 0 0, .slice none 0 0] 28)) = W3 at *
              refine wpAnyH_ready (rs := [4]) (by kernel_rfl) (by simp) ?_
              refine AllReadyH.cons rfl (fun K hK => ?_) AllReadyH.nil
              go_simp
              obtain ⟨ow4, hq⟩ := HQ3.out.s4
              have HQ4 : Hid _ := hq
              clear hq
              refine hK.out _ _ ⟨HQ4.out.sb.s.c 0 _ rfl, HQ4.out.sb.s.c 1 _ rfl, HQ4.out.sb.s.lt⟩ (fun hHeld => ?_)
              clear hK K
              generalize (W3.alloc (.cells #[] 2)) = W4 at *
              refine wpAnyH_ready (rs := [7]) (by kernel_rfl) (by simp) ?_
              refine AllReadyH.cons rfl (fun K hK => ?_) AllReadyH.nil
              refine step_copy_onto _ (by rfl) _ _ (by rfl) w2.heap.size _ (by rfl) (HQ4.out.r4 _ rfl).1 HQ4.out.up.size ma ml mc ms HRL.out.2 (by rfl) (HWs.out.2.2.up HQ4.out.sb.b) (by omega) ?_
              intro a7 c7 W5 hown hgrow hor
              obtain ⟨ow5, hq⟩ := HQ4.out.s7 hgrow hown hor
              have HQ5 : Hid _ := hq
              clear hq hown hgrow hor
              refine hK.out _ _ ⟨HQ5.out.sb.s.c 0 _ rfl, HQ5.out.sb.s.c 1 _ rfl, HQ5.out.sb.s.lt⟩ (fun hHeld => ?_)
              clear hK K
              refine wpAnyH_take (i := 8) (v := .agg #[.slice a3 rl c3, .slice a7 ml c7]) rfl (by kernel_rfl) (by kernel_rfl) (by kernel_rfl) (fun _ _ _ h => h) (Or.inl ⟨by rfl, fun w' hSw => by (go_simp)⟩) hHeld ?_
              simp only [Act.put, List.setIfInBounds_toArray, List.set_cons_zero, List.set_cons_succ, List.getElem_cons_zero, List.getElem_cons_succ, List.getElem_toArray]
              have z0 := (HQ5.out.r9 _ rfl).1.c 0 _ rfl
              have z1 := (HQ5.out.r9 _ rfl).1.c 1 _ rfl
              have zl := (HQ5.out.r9 _ rfl).1.lt
              have zf := (HQ5.out.r9 _ rfl).1.f
              refine wpAnyH_ready (rs := [10]) (by kernel_rfl) (by simp) ?_
              refine AllReadyH.cons rfl (fun K hK => ?_) AllReadyH.nil
              go_simp
              have HZ : Hid _ := HQ5.out.s10
              refine hK.out _ _ ⟨HZ.out.sb.s.c 0 _ rfl, HZ.out.sb.s.c 1 _ rfl, HZ.out.sb.s.lt⟩ (fun _ => ?_)
              clear hK K z0 z1 zl zf
              refine wpAnyH_done (by kernel_rfl) ?_ _
              go_wp2_with fail
              go_meet
              exact ⟨_, _, _, _, _, _, _, rfl, rfl, HZ.out⟩
          · go_simp
            obtain ⟨ow2, hq⟩ := HQ1.out.s4
            have HQ2 : Hid _ := hq
            clear hq
            refine hK.out _ _ ⟨HQ2.out.sb.s.c 0 _ rfl, HQ2.out.sb.s.c 1 _ rfl, HQ2.out.sb.s.lt⟩ (fun hHeld => ?_)
            clear hK K
            generalize (W1.alloc (.cells #[] 2)) = W2 at *
            refine wpAnyH_ready (rs := [3, 9]) (by kernel_rfl) (by simp) ?_
            refine AllReadyH.cons rfl (fun K hK => ?_) (AllReadyH.cons rfl (fun K hK => ?_) AllReadyH.nil)
            · refine step_copy_onto _ (by rfl) _ _ (by rfl) w2.heap.size _ (by rfl) (HQ2.out.r0 _ rfl).1 HQ2.out.up.size ra rl rc rs HRL.out.1 (by rfl) (HWs.out.2.1.up HQ2.out.sb.b) (by omega) ?_
              intro a3 c3 W3 hown hgrow hor
              obtain ⟨ow3, hq⟩ := HQ2.out.s3 hgrow hown hor
              have HQ3 : Hid _ := hq
              clear hq hown hgrow hor
              refine hK.out _ _ ⟨HQ3.out.sb.s.c 0 _ rfl, HQ3.out.sb.s.c 1 _ rfl, HQ3.out.sb.s.lt⟩ (fun hHeld => ?_)
              clear hK K
              refine wpAnyH_ready (rs := [7, 9]) (by kernel_rfl) (by simp) ?_
              refine AllReadyH.cons rfl (fun K hK => ?_) (AllReadyH.cons rfl (fun K hK => ?_) AllReadyH.nil)
              · refine step_copy_onto _ (by rfl) _ _ (by rfl) w2.heap.size _ (by rfl) (HQ3.out.r4 _ rfl).1 HQ3.out.up.size ma ml mc ms HRL.out.2 (by rfl) (HWs.out.2.2.up HQ3.out.sb.b) (by omega) ?_
                intro a7 c7 W4 hown hgrow hor
                obtain ⟨ow4, hq⟩ := HQ3.out.s7 hgrow hown hor
                have HQ4 : Hid _ := hq
                clear hq hown hgrow hor
                refine hK.out _ _ ⟨HQ4.out.sb.s.c 0 _ rfl, HQ4.out.sb.s.c 1 _ rfl, HQ4.out.sb.s.lt⟩ (fun hHeld => ?_)
                clear hK K
                refine wpAnyH_take (i := 8) (v := .agg #[.slice a3 rl c3, .slice a7 ml c7]) rfl (by kernel_rfl) (by kernel_rfl) (by kernel_rfl) (fun _ _ _ h => h) (Or.inl ⟨by rfl, fun w' hSw => by (go_simp)⟩) hHeld ?_
                simp only [Act.put, List.setIfInBounds_toArray, List.set_cons_zero, List.set_cons_succ, List.getElem_cons_zero, List.getElem_cons_succ, List.getElem_toArray]
                refine wpAnyH_ready (rs := [9]) (by kernel_rfl) (by simp) ?_
                refine AllReadyH.cons rfl (fun K hK => ?_) AllReadyH.nil
                go_simp
                obtain ⟨ow5, hq⟩ := HQ4.out.s9
                have HQ5 : Hid _ := hq
                clear hq
                refine hK.out _ _ ⟨HQ5.out.sb.s.c 0 _ rfl, HQ5.out.sb.s.c 1 _ rfl, HQ5.out.sb.s.lt⟩ (fun hHeld => ?_)
                clear hK K
                generalize (W4.alloc (.cells #[.slice none 0 0, .slice none 0 0] 28)) = W5 at *
                have z0 := (HQ5.out.r9 _ rfl).1.c 0 _ rfl
                have z1 := (HQ5.out.r9 _ rfl).1.c 1 _ rfl
                have zl := (HQ5.out.r9 _ rfl).1.lt
                have zf := (HQ5.out.r9 _ rfl).1.f
                refine wpAnyH_ready (rs := [10]) (by kernel_rfl) (by simp) ?_
                refine AllReadyH.cons rfl (fun K hK => ?_) AllReadyH.nil
                go_simp
                have HZ : Hid _ := HQ5.out.s10
                refine hK.out _ _ ⟨HZ.out.sb.s.c 0 _ rfl, HZ.out.sb.s.c 1 _ rfl, HZ.out.sb.s.lt⟩ (fun _ => ?_)
                clear hK K z0 z1 zl zf
                refine wpAnyH_done (by kernel_rfl) ?_ _
                go_wp2_with fail
                go_meet
                exact ⟨_, _, _, _, _, _, _, rfl, rfl, HZ.out⟩
              · go_simp
                obtain ⟨ow4, hq⟩ := HQ3.out.s9
                have HQ4 : Hid _ := hq
                clear hq
                refine hK.out _ _ ⟨HQ4.out.sb.s.c 0 _ rfl, HQ4.out.sb.s.c 1 _ rfl, HQ4.out.sb.s.lt⟩ (fun hHeld => ?_)
                clear hK K
                generalize (W3.alloc (.cells #[.slice none 0 0, .slice none 0 0] 28)) = W4 at *
                refine wpAnyH_ready (rs := [7]) (by kernel_rfl) (by simp) ?_
                refine AllReadyH.cons rfl (fun K hK => ?_) AllReadyH.nil
                refine step_copy_onto _ (by rfl) _ _ (by rfl) w2.heap.size _ (by rfl) (HQ4.out.r4 _ rfl).1 HQ4.out.up.size ma ml mc ms HRL.out.2 (by rfl) (HWs.out.2.2.up HQ4.out.sb.b) (by omega) ?_
                intro a7 c7 W5 hown hgrow hor
                obtain ⟨ow5, hq⟩ := HQ4.out.s7 hgrow hown hor
                have HQ5 : Hid _ := hq
                clear hq hown hgrow hor
                refine hK.out _ _ ⟨HQ5.out.sb.s.c 0 _ rfl, HQ5.out.sb.s.c 1 _ rfl, HQ5.out.sb.s.lt⟩ (fun hHeld => ?_)
                clear hK K
                refine wpAnyH_take (i := 8) (v := .agg #[.slice a3 rl c3, .slice a7 ml c7]) rfl (by kernel_rfl) (by kernel_rfl) (by kernel_rfl) (fun _ _ _ h => h) (Or.inl ⟨by rfl, fun w' hSw => by (go_simp)⟩) hHeld ?_
                simp only [Act.put, List.setIfInBounds_toArray, List.set_cons_zero, List.set_cons_succ, List.getElem_cons_zero, List.getElem_cons_succ, List.getElem_toArray]
                have z0 := (HQ5.out.r9 _ rfl).1.c 0 _ rfl
                have z1 := (HQ5.out.r9 _ rfl).1.c 1 _ rfl
                have zl := (HQ5.out.r9 _ rfl).1.lt
                have zf := (HQ5.out.r9 _ rfl).1.f
                refine wpAnyH_ready (rs := [10]) (by kernel_rfl) (by simp) ?_
                refine AllReadyH.cons rfl (fun K hK => ?_) AllReadyH.nil
                go_simp
                have HZ : Hid _ := HQ5.out.s10
                refine hK.out _ _ ⟨HZ.out.sb.s.c 0 _ rfl, HZ.out.sb.s.c 1 _ rfl, HZ.out.sb.s.lt⟩ (fun _ => ?_)
                clear hK K z0 z1 zl zf
                refine wpAnyH_done (by kernel_rfl) ?_ _
                go_wp2_with fail
                go_meet
                exact ⟨_, _, _, _, _, _, _, rfl, rfl, HZ.out⟩
            · go_simp
              obtain ⟨ow3, hq⟩ := HQ2.out.s9
              have HQ3 : Hid _ := hq
              clear hq
              refine hK.out _ _ ⟨HQ3.out.sb.s.c 0 _ rfl, HQ3.out.sb.s.c 1 _ rfl, HQ3.out.sb.s.lt⟩ (fun hHeld => ?_)
              clear hK K
              generalize (W2.alloc (.cells #[.slice none 0 0, .slice none 0 0] 28)) = W3 at *
              refine wpAnyH_ready (rs := [3]) (by kernel_rfl) (by simp) ?_
              refine AllReadyH.cons rfl (fun K hK => ?_) AllReadyH.nil
              refine step_copy_onto _ (by rfl) _ _ (by rfl) w2.heap.size _ (by rfl) (HQ3.out.r0 _ rfl).1 HQ3.out.up.size ra rl rc rs HRL.out.1 (by rfl) (HWs.out.2.1.up HQ3.out.sb.b) (by omega) ?_
              intro a3 c3 W4 hown hgrow hor
              obtain ⟨ow4, hq⟩ := HQ3.out.s3 hgrow hown hor
              have HQ4 : Hid _ := hq
              clear hq hown hgrow hor
              refine hK.out _ _ ⟨HQ4.out.sb.s.c 0 _ rfl, HQ4.out.sb.s.c 1 _ rfl, HQ4.out.sb.s.lt⟩ (fun hHeld => ?_)
              clear hK K
              refine wpAnyH_ready (rs := [7]) (by kernel_rfl) (by simp) ?_
              refine AllReadyH.cons rfl (fun K hK => ?_) AllReadyH.nil
              refine step_copy_onto _ (by rfl) _ _ (by rfl) w2.heap.size _ (by rfl) (HQ4.out.r4 _ rfl).1 HQ4.out.up.size ma ml mc ms HRL.out.2 (by rfl) (HWs.out.2.2.up HQ4.out.sb.b) (by omega) ?_
              intro a7 c7 W5 hown hgrow hor
              obtain ⟨ow5, hq⟩ := HQ4.out.s7 hgrow hown hor
              have HQ5 : Hid _ := hq
              clear hq hown hgrow hor
              refine hK.out _ _ ⟨HQ5.out.sb.s.c 0 _ rfl, HQ5.out.sb.s.c 1 _ rfl, HQ5.out.sb.s.lt⟩ (fun hHeld => ?_)
              clear hK K
              refine wpAnyH_take (i := 8) (v := .agg #[.slice a3 rl c3, .slice a7 ml c7]) rfl (by kernel_rfl) (by kernel_rfl) (by kernel_rfl) (fun _ _ _ h => h) (Or.inl ⟨by rfl, fun w' hSw => by (go_simp)⟩) hHeld ?_
              simp only [Act.put, List.setIfInBounds_toArray, List.set_cons_zero, List.set_cons_succ, List.getElem_cons_zero, List.getElem_cons_succ, List.getElem_toArray]
              have z0 := (HQ5.out.r9 _ rfl).1.c 0 _ rfl
              have z1 := (HQ5.out.r9 _ rfl).1.c 1 _ rfl
              have zl := (HQ5.out.r9 _ rfl).1.lt
              have zf := (HQ5.out.r9 _ rfl).1.f
              refine wpAnyH_ready (rs := [10]) (by kernel_rfl) (by simp) ?_
              refine AllReadyH.cons rfl (fun K hK => ?_) AllReadyH.nil
              go_simp
              have HZ : Hid _ := HQ5.out.s10
              refine hK.out _ _ ⟨HZ.out.sb.s.c 0 _ rfl, HZ.out.sb.s.c 1 _ rfl, HZ.out.sb.s.lt⟩ (fun _ => ?_)
              clear hK K z0 z1 zl zf
              refine wpAnyH_done (by kernel_rfl) ?_ _
              go_wp2_with fail
              go_meet
              exact ⟨_, _, _, _, _, _, _, rfl, rfl, HZ.out⟩
          · go_simp
            obtain ⟨ow2, hq⟩ := HQ1.out.s9
            have HQ2 : Hid _ := hq
            clear hq
            refine hK.out _ _ ⟨HQ2.out.sb.s.c 0 _ rfl, HQ2.out.sb.s.c 1 _ rfl, HQ2.out.sb.s.lt⟩ (fun hHeld => ?_)
            clear hK K
            generalize (W1.alloc (.cells #[.slice none 0 0, .slice none 0 0] 28)) = W2 at *
            refine wpAnyH_ready (rs := [3, 4]) (by kernel_rfl) (by simp) ?_
            refine AllReadyH.cons rfl (fun K hK => ?_) (AllReadyH.cons rfl (fun K hK => ?_) AllReadyH.nil)
            · refine step_copy_onto _ (by rfl) _ _ (by rfl) w2.heap.size _ (by rfl) (HQ2.out.r0 _ rfl).1 HQ2.out.up.size ra rl rc rs HRL.out.1 (by rfl) (HWs.out.2.1.up HQ2.out.sb.b) (by omega) ?_
              intro a3 c3 W3 hown hgrow hor
              obtain ⟨ow3, hq⟩ := HQ2.out.s3 hgrow hown hor
              have HQ3 : Hid _ := hq
              clear hq hown hgrow hor
              refine hK.out _ _ ⟨HQ3.out.sb.s.c 0 _ rfl, HQ3.out.sb.s.c 1 _ rfl, HQ3.out.sb.s.lt⟩ (fun hHeld => ?_)
              clear hK K
              refine wpAnyH_ready (rs := [4]) (by kernel_rfl) (by simp) ?_
              refine AllReadyH.cons rfl (fun K hK => ?_) AllReadyH.nil
              go_simp
              obtain ⟨ow4, hq⟩ := HQ3.out.s4
              have HQ4 : Hid _ := hq
              clear hq
              refine hK.out _ _ ⟨HQ4.out.sb.s.c 0 _ rfl, HQ4.out.sb.s.c 1 _ rfl, HQ4.out.sb.s.lt⟩ (fun hHeld => ?_)
              clear hK K
              generalize (W3.alloc (.cells #[] 2)) = W4 at *
              refine wpAnyH_ready (rs := [7]) (by kernel_rfl) (by simp) ?_
              refine AllReadyH.cons rfl (fun K hK => ?_) AllReadyH.nil
              refine step_copy_onto _ (by rfl) _ _ (by rfl) w2.heap.size _ (by rfl) (HQ4.out.r4 _ rfl).1 HQ4.out.up.size ma ml mc ms HRL.out.2 (by rfl) (HWs.out.2.2.up HQ4.out.sb.b) (by omega) ?_
              intro a7 c7 W5 hown hgrow hor
              obtain ⟨ow5, hq⟩ := HQ4.out.s7 hgrow hown hor
              have HQ5 : Hid _ := hq
              clear hq hown hgrow hor
              refine hK.out _ _ ⟨HQ5.out.sb.s.c 0 _ rfl, HQ5.out.sb.s.c 1 _ rfl, HQ5.out.sb.s.lt⟩ (fun hHeld => ?_)
              clear hK K
              refine wpAnyH_take (i := 8) (v := .agg #[.slice a3 rl c3, .slice a7 ml c7]) rfl (by kernel_rfl) (by kernel_rfl) (by kernel_rfl) (fun _ _ _ h => h) (Or.inl ⟨by rfl, fun w' hSw => by (go_simp)⟩) hHeld ?_
              simp only [Act.put, List.setIfInBounds_toArray, List.set_cons_zero, List.set_cons_succ, List.getElem_cons_zero, List.getElem_cons_succ, List.getElem_toArray]
              have z0 := (HQ5.out.r9 _ rfl).1.c 0 _ rfl
              have z1 := (HQ5.out.r9 _ rfl).1.c 1 _ rfl
              have zl := (HQ5.out.r9 _ rfl).1.lt
              have zf := (HQ5.out.r9 _ rfl).1.f
              refine wpAnyH_ready (rs := [10]) (by kernel_rfl) (by simp) ?_
              refine AllReadyH.cons rfl (fun K hK => ?_) AllReadyH.nil
              go_simp
              have HZ : Hid _ := HQ5.out.s10
              refine hK.out _ _ ⟨HZ.out.sb.s.c 0 _ rfl, HZ.out.sb.s.c 1 _ rfl, HZ.out.sb.s.lt⟩ (fun _ => ?_)
              clear hK K z0 z1 zl zf
              refine wpAnyH_done (by kernel_rfl) ?_ _
              go_wp2_with fail
              go_meet
              exact ⟨_, _, _, _, _, _, _, rfl, rfl, HZ.out⟩
            · go_simp
              obtain ⟨ow3, hq⟩ := HQ2.out.s4
              have HQ3 : Hid _ := hq
              clear hq
              refine hK.out _ _ ⟨HQ3.out.sb.s.c 0 _ rfl, HQ3.out.sb.s.c 1 _ rfl, HQ3.out.sb.s.lt⟩ (fun hHeld => ?_)
              clear hK K
              generalize (W2.alloc (.cells #[] 2)) = W3 at *
              refine wpAnyH_ready (rs := [3]) (by kernel_rfl) (by simp) ?_
              refine AllReadyH.cons rfl (fun K hK => ?_) AllReadyH.nil
              refine step_copy_onto _ (by rfl) _ _ (by rfl) w2.heap.size _ (by rfl) (HQ3.out.r0 _ rfl).1 HQ3.out.up.size ra rl rc rs HRL.out.1 (by rfl) (HWs.out.2.1.up HQ3.out.sb.b) (by omega) ?_
              intro a3 c3 W4 hown hgrow hor
              obtain ⟨ow4, hq⟩ := HQ3.out.s3 hgrow hown hor
              have HQ4 : Hid _ := hq
              clear hq hown hgrow hor
              refine hK.out _ _ ⟨HQ4.out.sb.s.c 0 _ rfl, HQ4.out.sb.s.c 1 _ rfl, HQ4.out.sb.s.lt⟩ (fun hHeld => ?_)
              clear hK K
              refine wpAnyH_ready (rs := [7]) (by kernel_rfl) (by simp) ?_
              refine AllReadyH.cons rfl (fun K hK => ?_) AllReadyH.nil
              refine step_copy_onto _ (by rfl) _ _ (by rfl) w2.heap.size _ (by rfl) (HQ4.out.r4 _ rfl).1 HQ4.out.up.size ma ml mc ms HRL.out.2 (by rfl) (HWs.out.2.2.up HQ4.out.sb.b) (by omega) ?_
              intro a7 c7 W5 hown hgrow hor
              obtain ⟨ow5, hq⟩ := HQ4.out.s7 hgrow hown hor
              have HQ5 : Hid _ := hq
              clear hq hown hgrow hor
              refine hK.out _ _ ⟨HQ5.out.sb.s.c 0 _ rfl, HQ5.out.sb.s.c 1 _ rfl, HQ5.out.sb.s.lt⟩ (fun hHeld => ?_)
              clear hK K
              refine wpAnyH_take (i := 8) (v := .agg #[.slice a3 rl c3, .slice a7 ml c7]) rfl (by kernel_rfl) (by kernel_rfl) (by kernel_rfl) (fun _ _ _ h => h) (Or.inl ⟨by rfl, fun w' hSw => by (go_simp)⟩) hHeld ?_
              simp only [Act.put, List.setIfInBounds_toArray, List.set_cons_zero, List.set_cons_succ, List.getElem_cons_zero, List.getElem_cons_succ, List.getElem_toArray]
              have z0 := (HQ5.out.r9 _ rfl).1.c 0 _ rfl
              have z1 := (HQ5.out.r9 _ rfl).1.c 1 _ rfl
              have zl := (HQ5.out.r9 _ rfl).1.lt
              have zf := (HQ5.out.r9 _ rfl).1.f
              refine wpAnyH_ready (rs := [10]) (by kernel_rfl) (by simp) ?_
              refine AllReadyH.cons rfl (fun K hK => ?_) AllReadyH.nil
              go_simp
              have HZ : Hid _ := HQ5.out.s10
              refine hK.out _ _ ⟨HZ.out.sb.s.c 0 _ rfl, HZ.out.sb.s.c 1 _ rfl, HZ.out.sb.s.lt⟩ (fun _ => ?_)
              clear hK K z0 z1 zl zf
              refine wpAnyH_done (by kernel_rfl) ?_ _
              go_wp2_with fail
              go_meet
              exact ⟨_, _, _, _, _, _, _, rfl, rfl, HZ.out⟩
        · go_simp
          obtain ⟨ow1, hq⟩ := HQ.out.s4
          have HQ1 : Hid _ := hq
          clear hq
          refine hK.out _ _ ⟨HQ1.out.sb.s.c 0 _ rfl, HQ1.out.sb.s.c 1 _ rfl, HQ1.out.sb.s.lt⟩ (fun hHeld => ?_)
          clear hK K
          generalize (Y0.alloc (.cells #[] 2)) = W1 at *
          refine wpAnyH_ready (rs := [0, 9]) (by kernel_rfl) (by simp) ?_
          refine AllReadyH.cons rfl (fun K hK => ?_) (AllReadyH.cons rfl (fun K hK => ?_) AllReadyH.nil)
          · go_simp
            obtain ⟨ow2, hq⟩ := HQ1.out.s0
            have HQ2 : Hid _ := hq
            clear hq
            refine hK.out _ _ ⟨HQ2.out.sb.s.c 0 _ rfl, HQ2.out.sb.s.c 1 _ rfl, HQ2.out.sb.s.lt⟩ (fun hHeld => ?_)
            clear hK K
            generalize (W1.alloc (.cells #[] 2)) = W2 at *
            refine wpAnyH_ready (rs := [3, 9]) (by kernel_rfl) (by simp) ?_
            refine AllReadyH.cons rfl (fun K hK => ?_) (AllReadyH.cons rfl (fun K hK => ?_) AllReadyH.nil)
            · refine step_copy_onto _ (by rfl) _ _ (by rfl) w2.heap.size _ (by rfl) (HQ2.out.r0 _ rfl).1 HQ2.out.up.size ra rl rc rs HRL.out.1 (by rfl) (HWs.out.2.1.up HQ2.out.sb.b) (by omega) ?_
              intro a3 c3 W3 hown hgrow hor
              obtain ⟨ow3, hq⟩ := HQ2.out.s3 hgrow hown hor
              have HQ3 : Hid _ := hq
              clear hq hown hgrow hor
              refine hK.out _ _ ⟨HQ3.out.sb.s.c 0 _ rfl, HQ3.out.sb.s.c 1 _ rfl, HQ3.out.sb.s.lt⟩ (fun hHeld => ?_)
              clear hK K
              refine wpAnyH_ready (rs := [7, 9]) (by kernel_rfl) (by simp) ?_
              refine AllReadyH.cons rfl (fun K hK => ?_) (AllReadyH.cons rfl (fun K hK => ?_) AllReadyH.nil)
              · refine step_copy_onto _ (by rfl) _ _ (by rfl) w2.heap.size _ (by rfl) (HQ3.out.r4 _ rfl).1 HQ3.out.up.size ma ml mc ms HRL.out.2 (by rfl) (HWs.out.2.2.up HQ3.out.sb.b) (by omega) ?_
                intro a7 c7 W4 hown hgrow hor
                obtain ⟨ow4, hq⟩ := HQ3.out.s7 hgrow hown hor
                have HQ4 : Hid _ := hq
                clear hq hown hgrow hor
                refine hK.out _ _ ⟨HQ4.out.sb.s.c 0 _ rfl, HQ4.out.sb.s.c 1 _ rfl, HQ4.out.sb.s.lt⟩ (fun hHeld => ?_)
                clear hK K
                refine wpAnyH_take (i := 8) (v := .agg #[.slice a3 rl c3, .slice a7 ml c7]) rfl (by kernel_rfl) (by kernel_rfl) (by kernel_rfl) (fun _ _ _ h => h) (Or.inl ⟨by rfl, fun w' hSw => by (go_simp)⟩) hHeld ?_
                simp only [Act.put, List.setIfInBounds_toArray, List.set_cons_zero, List.set_cons_succ, List.getElem_cons_zero, List.getElem_cons_succ, List.getElem_toArray]
                refine wpAnyH_ready (rs := [9]) (by kernel_rfl) (by simp) ?_
                refine AllReadyH.cons rfl (fun K hK => ?_) AllReadyH.nil
                go_simp
                obtain ⟨ow5, hq⟩ := HQ4.out.s9
                have HQ5 : Hid _ := hq
                clear hq
                refine hK.out _ _ ⟨HQ5.out.sb.s.c 0 _ rfl, HQ5.out.sb.s.c 1 _ rfl, HQ5.out.sb.s.lt⟩ (fun hHeld => ?_)
                clear hK K
                generalize (W4.alloc (.cells #[.slice none 0 0, .slice none 0 0] 28)) = W5 at *
                have z0 := (HQ5.out.r9 _ rfl).1.c 0 _ rfl
                have z1 := (HQ5.out.r9 _ rfl).1.c 1 _ rfl
                have zl := (HQ5.out.r9 _ rfl).1.lt
                have zf := (HQ5.out.r9 _ rfl).1.f
                refine wpAnyH_ready (rs := [10]) (by kernel_rfl) (by simp) ?_
                refine AllReadyH.cons rfl (fun K hK => ?_) AllReadyH.nil
                go_simp
                have HZ : Hid _ := HQ5.out.s10
                refine hK.out _ _ ⟨HZ.out.sb.s.c 0 _ rfl, HZ.out.sb.s.c 1 _ rfl, HZ.out.sb.s.lt⟩ (fun _ => ?_)
                clear hK K z0 z1 zl zf
                refine wpAnyH_done (by kernel_rfl) ?_ _
                go_wp2_with fail
                go_meet
                exact ⟨_, _, _, _, _, _, _, rfl, rfl, HZ.out⟩
              · go_simp
                obtain ⟨ow4, hq⟩ := HQ3.out.s9
                have HQ4 : Hid _ := hq
                clear hq
                refine hK.out _ _ ⟨HQ4.out.sb.s.c 0 _ rfl, HQ4.out.sb.s.c 1 _ rfl, HQ4.out.sb.s.lt⟩ (fun hHeld => ?_)
                clear hK K
                generalize (W3.alloc (.cells #[.slice none 0 0, .slice none 0 0] 28)) = W4 at *
                refine wpAnyH_ready (rs := [7]) (by kernel_rfl) (by simp) ?_
                refine AllReadyH.cons rfl (fun K hK => ?_) AllReadyH.nil
                refine step_copy_onto _ (by rfl) _ _ (by rfl) w2.heap.size _ (by rfl) (HQ4.out.r4 _ rfl).1 HQ4.out.up.size ma ml mc ms HRL.out.2 (by rfl) (HWs.out.2.2.up HQ4.out.sb.b) (by omega) ?_
                intro a7 c7 W5 hown hgrow hor
                obtain ⟨ow5, hq⟩ := HQ4.out.s7 hgrow hown hor
                have HQ5 : Hid _ := hq
                clear hq hown hgrow hor
                refine hK.out _ _ ⟨HQ5.out.sb.s.c 0 _ rfl, HQ5.out.sb.s.c 1 _ rfl, HQ5.out.sb.s.lt⟩ (fun hHeld => ?_)
                clear hK K
                refine wpAnyH_take (i := 8) (v := .agg #[.slice a3 rl c3, .slice a7 ml c7]) rfl (by kernel_rfl) (by kernel_rfl) (by kernel_rfl) (fun _ _ _ h => h) (Or.inl ⟨by rfl, fun w' hSw => by (go_simp)⟩) hHeld ?_
                simp only [Act.put, List.setIfInBounds_toArray, List.set_cons_zero, List.set_cons_succ, List.getElem_cons_zero, List.getElem_cons_succ, List.getElem_toArray]
                have z0 := (HQ5.out.r9 _ rfl).1.c 0 _ rfl
                have z1 := (HQ5.out.r9 _ rfl).1.c 1 _ rfl
                have zl := (HQ5.out.r9 _ rfl).1.lt
                have zf := (HQ5.out.r9 _ rfl).1.f
                refine wpAnyH_ready (rs := [10]) (by kernel_rfl) (by simp) ?_
                refine AllReadyH.cons rfl (fun K hK => ?_) AllReadyH.nil
                go_simp
                have HZ : Hid _ := HQ5.out.s10
                refine hK.out _ _ ⟨HZ.out.sb.s.c 0 _ rfl, HZ.out.sb.s.c 1 _ rfl, HZ.out.sb.s.lt⟩ (fun _ => ?_)
                clear hK K z0 z1 zl zf
                refine wpAnyH_done (by kernel_rfl) ?_ _
                go_wp2_with fail
                go_meet
                exact ⟨_, _, _, _, _, _, _, rfl, rfl, HZ.out⟩
            · go_simp
              obtain ⟨ow3, hq⟩ := HQ2.out.s9
              have HQ3 : Hid _ := hq
              clear hq
              refine hK.out _ _ ⟨HQ3.out.sb.s.c 0 _ rfl, HQ3.out.sb.s.c 1 _ rfl, HQ3.out.sb.s.lt⟩ (fun hHeld => ?_)
              clear hK K
              generalize (W2.alloc (.cells #[.slice none 0 0, .slice none 0 0] 28)) = W3 at *
              refine wpAnyH_ready (rs := [3]) (by kernel_rfl) (by simp) ?_
              refine AllReadyH.cons rfl (fun K hK => ?_) AllReadyH.nil
              refine step_copy_onto _ (by rfl) _ _ (by rfl) w2.heap.size _ (by rfl) (HQ3.out.r0 _ rfl).1 HQ3.out.up.size ra rl rc rs HRL.out.1 (by rfl) (HWs.out.2.1.up HQ3.out.sb.b) (by omega) ?_
              intro a3 c3 W4 hown hgrow hor
              obtain ⟨ow4, hq⟩ := HQ3.out.s3 hgrow hown hor
              have HQ4 : Hid _ := hq
              clear hq hown hgrow hor
              refine hK.out _ _ ⟨HQ4.out.sb.s.c 0 _ rfl, HQ4.out.sb.s.c 1 _ rfl, HQ4.out.sb.s.lt⟩ (fun hHeld => ?_)
              clear hK K
              refine wpAnyH_ready (rs := [7]) (by kernel_rfl) (by simp) ?_
              refine AllReadyH.cons rfl (fun K hK => ?_) AllReadyH.nil
              refine step_copy_onto _ (by rfl) _ _ (by rfl) w2.heap.size _ (by rfl) (HQ4.out.r4 _ rfl).1 HQ4.out.up.size ma ml mc ms HRL.out.2 (by rfl) (HWs.out.2.2.up HQ4.out.sb.b) (by omega) ?_
              intro a7 c7 W5 hown hgrow hor
              obtain ⟨ow5, hq⟩ := HQ4.out.s7 hgrow hown hor
              have HQ5 : Hid _ := hq
              clear hq hown hgrow hor
              refine hK.out _ _ ⟨HQ5.out.sb.s.c 0 _ rfl, HQ5.out.sb.s.c 1 _ rfl, HQ5.out.sb.s.lt⟩ (fun hHeld => ?_)
              clear hK K
              refine wpAnyH_take (i := 8) (v := .agg #[.slice a3 rl c3, .slice a7 ml c7]) rfl (by kernel_rfl) (by kernel_rfl) (by kernel_rfl) (fun _ _ _ h => h) (Or.inl ⟨by rfl, fun w' hSw => by (go_simp)⟩) hHeld ?_
              simp only [Act.put, List.setIfInBounds_toArray, List.set_cons_zero, List.set_cons_succ, List.getElem_cons_zero, List.getElem_cons_succ, List.getElem_toArray]
              have z0 := (HQ5.out.r9 _ rfl).1.c 0 _ rfl
              have z1 := (HQ5.out.r9 _ rfl).1.c 1 _ rfl
              have zl := (HQ5.out.r9 _ rfl).1.lt
              have zf := (HQ5.out.r9 _ rfl).1.f
              refine wpAnyH_ready (rs := [10]) (by kernel_rfl) (by simp) ?_
              refine AllReadyH.cons rfl (fun K hK => ?_) AllReadyH.nil
              go_simp
              have HZ : Hid _ := HQ5.out.s10
              refine hK.out _ _ ⟨HZ.out.sb.s.c 0 _ rfl, HZ.out.sb.s.c 1 _ rfl, HZ.out.sb.s.lt⟩ (fun _ => ?_)
              clear hK K z0 z1 zl zf
              refine wpAnyH_done (by kernel_rfl) ?_ _
              go_wp2_with fail
              go_meet
              exact ⟨_, _, _, _, _, _, _, rfl, rfl, HZ.out⟩
          · go_simp
            obtain ⟨ow2, hq⟩ := HQ1.out.s9
            have HQ2 : Hid _ := hq
            clear hq
            refine hK.out _ _ ⟨HQ2.out.sb.s.c 0 _ rfl, HQ2.out.sb.s.c 1 _ rfl, HQ2.out.sb.s.lt⟩ (fun hHeld => ?_)
            clear hK K
            generalize (W1.alloc (.cells #[.slice none 0 0, .slice none 0 0] 28)) = W2 at *
            refine wpAnyH_ready (rs := [0]) (by kernel_rfl) (by simp) ?_
            refine AllReadyH.cons rfl (fun K hK => ?_) AllReadyH.nil
            go_simp
            obtain ⟨ow3, hq⟩ := HQ2.out.s0
            have HQ3 : Hid _ := hq
            clear hq
            refine hK.out _ _ ⟨HQ3.out.sb.s.c 0 _ rfl, HQ3.out.sb.s.c 1 _ rfl, HQ3.out.sb.s.lt⟩ (fun hHeld => ?_)
            clear hK K
            generalize (W2.alloc (.cells #[] 2)) = W3 at *
            refine wpAnyH_ready (rs := [3]) (by kernel_rfl) (by simp) ?_
            refine AllReadyH.cons rfl (fun K hK => ?_) AllReadyH.nil
            refine step_copy_onto _ (by rfl) _ _ (by rfl) w2.heap.size _ (by rfl) (HQ3.out.r0 _ rfl).1 HQ3.out.up.size ra rl rc rs HRL.out.1 (by rfl) (HWs.out.2.1.up HQ3.out.sb.b) (by omega) ?_
            intro a3 c3 W4 hown hgrow hor
            obtain ⟨ow4, hq⟩ := HQ3.out.s3 hgrow hown hor
            have HQ4 : Hid _ := hq
            clear hq hown hgrow hor
            refine hK.out _ _ ⟨HQ4.out.sb.s.c 0 _ rfl, HQ4.out.sb.s.c 1 _ rfl, HQ4.out.sb.s.lt⟩ (fun hHeld => ?_)
            clear hK K
            refine wpAnyH_ready (rs := [7]) (by kernel_rfl) (by simp) ?_
            refine AllReadyH.cons rfl (fun K hK => ?_) AllReadyH.nil
            refine step_copy_onto _ (by rfl) _ _ (by rfl) w2.heap.size _ (by rfl) (HQ4.out.r4 _ rfl).1 HQ4.out.up.size ma ml mc ms HRL.out.2 (by rfl) (HWs.out.2.2.up HQ4.out.sb.b) (by omega) ?_
            intro a7 c7 W5 hown hgrow hor
            obtain ⟨ow5, hq⟩ := HQ4.out.s7 hgrow hown hor
            have HQ5 : Hid _ := hq
            clear hq hown hgrow hor
            refine hK.out _ _ ⟨HQ5.out.sb.s.c 0 _ rfl, HQ5.out.sb.s.c 1 _ rfl, HQ5.out.sb.s.lt⟩ (fun hHeld => ?_)
            clear hK K
            refine wpAnyH_take (i := 8) (v := .agg #[.slice a3 rl c3, .slice a7 ml c7]) rfl (by kernel_rfl) (by kernel_rfl) (by kernel_rfl) (fun _ _ _ h => h) (Or.inl ⟨by rfl, fun w' hSw => by (go_simp)⟩) hHeld ?_
            simp only [Act.put, List.setIfInBounds_toArray, List.set_cons_zero, List.set_cons_succ, List.getElem_cons_zero, List.getElem_cons_succ, List.getElem_toArray]
            have z0 := (HQ5.out.r9 _ rfl).1.c 0 _ rfl
            have z1 := (HQ5.out.r9 _ rfl).1.c 1 _ rfl
            have zl := (HQ5.out.r9 _ rfl).1.lt
            have zf := (HQ5.out.r9 _ rfl).1.f
            refine wpAnyH_ready (rs := [10]) (by kernel_rfl) (by simp) ?_
            refine AllReadyH.cons rfl (fun K hK => ?_) AllReadyH.nil
            go_simp
            have HZ : Hid _ := HQ5.out.s10
            refine hK.out _ _ ⟨HZ.out.sb.s.c 0 _ rfl, HZ.out.sb.s.c 1 _ rfl, HZ.out.sb.s.lt⟩ (fun _ => ?_)
            clear hK K z0 z1 zl zf
            refine wpAnyH_done (by kernel_rfl) ?_ _
            go_wp2_with fail
            go_meet
            exact ⟨_, _, _, _, _, _, _, rfl, rfl, HZ.out⟩
        · go_simp
          obtain ⟨ow1, hq⟩ := HQ.out.s9
          have HQ1 : Hid _ := hq
          clear hq
          refine hK.out _ _ ⟨HQ1.out.sb.s.c 0 _ rfl, HQ1.out.sb.s.c 1 _ rfl, HQ1.out.sb.s.lt⟩ (fun hHeld => ?_)
          clear hK K
          generalize (Y0.alloc (.cells #[.slice none 0 0, .slice none 0 0] 28)) = W1 at *
          refine wpAnyH_ready (rs := [0, 4]) (by kernel_rfl) (by simp) ?_
          refine AllReadyH.cons rfl (fun K hK => ?_) (AllReadyH.cons rfl (fun K hK => ?_) AllReadyH.nil)
          · go_simp
            obtain ⟨ow2, hq⟩ := HQ1.out.s0
            have HQ2 : Hid _ := hq
            clear hq
            refine hK.out _ _ ⟨HQ2.out.sb.s.c 0 _ rfl, HQ2.out.sb.s.c 1 _ rfl, HQ2.out.sb.s.lt⟩ (fun hHeld => ?_)
            clear hK K
            generalize (W1.alloc (.cells #[] 2)) = W2 at *
            refine wpAnyH_ready (rs := [3, 4]) (by kernel_rfl) (by simp) ?_
            refine AllReadyH.cons rfl (fun K hK => ?_) (AllReadyH.cons rfl (fun K hK => ?_) AllReadyH.nil)
            · refine step_copy_onto _ (by rfl) _ _ (by rfl) w2.heap.size _ (by rfl) (HQ2.out.r0 _ rfl).1 HQ2.out.up.size ra rl rc rs HRL.out.1 (by rfl) (HWs.out.2.1.up HQ2.out.sb.b) (by omega) ?_
              intro a3 c3 W3 hown hgrow hor
              obtain ⟨ow3, hq⟩ := HQ2.out.s3 hgrow hown hor
              have HQ3 : Hid _ := hq
              clear hq hown hgrow hor
              refine hK.out _ _ ⟨HQ3.out.sb.s.c 0 _ rfl, HQ3.out.sb.s.c 1 _ rfl, HQ3.out.sb.s.lt⟩ (fun hHeld => ?_)
              clear hK K
              refine wpAnyH_ready (rs := [4]) (by kernel_rfl) (by simp) ?_
              refine AllReadyH.cons rfl (fun K hK => ?_) AllReadyH.nil
              go_simp
              obtain ⟨ow4, hq⟩ := HQ3.out.s4
              have HQ4 : Hid _ := hq
              clear hq
              refine hK.out _ _ ⟨HQ4.out.sb.s.c 0 _ rfl, HQ4.out.sb.s.c 1 _ rfl, HQ4.out.sb.s.lt⟩ (fun hHeld => ?_)
              clear hK K
              generalize (W3.alloc (.cells #[] 2)) = W4 at *
              refine wpAnyH_ready (rs := [7]) (by kernel_rfl) (by simp) ?_
              refine AllReadyH.cons rfl (fun K hK => ?_) AllReadyH.nil
              refine step_copy_onto _ (by rfl) _ _ (by rfl) w2.heap.size _ (by rfl) (HQ4.out.r4 _ rfl).1 HQ4.out.up.size ma ml mc ms HRL.out.2 (by rfl) (HWs.out.2.2.up HQ4.out.sb.b) (by omega) ?_
              intro a7 c7 W5 hown hgrow hor
              obtain ⟨ow5, hq⟩ := HQ4.out.s7 hgrow hown hor
              have HQ5 : Hid _ := hq
              clear hq hown hgrow hor
              refine hK.out _ _ ⟨HQ5.out.sb.s.c 0 _ rfl, HQ5.out.sb.s.c 1 _ rfl, HQ5.out.sb.s.lt⟩ (fun hHeld => ?_)
              clear hK K
              refine wpAnyH_take (i := 8) (v := .agg #[.slice a3 rl c3, .slice a7 ml c7]) rfl (by kernel_rfl) (by kernel_rfl) (by kernel_rfl) (fun _ _ _ h => h) (Or.inl ⟨by rfl, fun w' hSw => by (go_simp)⟩) hHeld ?_
              simp only [Act.put, List.setIfInBounds_toArray, List.set_cons_zero, List.set_cons_succ, List.getElem_cons_zero, List.getElem_cons_succ, List.getElem_toArray]
              have z0 := (HQ5.out.r9 _ rfl).1.c 0 _ rfl
              have z1 := (HQ5.out.r9 _ rfl).1.c 1 _ rfl
              have zl := (HQ5.out.r9 _ rfl).1.lt
              have zf := (HQ5.out.r9 _ rfl).1.f
              refine wpAnyH_ready (rs := [10]) (by kernel_rfl) (by simp) ?_
              refine AllReadyH.cons rfl (fun K hK => ?_) AllReadyH.nil
              go_simp
              have HZ : Hid _ := HQ5.out.s10
              refine hK.out _ _ ⟨HZ.out.sb.s.c 0 _ rfl, HZ.out.sb.s.c 1 _ rfl, HZ.out.sb.s.lt⟩ (fun _ => ?_)
              clear hK K z0 z1 zl zf
              refine wpAnyH_done (by kernel_rfl) ?_ _
              go_wp2_with fail
              go_meet
              exact ⟨_, _, _, _, _, _, _, rfl, rfl, HZ.out⟩
            · go_simp
              obtain ⟨ow3, hq⟩ := HQ2.out.s4
              have HQ3 : Hid _ := hq
              clear hq
              refine hK.out _ _ ⟨HQ3.out.sb.s.c 0 _ rfl, HQ3.out.sb.s.c 1 _ rfl, HQ3.out.sb.s.lt⟩ (fun hHeld => ?_)
              clear hK K
              generalize (W2.alloc (.cells #[] 2)) = W3 at *
              refine wpAnyH_ready (rs := [3]) (by kernel_rfl) (by simp) ?_
              refine AllReadyH.cons rfl (fun K hK => ?_) AllReadyH.nil
              refine step_copy_onto _ (by rfl) _ _ (by rfl) w2.heap.size _ (by rfl) (HQ3.out.r0 _ rfl).1 HQ3.out.up.size ra rl rc rs HRL.out.1 (by rfl) (HWs.out.2.1.up HQ3.out.sb.b) (by omega) ?_
              intro a3 c3 W4 hown hgrow hor
              obtain ⟨ow4, hq⟩ := HQ3.out.s3 hgrow hown hor
              have HQ4 : Hid _ := hq
              clear hq hown hgrow hor
              refine hK.out _ _ ⟨HQ4.out.sb.s.c 0 _ rfl, HQ4.out.sb.s.c 1 _ rfl, HQ4.out.sb.s.lt⟩ (fun hHeld => ?_)
              clear hK K
              refine wpAnyH_ready (rs := [7]) (by kernel_rfl) (by simp) ?_
              refine AllReadyH.cons rfl (fun K hK => ?_) AllReadyH.nil
              refine step_copy_onto _ (by rfl) _ _ (by rfl) w2.heap.size _ (by rfl) (HQ4.out.r4 _ rfl).1 HQ4.out.up.size ma ml mc ms HRL.out.2 (by rfl) (HWs.out.2.2.up HQ4.out.sb.b) (by omega) ?_
              intro a7 c7 W5 hown hgrow hor
              obtain ⟨ow5, hq⟩ := HQ4.out.s7 hgrow hown hor
              have HQ5 : Hid _ := hq
              clear hq hown hgrow hor
              refine hK.out _ _ ⟨HQ5.out.sb.s.c 0 _ rfl, HQ5.out.sb.s.c 1 _ rfl, HQ5.out.sb.s.lt⟩ (fun hHeld => ?_)
              clear hK K
              refine wpAnyH_take (i := 8) (v := .agg #[.slice a3 rl c3, .slice a7 ml c7]) rfl (by kernel_rfl) (by kernel_rfl) (by kernel_rfl) (fun _ _ _ h => h) (Or.inl ⟨by rfl, fun w' hSw => by (go_simp)⟩) hHeld ?_
              simp only [Act.put, List.setIfInBounds_toArray, List.set_cons_zero, List.set_cons_succ, List.getElem_cons_zero, List.getElem_cons_succ, List.getElem_toArray]
              have z0 := (HQ5.out.r9 _ rfl).1.c 0 _ rfl
              have z1 := (HQ5.out.r9 _ rfl).1.c 1 _ rfl
              have zl := (HQ5.out.r9 _ rfl).1.lt
              have zf := (HQ5.out.r9 _ rfl).1.f
              refine wpAnyH_ready (rs := [10]) (by kernel_rfl) (by simp) ?_
              refine AllReadyH.cons rfl (fun K hK => ?_) AllReadyH.nil
              go_simp
              have HZ : Hid _ := HQ5.out.s10
              refine hK.out _ _ ⟨HZ.out.sb.s.c 0 _ rfl, HZ.out.sb.s.c 1 _ rfl, HZ.out.sb.s.lt⟩ (fun _ => ?_)
              clear hK K z0 z1 zl zf
              refine wpAnyH_done (by kernel_rfl) ?_ _
              go_wp2_with fail
              go_meet
              exact ⟨_, _, _, _, _, _, _, rfl, rfl, HZ.out⟩
          · go_simp
            obtain ⟨ow2, hq⟩ := HQ1.out.s4
            have HQ2 : Hid _ := hq
            clear hq
            refine hK.out _ _ ⟨HQ2.out.sb.s.c 0 _ rfl, HQ2.out.sb.s.c 1 _ rfl, HQ2.out.sb.s.lt⟩ (fun hHeld => ?_)
            clear hK K
            generalize (W1.alloc (.cells #[] 2)) = W2 at *
            refine wpAnyH_ready (rs := [0]) (by kernel_rfl) (by simp) ?_
            refine AllReadyH.cons rfl (fun K hK => ?_) AllReadyH.nil
            go_simp
            obtain ⟨ow3, hq⟩ := HQ2.out.s0
            have HQ3 : Hid _ := hq
            clear hq
            refine hK.out _ _ ⟨HQ3.out.sb.s.c 0 _ rfl, HQ3.out.sb.s.c 1 _ rfl, HQ3.out.sb.s.lt⟩ (fun hHeld => ?_)
            clear hK K
            generalize (W2.alloc (.cells #[] 2)) = W3 at *
            refine wpAnyH_ready (rs := [3]) (by kernel_rfl) (by simp) ?_
            refine AllReadyH.cons rfl (fun K hK => ?_) AllReadyH.nil
            refine step_copy_onto _ (by rfl) _ _ (by rfl) w2.heap.size _ (by rfl) (HQ3.out.r0 _ rfl).1 HQ3.out.up.size ra rl rc rs HRL.out.1 (by rfl) (HWs.out.2.1.up HQ3.out.sb.b) (by omega) ?_
            intro a3 c3 W4 hown hgrow hor
            obtain ⟨ow4, hq⟩ := HQ3.out.s3 hgrow hown hor
            have HQ4 : Hid _ := hq
            clear hq hown hgrow hor
            refine hK.out _ _ ⟨HQ4.out.sb.s.c 0 _ rfl, HQ4.out.sb.s.c 1 _ rfl, HQ4.out.sb.s.lt⟩ (fun hHeld => ?_)
            clear hK K
            refine wpAnyH_ready (rs := [7]) (by kernel_rfl) (by simp) ?_
            refine AllReadyH.cons rfl (fun K hK => ?_) AllReadyH.nil
            refine step_copy_onto _ (by rfl) _ _ (by rfl) w2.heap.size _ (by rfl) (HQ4.out.r4 _ rfl).1 HQ4.out.up.size ma ml mc ms HRL.out.2 (by rfl) (HWs.out.2.2.up HQ4.out.sb.b) (by omega) ?_
            intro a7 c7 W5 hown hgrow hor
            obtain ⟨ow5, hq⟩ := HQ4.out.s7 hgrow hown hor
            have HQ5 : Hid _ := hq
            clear hq hown hgrow hor
            refine hK.out _ _ ⟨HQ5.out.sb.s.c 0 _ rfl, HQ5.out.sb.s.c 1 _ rfl, HQ5.out.sb.s.lt⟩ (fun hHeld => ?_)
            clear hK K
            refine wpAnyH_take (i := 8) (v := .agg #[.slice a3 rl c3, .slice a7 ml c7]) rfl (by kernel_rfl) (by kernel_rfl) (by kernel_rfl) (fun _ _ _ h => h) (Or.inl ⟨by rfl, fun w' hSw => by (go_simp)⟩) hHeld ?_
            simp only [Act.put, List.setIfInBounds_toArray, List.set_cons_zero, List.set_cons_succ, List.getElem_cons_zero, List.getElem_cons_succ, List.getElem_toArray]
            have z0 := (HQ5.out.r9 _ rfl).1.c 0 _ rfl
            have z1 := (HQ5.out.r9 _ rfl).1.c 1 _ rfl
            have zl := (HQ5.out.r9 _ rfl).1.lt
            have zf := (HQ5.out.r9 _ rfl).1.f
            refine wpAnyH_ready (rs := [10]) (by kernel_rfl) (by simp) ?_
            refine AllReadyH.cons rfl (fun K hK => ?_) AllReadyH.nil
            go_simp
            have HZ : Hid _ := HQ5.out.s10
            refine hK.out _ _ ⟨HZ.out.sb.s.c 0 _ rfl, HZ.out.sb.s.c 1 _ rfl, HZ.out.sb.s.lt⟩ (fun _ => ?_)
            clear hK K z0 z1 zl zf
            refine wpAnyH_done (by kernel_rfl) ?_ _
            go_wp2_with fail
            go_meet
            exact ⟨_, _, _, _, _, _, _, rfl, rfl, HZ.out⟩
      case rest =>
        obtain ⟨ob, mo, nc, r2, rc2, m2, mc2, rfl, rfl, hq⟩ := hcut
        have HQz : Hid (Qz w w2 wc t ra ma rl rc ml mc mo nc n (wds n v) rs ms ob r2 rc2 m2 mc2) := hq
        clear hq
        have k2 := HQz.out.sb.p; have qu0 := k2.cu 0 (by decide); have qu1 := k2.cu 1 (by decide); have qu2 := k2.cu 2 (by decide); have qu3 := k2.cu 3 (by decide); have ql0 := k2.cl 0 (by decide); have ql1 := k2.cl 1 (by decide); have ql2 := k2.cl 2 (by decide); have ql3 := k2.cl 3 (by decide); have qb0 := k2.cb 0 (by decide); have qb1 := k2.cb 1 (by decide); have qb2 := k2.cb 2 (by decide); have qb3 := k2.cb 3 (by decide); have qd := k2.cd; have qz := k2.lt; clear k2
        have z0 := HQz.out.bx.c 0 _ rfl
        have z1 := HQz.out.bx.c 1 _ rfl
        have zl := HQz.out.bx.lt
        have HA9 : Hid (Ws wc mo n v ∧ n ≤ nc ∧ NL wc r2 rs ∧ NL wc m2 ms) := ⟨(ws_row HQz.out.mi HV.out).1, (ws_row HQz.out.mi HV.out).2, nl_row HQz.out.rr HRL.out.1.symm, nl_row HQz.out.rm HRL.out.2.symm⟩
        go_upto_region 12 with (first | (go_at_call 9; go_loud (refine Calls.mono (H9.out _ mo nc r2 rc2 m2 mc2 HQz.out.sb.b HA9.out.1 HA9.out.2.1 HA9.out.2.2.1 HA9.out.2.2.2) ?_; rintro e w3 ⟨p9, rfl, h9⟩; have HP9 : Hid (P9 wc t ls rs ms E p9 w3) := h9; clear h9)))
        clear qu0 qu1 qu2 qu3 ql0 ql1 ql2 ql3 qb0 qb1 qb2 qb3 qd qz z0 z1 zl
        have HU3 : Hid (Below w.heap.size w w3) := HQz.out.sb.b.trans (HP9.out.b.mono HQz.out.sb.b.size)
        by_cases hE : E = 0
        · obtain ⟨q2, rb, ub, a2, c2, x0, rfl, r1, r20, r3, r4, r5⟩ := HP8.out.ok hE
          obtain ⟨q1, ba, bc, rfl, s1, s2, s3⟩ := HP9.out.ok hE
          have HB : Hid (Bp t ls) := HBp.out hE
          obtain ⟨C, HL⟩ : ∃ C : Nat → Prop, Hid (Lo C w w3 t ls (newH q1 ba bc) (newM rs ms) (nwH q2 rb ub a2 c2) (newR rs ms) q1 q2 mo n ob #[.slice r2 rl rc2, .slice m2 ml mc2] r2 rl) := ⟨_, lo_start HQz.out r1 r20 r3 r4 r5 (by have := HX.out.b.size; exact this) HP9.out.b s1 s2 s3⟩
          have HD2 : Hid (∀ b, 0 < rl → r2 = some ⟨b, 0, none⟩ → b ≠ ob) := fun b h0 e => by
            obtain ⟨g, e2, o, -⟩ := row_at HQz.out.rr h0
            rw [e] at e2; cases e2
            exact fun e3 => HQz.out.d2 (e3 ▸ o)
          subst hE
          clear r1 r20 r3 r4 r5 s1 s2 s3 HP8 HP9 HA9 HQz HBp HU3 H8 H9
          go_wp2_with fail
          go_loopw [17] (fun i wr => ∃ k : Nat, k ≤ n ∧ i = .int .i64 k ∧ Hid (Lo C w wr t ls (newH q1 ba bc) (newM rs ms) (nwH q2 rb ub a2 c2) (newR rs ms) q1 q2 mo n ob #[.slice r2 rl rc2, .slice m2 ml mc2] r2 rl)) (fun i _ => n - (intOf i).toNat)
          case atStart => exact ⟨0, by omega, rfl, HL⟩
          case round =>
            rename World => wr2
            clear HL
            obtain ⟨k, hk, rfl, HL⟩ := hrel
            by_cases hlt : k < n
            · have k0 : (0 : Int) ≤ (k : Int) := by omega
              have k1 : (k : Int) < (n : Int) := by omega
              obtain ⟨b, cs, hmo, -, -, -, hat, hsz⟩ := HL.out.o.is (by omega)
              obtain ⟨x, hx⟩ : ∃ x, cs[k]? = some x := ⟨_, Array.getElem?_eq_getElem (by omega)⟩
              have z0 := hat.c k x hx
              have zf := hat.f
              have zl := hat.lt
              subst hmo
              clear hat hx hsz
              go_wp2_with fail
              go_roundw
              case rel => exact ⟨k + 1, by omega, by go_num, HL.out.set rfl hlt _⟩
              case measure => simp [intOf]; omega
            · have k1 : ¬ (k : Int) < (n : Int) := by omega
              have HL2 : Hid (Lo C w wr2 t ls (newH q1 ba bc) (newM rs ms) (nwH q2 rb ub a2 c2) (newR rs ms) q1 q2 r2 rl ob #[.slice r2 rl rc2, .slice m2 ml mc2] none 0) := HL.out.second HD2.out
              clear HL hk hlt
              go_wp2_with fail
              go_loopw [18] (fun i wr => ∃ k : Nat, k ≤ rl ∧ i = .int .i64 k ∧ Hid (Lo C w wr t ls (newH q1 ba bc) (newM rs ms) (nwH q2 rb ub a2 c2) (newR rs ms) q1 q2 r2 rl ob #[.slice r2 rl rc2, .slice m2 ml mc2] none 0)) (fun i _ => rl - (intOf i).toNat)
              case atStart => exact ⟨0, by omega, rfl, HL2⟩
              case round =>
                rename World => wr3
                clear HL2
                obtain ⟨k, hk, rfl, HL⟩ := hrel
                have y0 := HL.out.a.c 0 _ rfl
                have yl := HL.out.a.lt
                by_cases hlt : k < rl
                · have k0 : (0 : Int) ≤ (k : Int) := by omega
                  have k1 : (k : Int) < (rl : Int) := by omega
                  obtain ⟨b, cs, hmo, -, -, -, hat, hsz⟩ := HL.out.o.is (by omega)
                  obtain ⟨x, hx⟩ : ∃ x, cs[k]? = some x := ⟨_, Array.getElem?_eq_getElem (by omega)⟩
                  have z0 := hat.c k x hx
                  have zf := hat.f
                  have zl := hat.lt
                  subst hmo
                  clear hat hx hsz
                  go_wp2_with fail
                  go_roundw
                  case rel => exact ⟨k + 1, by omega, by go_num, HL.out.set rfl hlt _⟩
                  case measure => simp [intOf]; omega
                · have k1 : ¬ (k : Int) < (rl : Int) := by omega
                  have HP0 : Hid (Pz C w wr3 t ls (newH q1 ba bc) (newM rs ms) (nwH q2 rb ub a2 c2) (newR rs ms) q1 q2) := HL.out.p
                  clear HL hk hlt
                  go_wp2_with fail
                  clear y0 yl k1
                  go_loopw [19] (fun i wr => ∃ (k c : Nat) (H1 : Hx) (S : PM) (H2 : Rx) (R : RM), k ≤ l.length ∧ i = .int .i64 k ∧ (c : Int) ≤ smN l k ∧ Hid (Pz C w wr t ls H1 S H2 R q1 q2) ∧ Hid (Rl S R c k)) (fun i _ => l.length - (intOf i).toNat)
                  case atStart => exact ⟨0, 0, _, _, _, _, by omega, rfl, by simp [smN], HP0, HR0⟩
                  case round =>
                    rename World => wr4
                    clear HP0
                    obtain ⟨k, c, H1, S, H2, R, hk, rfl, hc, HP, HR⟩ := hrel
                    by_cases hlt : k < l.length
                    · have HC0 : Hid (k < l.length) := hlt
                      have kz0 : (0 : Int) ≤ (k : Int) := by omega
                      have kz1 : (k : Int) < (l.length : Int) := by omega
                      obtain ⟨⟨dx, Z⟩, hx⟩ : ∃ x, l[k]? = some x := ⟨_, List.getElem?_eq_getElem hlt⟩
                      obtain ⟨lb, lf, rfl, lz, hcc⟩ := (HA.out.up HP.out.b).is (by omega)
                      have HAl : Hid (∀ V, Below w.heap.size w V → lb < V.heap.size ∧ V.cell? ⟨lb, lf + k * 2, none⟩ = some (.int .i64 dx) ∧ V.cell? ⟨lb, lf + k * 2 + 1, none⟩ = some (.int .i64 Z)) := fun V hV => by
                        obtain ⟨b', f', e', z', hc'⟩ := (HA.out.up hV).is (by omega)
                        cases e'
                        exact ⟨z', (hc' k _ hx).1, (hc' k _ hx).2⟩
                      have lc1 := (hcc k _ hx).1
                      have lc2 := (hcc k _ hx).2
                      have hkl : k ≤ 40 := by omega
                      clear hcc
                      by_cases d0 : dx = 0
                      · subst d0
                        obtain ⟨m, hZ, hcm, hcs⟩ := ask_n hx (by have := HN2.out _ rfl; omega) hc
                        have H10 : Hid (∀ V, Pz C w V t ls H1 S H2 R q1 q2 → Calls Tryd.prog 10 #[ptr q1, .int .i64 Z] V (RunOut V t ls H1 (runM t ls m S))) := fun V hV => hV.c10 HR.out HB.out Z m hZ hcm hkl
                        have H12 : Hid (∀ V H1' S', Pz C w V t ls H1' S' H2 R q1 q2 → Calls Tryd.prog 12 #[ptr q2, .int .i64 Z] V (RrOut V t ls H2 (runR t ls m R))) := fun V H1' S' hV => hV.c12 HR.out HB.out Z m hZ hcm hkl
                        have HRn : Hid (Rl (runM t ls m S) (runR t ls m R) (c + m) (k + 1)) := HR.out.run HB.out m (by omega) (by omega)
                        have HCm : Hid (c + m ≤ 2000 ∧ ((c + m : Nat) : Int) ≤ smN l (k + 1)) := ⟨hcm, hcs⟩
                        generalize runM t ls m S = S2 at *
                        generalize runR t ls m R = R2 at *
                        generalize c + m = c2' at *
                        clear hZ hcm hcs hx hc HR
                        go_upto_region 30 with (first | (go_at_call 10; go_loud (refine Calls.mono (H10.out _ HP.out) ?_; rintro e w5 ⟨po, pc, mo5, mc5, rfl, k1, k2, H1b, k3, k4, k5, k6⟩; have HRa : Hid (Ra C w (w5.alloc (.cells #[.int .i64 S2.e, .int .i64 (vI S2), .slice po S2.p.length pc, .slice mo5 (memL S2).length mc5, .int .i64 (S2.s : Int)] 42)) t ls H1b S2 H2 R q1 q2 w5.heap.size #[.int .i64 S2.e, .int .i64 (vI S2), .slice po S2.p.length pc, .slice mo5 (memL S2).length mc5, .int .i64 (S2.s : Int)] po S2.p.length pc S2.p mo5 (memL S2)) := Ra.of_run HP.out k1 k2 k3 k4 k5 _; clear k1 k2 k3 k4 k5 k6)))
                        clear HP H10
                        generalize (w5.alloc (.cells #[.int .i64 S2.e, .int .i64 (vI S2), .slice po S2.p.length pc, .slice mo5 (memL S2).length mc5, .int .i64 (S2.s : Int)] 42)) = X5 at *
                        generalize w5.heap.size = bx at *
                        have HRb : Hid (Ra C w X5.drew t ls H1b S2 H2 R q1 q2 bx #[.int .i64 S2.e, .int .i64 (vI S2), .slice po S2.p.length pc, .slice mo5 (memL S2).length mc5, .int .i64 (S2.s : Int)] po S2.p.length pc S2.p mo5 (memL S2)) := HRa.out.next (drew_up X5)
                        clear HRa lc1 lc2 lz
                        refine wp_region_held_drew (S := fun V => At V bx #[.int .i64 S2.e, .int .i64 (vI S2), .slice po S2.p.length pc, .slice mo5 (memL S2).length mc5, .int .i64 (S2.s : Int)] ∧ lb < V.heap.size ∧ V.cell? ⟨lb, lf + k * 2 + 1, none⟩ = some (.int .i64 Z)) (by kernel_rfl) ⟨HRb.out.a, (HAl.out _ HRb.out.p.b).1, (HAl.out _ HRb.out.p.b).2.2⟩ (fun hHeld => ?_)
                        refine wpAnyH_take (i := 0) (v := .agg #[.int .i64 S2.e, .int .i64 (vI S2), .slice po S2.p.length pc, .slice mo5 (memL S2).length mc5, .int .i64 (S2.s : Int)]) rfl (by kernel_rfl) (by kernel_rfl) (by kernel_rfl) (fun _ _ _ h => h) (Or.inl ⟨by rfl, fun w' hSw => by (have z0 := hSw.1.c 0 _ rfl; have z1 := hSw.1.c 1 _ rfl; have z2 := hSw.1.c 2 _ rfl; have z3 := hSw.1.c 3 _ rfl; have z4 := hSw.1.c 4 _ rfl; have zl := hSw.1.lt; go_simp)⟩) hHeld ?_
                        simp only [Act.put, List.setIfInBounds_toArray, List.set_cons_zero, List.set_cons_succ, List.getElem_cons_zero, List.getElem_toArray]
                        refine wpAnyH_take (i := 1) (v := .pointer (some ⟨q2, 0, none⟩)) rfl (by kernel_rfl) (by kernel_rfl) (by kernel_rfl) (fun _ _ _ h => h) (Or.inl ⟨by rfl, fun w' hSw => by (go_simp)⟩) hHeld ?_
                        simp only [Act.put, List.setIfInBounds_toArray, List.set_cons_zero, List.set_cons_succ, List.getElem_cons_zero, List.getElem_cons_succ, List.getElem_toArray]
                        refine wpAnyH_take (i := 2) (v := .slice (some ⟨lb, lf, none⟩) l.length lc) rfl (by kernel_rfl) (by kernel_rfl) (by kernel_rfl) (fun _ _ _ h => h) (Or.inl ⟨by rfl, fun w' hSw => by (go_simp)⟩) hHeld ?_
                        simp only [Act.put, List.setIfInBounds_toArray, List.set_cons_zero, List.set_cons_succ, List.getElem_cons_zero, List.getElem_cons_succ, List.getElem_toArray]
                        refine wpAnyH_take (i := 3) (v := .int .i64 (k : Int)) rfl (by kernel_rfl) (by kernel_rfl) (by kernel_rfl) (fun _ _ _ h => h) (Or.inl ⟨by rfl, fun w' hSw => by (go_simp)⟩) hHeld ?_
                        simp only [Act.put, List.setIfInBounds_toArray, List.set_cons_zero, List.set_cons_succ, List.getElem_cons_zero, List.getElem_cons_succ, List.getElem_toArray]
                        refine wpAnyH_take (i := 4) (v := .pointer (some ⟨lb, lf + k * 2, none⟩)) rfl (by kernel_rfl) (by kernel_rfl) (by kernel_rfl) (fun _ _ _ h => h) (Or.inl ⟨by rfl, fun w' hSw => by (go_simp)⟩) hHeld ?_
                        simp only [Act.put, List.setIfInBounds_toArray, List.set_cons_zero, List.set_cons_succ, List.getElem_cons_zero, List.getElem_cons_succ, List.getElem_toArray]
                        refine wpAnyH_take (i := 5) (v := .pointer (some ⟨lb, lf + k * 2 + 1, none⟩)) rfl (by kernel_rfl) (by kernel_rfl) (by kernel_rfl) (fun _ _ _ h => h) (Or.inl ⟨by rfl, fun w' hSw => by (go_simp)⟩) hHeld ?_
                        simp only [Act.put, List.setIfInBounds_toArray, List.set_cons_zero, List.set_cons_succ, List.getElem_cons_zero, List.getElem_cons_succ, List.getElem_toArray]
                        refine wpAnyH_take (i := 6) (v := .int .i64 Z) rfl (by kernel_rfl) (by kernel_rfl) (by kernel_rfl) (fun _ _ _ h => h) (Or.inl ⟨by rfl, fun w' hSw => by (have y := hSw.2.2; have yl := hSw.2.1; go_simp)⟩) hHeld ?_
                        simp only [Act.put, List.setIfInBounds_toArray, List.set_cons_zero, List.set_cons_succ, List.getElem_cons_zero, List.getElem_cons_succ, List.getElem_toArray]
                        refine wpAnyH_ready (rs := [7]) (by kernel_rfl) (by simp) ?_
                        refine AllReadyH.cons rfl (fun K hK => ?_) AllReadyH.nil
                        go_simp
                        refine Calls.mono (H12.out _ _ _ HRb.out.p) ?_
                        rintro e w6 ⟨po2, pc2, mo6, mc6, rfl, k1, k2, H2b, k3, k4, -, -⟩
                        have HRc : Hid (Ra C w w6 t ls H1b S2 H2b R2 q1 q2 bx #[.int .i64 S2.e, .int .i64 (vI S2), .slice po S2.p.length pc, .slice mo5 (memL S2).length mc5, .int .i64 (S2.s : Int)] po S2.p.length pc S2.p mo5 (memL S2)) := HRb.out.run2 k3 k4
                        have HSm : Hid (Calls Tryd.prog 11 #[.agg #[.int .i64 S2.e, .int .i64 (vI S2), .slice po S2.p.length pc, .slice mo5 (memL S2).length mc5, .int .i64 (S2.s : Int)], .agg #[.int .i64 (ouE R2), .int .i64 (ouV R2), .slice po2 R2.p.length pc2, .slice mo6 (ouM R2).length mc6, .int .i64 (R2.s : Int)]] w6 fun e w' => e = .returned (.bool true) ∧ Below w6.heap.size w6 w') := HRn.out.same11 HCm.out.1 (nl_row HRc.out.r rfl) HRc.out.k (nl_row k1 rfl) (nl_row k2 rfl)
                        clear k1 k2 k3 k4 HRb H12
                        refine hK.out _ _ ⟨HRc.out.a, (HAl.out _ HRc.out.p.b).1, (HAl.out _ HRc.out.p.b).2.2⟩ (fun hHeld => ?_)
                        clear hK K
                        refine wpAnyH_ready (rs := [8]) (by kernel_rfl) (by simp) ?_
                        refine AllReadyH.cons rfl (fun K hK => ?_) AllReadyH.nil
                        go_simp
                        refine Calls.mono HSm.out ?_
                        rintro e w7 ⟨rfl, hb⟩
                        have HRd : Hid (Ra C w w7 t ls H1b S2 H2b R2 q1 q2 bx #[.int .i64 S2.e, .int .i64 (vI S2), .slice po S2.p.length pc, .slice mo5 (memL S2).length mc5, .int .i64 (S2.s : Int)] po S2.p.length pc S2.p mo5 (memL S2)) := HRc.out.next hb
                        clear hb HRc HSm
                        refine hK.out _ _ ⟨HRd.out.a, (HAl.out _ HRd.out.p.b).1, (HAl.out _ HRd.out.p.b).2.2⟩ (fun hHeld => ?_)
                        clear hK K
                        refine wpAnyH_take (i := 9) (v := .bool false) rfl (by kernel_rfl) (by kernel_rfl) (by kernel_rfl) (fun _ _ _ h => h) (Or.inl ⟨by rfl, fun w' hSw => by (go_simp)⟩) hHeld ?_
                        simp only [Act.put, List.setIfInBounds_toArray, List.set_cons_zero, List.set_cons_succ, List.getElem_cons_zero, List.getElem_cons_succ, List.getElem_toArray]
                        refine wpAnyH_done (by kernel_rfl) ?_ _
                        clear hHeld HAl
                        have HL5 : Hid (Lo C w w7 t ls H1b S2 H2b R2 q1 q2 po S2.p.length bx #[.int .i64 S2.e, .int .i64 (vI S2), .slice po S2.p.length pc, .slice mo5 (memL S2).length mc5, .int .i64 (S2.s : Int)] none 0) := HRd.out.lo
                        clear HRd
                        have hpn : S2.p.length ≤ 1024000 := by have := HRn.out.s.p; have := HCm.out.1; omega
                        generalize S2.p.length = pn at *
                        go_wp2_with fail
                        go_loopw [21] (fun i wr => ∃ j : Nat, j ≤ pn ∧ i = .int .i64 j ∧ Hid (Lo C w wr t ls H1b S2 H2b R2 q1 q2 po pn bx #[.int .i64 S2.e, .int .i64 (vI S2), .slice po pn pc, .slice mo5 (memL S2).length mc5, .int .i64 (S2.s : Int)] none 0)) (fun i _ => pn - (intOf i).toNat)
                        case atStart => exact ⟨0, by omega, rfl, HL5⟩
                        case round =>
                          rename World => wr5
                          clear HL5
                          obtain ⟨j, hj, rfl, HL⟩ := hrel
                          have y0 := HL.out.a.c 2 _ rfl
                          have yl := HL.out.a.lt
                          by_cases hjl : j < pn
                          · have j0 : (0 : Int) ≤ (j : Int) := by omega
                            have j1 : (j : Int) < (pn : Int) := by omega
                            obtain ⟨b, cs', hmo, -, -, -, hat, hsz⟩ := HL.out.o.is (by omega)
                            obtain ⟨x, hx⟩ : ∃ x, cs'[j]? = some x := ⟨_, Array.getElem?_eq_getElem (by omega)⟩
                            have z0 := hat.c j x hx
                            have zf := hat.f
                            have zl := hat.lt
                            subst hmo
                            clear hat hx hsz
                            go_wp2_with fail
                            go_roundw
                            case rel => exact ⟨j + 1, by omega, by go_num, HL.out.set rfl hjl _⟩
                            case measure => simp [intOf]; omega
                          · have j1 : ¬ (j : Int) < (pn : Int) := by omega
                            go_wp2_with fail
                            go_roundw
                            case rel => exact ⟨k + 1, c2', H1b, S2, H2b, R2, by have := HC0.out; omega, by go_num, HCm.out.2, HL.out.p, HRn⟩
                            case measure => have := HC0.out; simp [intOf]; omega
                      by_cases d1 : dx = 1
                      · subst d1
                        clear hx lc2 HAl
                        go_upto_region 38 with (first | (go_at_call 13; go_loud (refine Calls.mono HP.out.c13 ?_; rintro e w5 ⟨vr, vm, rfl, k1, k2, hb⟩; obtain ⟨ro5, rc5, rfl⟩ := row_slice k1; obtain ⟨mo5, mc5, rfl⟩ := row_slice k2; have HRa : Hid (Ra C w (w5.alloc (.cells #[.slice ro5 32 rc5, .slice mo5 256 mc5] 28)) t ls H1 S H2 R q1 q2 w5.heap.size #[.slice ro5 32 rc5, .slice mo5 256 mc5] ro5 32 rc5 (rL S) mo5 (mL S)) := Ra.of_state HP.out k1 k2 (mL_len S).symm hb _; clear k1 k2 hb)))
                        clear HP
                        generalize (w5.alloc (.cells #[.slice ro5 32 rc5, .slice mo5 256 mc5] 28)) = X5 at *
                        generalize w5.heap.size = bx at *
                        have HRb : Hid (Ra C w X5.drew t ls H1 S H2 R q1 q2 bx #[.slice ro5 32 rc5, .slice mo5 256 mc5] ro5 32 rc5 (rL S) mo5 (mL S)) := HRa.out.next (drew_up X5)
                        clear HRa lc1 lz
                        refine wp_region_held_drew (S := fun V => At V bx #[.slice ro5 32 rc5, .slice mo5 256 mc5]) (by kernel_rfl) HRb.out.a (fun hHeld => ?_)
                        refine wpAnyH_take (i := 0) (v := .agg #[.slice ro5 32 rc5, .slice mo5 256 mc5]) rfl (by kernel_rfl) (by kernel_rfl) (by kernel_rfl) (fun _ _ _ h => h) (Or.inl ⟨by rfl, fun w' hSw => by (have z0 := hSw.c 0 _ rfl; have z1 := hSw.c 1 _ rfl; have zl := hSw.lt; go_simp)⟩) hHeld ?_
                        simp only [Act.put, List.setIfInBounds_toArray, List.set_cons_zero, List.set_cons_succ, List.getElem_cons_zero, List.getElem_toArray]
                        refine wpAnyH_take (i := 1) (v := .pointer (some ⟨q2, 0, none⟩)) rfl (by kernel_rfl) (by kernel_rfl) (by kernel_rfl) (fun _ _ _ h => h) (Or.inl ⟨by rfl, fun w' hSw => by (go_simp)⟩) hHeld ?_
                        simp only [Act.put, List.setIfInBounds_toArray, List.set_cons_zero, List.set_cons_succ, List.getElem_cons_zero, List.getElem_cons_succ, List.getElem_toArray]
                        refine wpAnyH_ready (rs := [2]) (by kernel_rfl) (by simp) ?_
                        refine AllReadyH.cons rfl (fun K hK => ?_) AllReadyH.nil
                        go_simp
                        refine Calls.mono HRb.out.p.c15 ?_
                        rintro e w6 ⟨po2, pc2, mo6, mc6, rfl, k1, k2, hb⟩
                        have HRc : Hid (Ra C w w6 t ls H1 S H2 R q1 q2 bx #[.slice ro5 32 rc5, .slice mo5 256 mc5] ro5 32 rc5 (rL S) mo5 (mL S)) := HRb.out.next hb
                        have HSm : Hid (Calls Tryd.prog 14 #[.agg #[.slice ro5 32 rc5, .slice mo5 256 mc5], .agg #[.slice po2 32 pc2, .slice mo6 256 mc6]] w6 fun e w' => e = .returned (.bool true) ∧ Below w6.heap.size w6 w') := HR.out.same14 (nl_row HRc.out.r (rL_len S).symm) HRc.out.k (nl_row k1 (rgR_len R).symm) (nl_row k2 (mmR_len R).symm)
                        clear k1 k2 hb HRb
                        refine hK.out _ _ HRc.out.a (fun hHeld => ?_)
                        clear hK K
                        refine wpAnyH_ready (rs := [3]) (by kernel_rfl) (by simp) ?_
                        refine AllReadyH.cons rfl (fun K hK => ?_) AllReadyH.nil
                        go_simp
                        refine Calls.mono HSm.out ?_
                        rintro e w7 ⟨rfl, hb⟩
                        have HRd : Hid (Ra C w w7 t ls H1 S H2 R q1 q2 bx #[.slice ro5 32 rc5, .slice mo5 256 mc5] ro5 32 rc5 (rL S) mo5 (mL S)) := HRc.out.next hb
                        clear hb HRc HSm
                        refine hK.out _ _ HRd.out.a (fun hHeld => ?_)
                        clear hK K
                        refine wpAnyH_take (i := 4) (v := .bool false) rfl (by kernel_rfl) (by kernel_rfl) (by kernel_rfl) (fun _ _ _ h => h) (Or.inl ⟨by rfl, fun w' hSw => by (go_simp)⟩) hHeld ?_
                        simp only [Act.put, List.setIfInBounds_toArray, List.set_cons_zero, List.set_cons_succ, List.getElem_cons_zero, List.getElem_cons_succ, List.getElem_toArray]
                        refine wpAnyH_done (by kernel_rfl) ?_ _
                        clear hHeld
                        have HL5 : Hid (Lo C w w7 t ls H1 S H2 R q1 q2 ro5 32 bx #[.slice ro5 32 rc5, .slice mo5 256 mc5] none 0) := HRd.out.lo
                        clear HRd
                        have y0 := HL5.out.a.c 0 _ rfl
                        have yl := HL5.out.a.lt
                        obtain ⟨b, cs', hmo, -, -, -, hat, hsz⟩ := HL5.out.o.is (by omega)
                        obtain ⟨x, hx⟩ : ∃ x, cs'[0]? = some x := ⟨_, Array.getElem?_eq_getElem (by omega)⟩
                        have z0 := hat.c 0 x hx
                        have zf := hat.f
                        have zl := hat.lt
                        subst hmo
                        clear hat hx hsz
                        go_wp2_with fail
                        go_roundw
                        case rel => exact ⟨k + 1, c, H1, S, H2, R, by omega, by go_num, Int.le_trans hc (smN_le l k 1), (HL5.out.set (k := 0) rfl (by omega) _).p, HR.out.more (by omega)⟩
                        case measure => simp [intOf]; omega
                      by_cases d2 : dx = 2
                      · subst d2
                        have hck : c ≤ 2000 := by have := smN_le l k (l.length - k); rw [show k + (l.length - k) = l.length by omega] at this; have := HN2.out _ rfl; omega
                        clear hx lc2 HAl
                        go_wp2_with (first | (go_at_call 17; go_loud (refine Calls.mono (HP.out.c17 HR.out hck) ?_; rintro e wf1 ⟨vf, rfl, g1, hb⟩; obtain ⟨fo1, fc1, rfl⟩ := row_slice g1; have HF1 : Hid (Pz C w wf1 t ls H1 S H2 R q1 q2) := HP.out.next hb; have HN1 : Hid (NB wf1 fo1 (flyL S)) := nb_row g1 rfl; clear g1 hb)) | (go_at_call 18; go_loud (refine Calls.mono (HF1.out.c18 HR.out hck) ?_; rintro e wf2 ⟨vf, rfl, g1, hb⟩; obtain ⟨fo2, fc2, rfl⟩ := row_slice g1; have HF2 : Hid (Pz C w wf2 t ls H1 S H2 R q1 q2) := HF1.out.next hb; have HN2b : Hid (NB wf2 fo1 (flyL S) ∧ NB wf2 fo2 (flyL S)) := ⟨HN1.out.up hb, nb_row g1 rfl⟩; clear g1 hb)) | (go_at_call 16; go_loud (refine Calls.mono (fly_same S HN2b.out.1 HN2b.out.2) ?_; rintro e wf3 ⟨rfl, hb⟩; have HF3 : Hid (Pz C w wf3 t ls H1 S H2 R q1 q2) := HF2.out.next hb; clear hb)))
                        go_roundw
                        case rel => exact ⟨k + 1, c, H1, S, H2, R, by omega, by go_num, Int.le_trans hc (smN_le l k 1), HF3, HR.out.more (by omega)⟩
                        case measure => simp [intOf]; omega
                      go_wp2_with fail
                      go_roundw
                      case rel => exact ⟨k + 1, c, H1, S, H2, R, by omega, by go_num, Int.le_trans hc (smN_le l k 1), HP, HR.out.more (by omega)⟩
                      case measure => simp [intOf]; omega
                    · have k1 : ¬ (k : Int) < (l.length : Int) := by omega
                      have hck : c ≤ 2000 := by have := smN_le l k (l.length - k); rw [show k + (l.length - k) = l.length by omega] at this; have := HN2.out _ rfl; omega
                      go_wp2_with (first | (go_at_call 13; go_loud (refine Calls.mono HP.out.c13 ?_; rintro e w5 ⟨vr, vm, rfl, g1, g2, hb⟩; obtain ⟨ro5, rc5, rfl⟩ := row_slice g1; obtain ⟨mo5, mc5, rfl⟩ := row_slice g2; have HE1 : Hid (Pz C w w5 t ls H1 S H2 R q1 q2) := HP.out.next hb; have HM1 : Hid (NL w5 ro5 (rL S) ∧ NL w5 mo5 (mL S)) := ⟨nl_row g1 (rL_len S).symm, nl_row g2 (mL_len S).symm⟩; clear g1 g2 hb)) | (go_at_call 15; go_loud (refine Calls.mono HE1.out.c15 ?_; rintro e w6 ⟨po2, pc2, mo6, mc6, rfl, g1, g2, hb⟩; have HE2 : Hid (Pz C w w6 t ls H1 S H2 R q1 q2) := HE1.out.next hb; have HM2 : Hid (Calls Tryd.prog 14 #[.agg #[.slice ro5 32 rc5, .slice mo5 256 mc5], .agg #[.slice po2 32 pc2, .slice mo6 256 mc6]] w6 fun e w' => e = .returned (.bool true) ∧ Below w6.heap.size w6 w') := HR.out.same14 (HM1.out.1.up hb) (HM1.out.2.up hb) (nl_row g1 (rgR_len R).symm) (nl_row g2 (mmR_len R).symm); clear g1 g2 hb)) | (go_at_call 14; go_loud (refine Calls.mono HM2.out ?_; rintro e w7 ⟨rfl, hb⟩; have HE3 : Hid (Pz C w w7 t ls H1 S H2 R q1 q2) := HE2.out.next hb; clear hb)) | (go_at_call 17; go_loud (refine Calls.mono (HE3.out.c17 HR.out hck) ?_; rintro e wf1 ⟨vf, rfl, g1, hb⟩; obtain ⟨fo1, fc1, rfl⟩ := row_slice g1; have HF1 : Hid (Pz C w wf1 t ls H1 S H2 R q1 q2) := HE3.out.next hb; have HN1 : Hid (NB wf1 fo1 (flyL S)) := nb_row g1 rfl; clear g1 hb)) | (go_at_call 18; go_loud (refine Calls.mono (HF1.out.c18 HR.out hck) ?_; rintro e wf2 ⟨vf, rfl, g1, hb⟩; obtain ⟨fo2, fc2, rfl⟩ := row_slice g1; have HF2 : Hid (Pz C w wf2 t ls H1 S H2 R q1 q2) := HF1.out.next hb; have HN2b : Hid (NB wf2 fo1 (flyL S) ∧ NB wf2 fo2 (flyL S)) := ⟨HN1.out.up hb, nb_row g1 rfl⟩; clear g1 hb)) | (go_at_call 16; go_loud (refine Calls.mono (fly_same S HN2b.out.1 HN2b.out.2) ?_; rintro e wf3 ⟨rfl, hb⟩; have HF3 : Hid (Pz C w wf3 t ls H1 S H2 R q1 q2) := HF2.out.next hb; clear hb)) | (go_at_call 7; go_loud (refine Calls.mono (HW.out _ HF3.out.b) ?_; rintro e w8 ⟨rfl, hb⟩; have HEnd : Hid (Below w.heap.size w w8) := HF3.out.b.trans (hb.mono HF3.out.b.size); clear hb)))
                      go_ret
                      exact ⟨rfl, HEnd.out⟩
        · have e8 := HP8.out.no hE
          have e9 := HP9.out.no hE
          subst e8 e9
          have hb1 : (E != 0) = true := by simpa using hE
          go_wp2_with (first | (go_at_call 7; refine Calls.mono (HW.out _ HU3.out) ?_; rintro e w4 ⟨rfl, hb⟩; have HC4 : Hid (Below w.heap.size w w4) := HU3.out.trans (hb.mono HU3.out.size); clear hb))
          go_ret
          exact ⟨rfl, HC4.out⟩
end Go.Proofs.YtldfjlepbbmhnaaDoor.Pp
