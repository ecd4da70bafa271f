/- The document's bundle. Conditions: none. -/
import Derived.Test.YtldfjlepbbmhnaaDoorXc
import Derived.Test.YtldfjlepbbmhnaaDoorUc
import Derived.RegionTactic
import Derived.Deep.RegionLaw
namespace Go.Proofs.YtldfjlepbbmhnaaDoor.Bu
open Go.ChangeShapes Go.WideShapes Go.ChangeAt Go.RowKit
open _root_.Go.Proofs.YtldfjlepbbmhnaaDoor.Op
open _root_.Go.Proofs.YtldfjlepbbmhnaaDoor.Tb (Tab TabAt Bnds four tabAt_new ckR)
open _root_.Go.Proofs.YtldfjlepbbmhnaaDoor.So
set_option maxRecDepth 20000
theorem stN_gt {v : Nat → Int} : ∀ {n j : Nat}, j < n → v j ≠ 0 → j < stN v n
  | 0, _, h, _ => absurd h (by omega)
  | n + 1, j, h, hv => by
    rw [stN_succ]
    split
    · rename_i h0
      by_cases e : j = n
      · rw [e] at hv; exact absurd h0 hv
      · exact stN_gt (by omega) hv
    · omega
theorem okW_zero (c : Int) : okW c 0 = false := by
  have h : isB c (opW 0) = false := by
    unfold isB
    rw [show clB (opW 0).op = false from by decide]
    rfl
  unfold okW
  rw [h, Bool.and_false]
/-- A list of a class under way. -/
def InJ (w : World) (t : Tab) (x : Bn) (p : Pb) (k : Nat) (g : Nat → Int) (u o : Nat) (v7 v9 v10 : Value) (wz : World) : Prop := ∃ (j m c : Nat) (a : Option Addr), j ≤ u ∧ m ≤ j ∧ v10 = .int .i64 j ∧ v7 = .int .i64 ((o + j : Nat) : Int) ∧ v9 = .bool (decide (m < j)) ∧ (∀ i, i < m → okW k (g i) = true ∧ g i ≠ 0) ∧ (∀ i, m ≤ i → i < j → g i = 0) ∧ Rc w wz t x p k a c (rdL g m)
set_option maxHeartbeats 8000000 in
theorem rbundle_any (a : Option Addr) (n c : Nat) (v : Nat → Int) (t : Tab) (w : World) (h : Ws w a n v) (ht : t.ok = true) (ho : ofs t 4 ≤ n) :
    Calls Tryd.prog 44 #[.slice a n c, t.val] w (ReOut w t v) := by
  have HU : Hid (∀ k, k < 4 → t.u k = (U t k : Int) ∧ U t k ≤ 8 ∧ ofs t k + U t k ≤ 32) := fun k hk => ⟨u_nat ht hk, u_le ht hk, Nat.le_trans (ofs_mono hk) (ofs_le ht)⟩
  have HW : Hid (Ws w a n v) := h
  have HO : Hid (∀ k, k < 4 → ofs t k + U t k ≤ n) := fun k hk => Nat.le_trans (ofs_mono hk) ho
  have HRo : Hid (∀ x W, 0 ≤ x → x < 18446744073709551616 → Calls Tryd.prog 59 #[.int .u64 x] W fun e w' => e = .returned (.tuple #[(opW x).val, .bool (decide (x < 9007199254740992) && okO (opW x))]) ∧ Below W.heap.size W w') := fun x W h0 h1 => rop_any x W h0 h1
  have HCl : Hid (∀ d W, Calls Tryd.prog 60 #[.int .i8 d] W fun e w' => e = .returned (.tuple #[.int .i64 (clV d), .bool (clB d)]) ∧ Below W.heap.size W w') := fun d W => refClass_any d W
  have HS : Hid (Rb w (((w.alloc (.cells t.cells 25)).alloc (.cells #[.slice none 0 0, .slice none 0 0, .slice none 0 0, .slice none 0 0] 63)).alloc (.cells #[.slice none 0 0, .slice none 0 0, .slice none 0 0, .slice none 0 0] 63)) t (bdX t v) ⟨fun _ => none, fun _ => 0⟩ 0) := Rb.start w t _ _ _ _ _
  obtain ⟨i0, hi, hi2⟩ := Option.map_eq_some_iff.1 info55
  simp only [Prod.mk.injEq] at hi2
  obtain ⟨hz0, hz1, hz2⟩ := hi2
  have HI : Hid (Tryd.prog.info? 55 = some i0 ∧ i0.zero = some (.agg #[.int .i8 0, .int .u8 0, .int .u8 0, .int .u8 0, .int .i64 0]) ∧ i0.size = 5 ∧ i0.bytes = 16) := ⟨hi, hz0, hz1, hz2⟩
  clear h ht hi hz0 hz1 hz2
  unfold Tab.val at *
  go_enter Tryd.func44, Tryd.ntmps44
  go_upto_region 4 with fail
  generalize (((w.alloc (.cells t.cells 25)).alloc (.cells #[.slice none 0 0, .slice none 0 0, .slice none 0 0, .slice none 0 0] 63)).alloc (.cells #[.slice none 0 0, .slice none 0 0, .slice none 0 0, .slice none 0 0] 63)) = W0 at *
  go_loopw [7, 8] (fun s i wr => ∃ (k : Nat) (p : Pb), k ≤ 4 ∧ i = .int .i64 k ∧ s = .int .i64 (ofs t k : Int) ∧ bdK t v k = true ∧ Rb w wr t (bdX t v) p k) (fun _ i _ => 4 - (intOf i).toNat)
  case atStart => exact ⟨0, _, by omega, rfl, rfl, rfl, HS.out⟩
  case round =>
    rename World => wr
    obtain ⟨k, p, hk, rfl, rfl, h1, h2⟩ := hrel
    have HQ : Hid (bdK t v k = true ∧ Rb w wr t (bdX t v) p k) := ⟨h1, h2⟩
    clear h1 h2 HS
    by_cases hlt : k < 4
    · have k0 : (0 : Int) ≤ (k : Int) := by omega
      have k4 : (k : Int) < 4 := by omega
      obtain ⟨hu, hu8, hu32⟩ := HU.out k hlt
      have HUk : Hid (t.u k = (U t k : Int)) := hu
      have hon := HO.out k hlt
      have HNo : Hid (rdB k (cv t v k) (stN (cv t v k) (U t k)) = false → bdK t v 4 = false) := fun e => bdK_no hlt e
      have HYe : Hid (rdB k (cv t v k) (stN (cv t v k) (U t k)) = true → bdK t v (k + 1) = true) := fun e => by show (bdK t v k && _) = true; rw [HQ.out.1, e]; rfl
      have HXk : Hid ((bdX t v).l k = rdL (cv t v k) (stN (cv t v k) (U t k)) ∧ ofs t (k + 1) = ofs t k + U t k) := ⟨rfl, rfl⟩
      have HCv : Hid (∀ j, cv t v k j = v (ofs t k + j)) := fun _ => rfl
      clear hu
      generalize cv t v k = g at *
      generalize U t k = u at *
      obtain ⟨OF, hOF⟩ : ∃ OF, ofs t k = OF := ⟨_, rfl⟩
      rw [hOF] at hon hu32 HCv HXk ⊢
      clear hOF
      go_upto_region 8 with fail
      go_loopw [7, 9, 10] (fun v7 v9 v10 wz => InJ w t (bdX t v) p k g u OF v7 v9 v10 wz) (fun _ _ v10 _ => u - (intOf v10).toNat)
      case atStart => exact ⟨0, 0, 0, none, by omega, by omega, rfl, rfl, rfl, fun i hi => absurd hi (by omega), fun i h1 h2 => absurd h2 (by omega), Rc.of HQ.out.2⟩
      case round =>
        rename World => wz
        obtain ⟨j, m, c3, a3, hju, hmj, rfl, rfl, rfl, h1, h2, h3⟩ := hrel
        have HZ : Hid (Rc w wz t (bdX t v) p k a3 c3 (rdL g m)) := h3
        have HA : Hid (∀ i, i < m → okW k (g i) = true ∧ g i ≠ 0) := h1
        have HB : Hid (∀ i, m ≤ i → i < j → g i = 0) := h2
        clear h1 h2 h3 HQ
        have tu := HZ.out.t.cu k hlt
        rw [HUk.out] at tu
        have tz := HZ.out.t.lt
        by_cases hj : j < u
        · have j0 : (0 : Int) ≤ (j : Int) := by omega
          have j1 : (j : Int) < (u : Int) := by omega
          have oj0 : (0 : Int) ≤ ((OF + j : Nat) : Int) := by omega
          have oj1 : ((OF + j : Nat) : Int) < (n : Int) := by omega
          obtain ⟨wb, wf, rfl, wz0, wx⟩ := (HW.out.below HZ.out.up).is (by omega)
          have q0 := wx (OF + j) (by omega)
          obtain ⟨x0, x1⟩ := HW.out.ok (OF + j) (by omega)
          have hgj : g j = v (OF + j) := HCv.out j
          rw [← hgj] at q0 x0 x1
          have HFail : Hid (g j ≠ 0 → (m < j ∨ okW k (g j) = false) → bdK t v 4 = false) := fun hne hor => HNo.out (by
            have hst := stN_gt (n := u) hj hne
            rcases hor with hm | hk0
            · refine rdB_no (k := m) (by omega) ?_
              rw [HB.out m (Nat.le_refl _) hm]
              exact okW_zero _
            · exact rdB_no hst hk0)
          clear wx hgj
          have HGj : Hid (∀ y, g j = y → True) := fun _ _ => trivial
          obtain ⟨x, hx⟩ : ∃ x, g j = x := ⟨_, rfl⟩
          have HX : Hid (g j = x) := hx
          rw [hx] at q0 x0 x1 HFail
          clear hx HGj
          have ej : ((OF + j : Nat) : Int) + 1 = ((OF + (j + 1) : Nat) : Int) := by omega
          generalize hOJ : OF + j = OJ at *
          have HOJ : Hid (OF + j = OJ) := hOJ
          clear hOJ
          by_cases hx0 : x = 0
          · subst hx0
            clear HFail
            generalize decide (m < j) = dm at *
            go_wp2_with fail
            go_roundw
            case rel => exact ⟨j + 1, m, c3, a3, by omega, by omega, by go_num, by first | (congr 1; done) | (congr 1; have := HOJ.out; omega), by rw [decide_eq_true (show m < j + 1 by omega)], HA.out, fun i h1 h2 => by
              by_cases e : i = j
              · rw [e]; exact HX.out
              · exact HB.out i h1 (by omega), HZ.out⟩
            case measure => simp [intOf]; omega
          · have hx0' : (x == 0) = false := by simpa using hx0
            have HOp : Hid (∀ W, Calls Tryd.prog 59 #[.int .u64 x] W fun e w' => e = .returned (.tuple #[(opW x).val, .bool (decide (x < 9007199254740992) && okO (opW x))]) ∧ Below W.heap.size W w') := fun W => HRo.out x W x0 x1
            have HFl : Hid ((m < j ∨ okW k x = false) → bdK t v 4 = false) := fun hor => HFail.out hx0 hor
            have HOk : Hid (okW k x = ((decide (x < 9007199254740992) && okO (opW x)) && clB (opW x).op && (clV (opW x).op == k))) := (by unfold okW isB; cases decide (x < 9007199254740992) <;> cases okO (opW x) <;> cases clB (opW x).op <;> simp : okW k x = ((decide (x < 9007199254740992) && okO (opW x)) && clB (opW x).op && (clV (opW x).op == k)))
            have HNxt : Hid (m = j → okW k x = true → (∀ i, i < j + 1 → okW k (g i) = true ∧ g i ≠ 0) ∧ rdL g (j + 1) = rdL g m ++ [opW x] ∧ (rdL g m).length = j) := fun hm hok => ⟨fun i hi => by
              by_cases e : i = j
              · rw [e, HX.out]; exact ⟨hok, hx0⟩
              · exact HA.out i (by omega), by rw [rdL_next, HX.out, hm], by rw [rdL_len, hm]⟩
            clear HFail hx0
            have HCl1 : Hid (∀ W, Calls Tryd.prog 60 #[.int .i8 (opW x).op] W fun e w' => e = .returned (.tuple #[.int .i64 (clV (opW x).op), .bool (clB (opW x).op)]) ∧ Below W.heap.size W w') := fun W => HCl.out _ W
            generalize okW k x = kw at *
            generalize (decide (x < 9007199254740992) && okO (opW x)) = o1 at *
            generalize opW x = o at *
            generalize clB o.op = cb at *
            generalize clV o.op = cvv at *
            by_cases hm : m < j
            · rw [decide_eq_true hm]
              have hN := HFl.out (.inl hm)
              go_wp2_with (first
                | (go_at_call 59; refine Calls.mono (HOp.out _) ?_; rintro e w2 ⟨rfl, hb2⟩; have HR2 : Hid (Rc w w2 t (bdX t v) p k a3 c3 (rdL g m)) := HZ.out.next hb2; clear hb2)
                | (go_at_call 60; refine Calls.mono (HCl1.out _) ?_; rintro e w3 ⟨rfl, hb3⟩; obtain ⟨b3, hb30, hz3⟩ := one_new w2 _ _ hb3; have HR3 : Hid (Rc w w3 t (bdX t v) p k a3 c3 (rdL g m)) := HR2.out.next hb30; clear hb3 hb30 b3; have ra := HR3.out.r; have r0 := ra.c 0 _ rfl; have r1 := ra.c 1 _ rfl; have r2 := ra.c 2 _ rfl; have r3 := ra.c 3 _ rfl; have rf0 := ra.f 0; have rf1 := ra.f 1; have rf2 := ra.f 2; have rf3 := ra.f 3; have rl := ra.lt; clear ra))
              refine bodyPost_ret (v := .tuple #[bz, .bool false]) (by simp [results, Tryd.results44, go_sem, r0, r1, r2, r3]) rfl (ReOut.no hN (HR3.out.up.trans ?_))
              go_grown
            · rw [decide_eq_false hm]
              have hmj' : m = j := by omega
              cases o1
              · have hN := HFl.out (.inr (by rw [HOk.out]; rfl))
                go_wp2_with (first
                  | (go_at_call 59; refine Calls.mono (HOp.out _) ?_; rintro e w2 ⟨rfl, hb2⟩; have HR2 : Hid (Rc w w2 t (bdX t v) p k a3 c3 (rdL g m)) := HZ.out.next hb2; clear hb2)
                  | (go_at_call 60; refine Calls.mono (HCl1.out _) ?_; rintro e w3 ⟨rfl, hb3⟩; obtain ⟨b3, hb30, hz3⟩ := one_new w2 _ _ hb3; have HR3 : Hid (Rc w w3 t (bdX t v) p k a3 c3 (rdL g m)) := HR2.out.next hb30; clear hb3 hb30 b3; have ra := HR3.out.r; have r0 := ra.c 0 _ rfl; have r1 := ra.c 1 _ rfl; have r2 := ra.c 2 _ rfl; have r3 := ra.c 3 _ rfl; have rf0 := ra.f 0; have rf1 := ra.f 1; have rf2 := ra.f 2; have rf3 := ra.f 3; have rl := ra.lt; clear ra))
                refine bodyPost_ret (v := .tuple #[bz, .bool false]) (by simp [results, Tryd.results44, go_sem, r0, r1, r2, r3]) rfl (ReOut.no hN (HR3.out.up.trans ?_))
                go_grown
              · cases cb
                · have hN := HFl.out (.inr (by rw [HOk.out]; rfl))
                  go_wp2_with (first
                    | (go_at_call 59; refine Calls.mono (HOp.out _) ?_; rintro e w2 ⟨rfl, hb2⟩; have HR2 : Hid (Rc w w2 t (bdX t v) p k a3 c3 (rdL g m)) := HZ.out.next hb2; clear hb2)
                    | (go_at_call 60; refine Calls.mono (HCl1.out _) ?_; rintro e w3 ⟨rfl, hb3⟩; obtain ⟨b3, hb30, hz3⟩ := one_new w2 _ _ hb3; have HR3 : Hid (Rc w w3 t (bdX t v) p k a3 c3 (rdL g m)) := HR2.out.next hb30; clear hb3 hb30 b3; have ra := HR3.out.r; have r0 := ra.c 0 _ rfl; have r1 := ra.c 1 _ rfl; have r2 := ra.c 2 _ rfl; have r3 := ra.c 3 _ rfl; have rf0 := ra.f 0; have rf1 := ra.f 1; have rf2 := ra.f 2; have rf3 := ra.f 3; have rl := ra.lt; clear ra))
                  refine bodyPost_ret (v := .tuple #[bz, .bool false]) (by simp [results, Tryd.results44, go_sem, r0, r1, r2, r3]) rfl (ReOut.no hN (HR3.out.up.trans ?_))
                  go_grown
                · by_cases hcv : cvv = k
                  · subst hcv
                    have hkw : kw = true := by rw [HOk.out]; simp
                    obtain ⟨n1, n2, n3⟩ := HNxt.out hmj' hkw
                    have HN : Hid ((∀ i, i < j + 1 → okW k (g i) = true ∧ g i ≠ 0) ∧ rdL g (j + 1) = rdL g m ++ [o] ∧ (rdL g m).length = j) := ⟨n1, n2, n3⟩
                    clear n1 n2 n3 HNxt HFl HOk
                    subst hmj'
                    go_upto_region 18 with (first
                      | (go_at_call 59; refine Calls.mono (HOp.out _) ?_; rintro e w2 ⟨rfl, hb2⟩; have HR2 : Hid (Rc w w2 t (bdX t v) p k a3 c3 (rdL g m)) := HZ.out.next hb2; clear hb2)
                      | (go_at_call 60; refine Calls.mono (HCl1.out _) ?_; rintro e w3 ⟨rfl, hb3⟩; obtain ⟨b3, hb30, hz3⟩ := one_new w2 _ _ hb3; have HR3 : Hid (Rc w w3 t (bdX t v) p k a3 c3 (rdL g m)) := HR2.out.next hb30; have HBo : Hid (At w3 w2.heap.size o.cells) := b3; clear hb3 hb30 b3; have ra := HR3.out.r; have r0 := ra.c 0 _ rfl; have r1 := ra.c 1 _ rfl; have r2 := ra.c 2 _ rfl; have r3 := ra.c 3 _ rfl; have rf0 := ra.f 0; have rf1 := ra.f 1; have rf2 := ra.f 2; have rf3 := ra.f 3; have rl := ra.lt; clear ra))
                    have hxl : (rdL g m).length ≤ 8 := by rw [rdL_len]; omega
                    have HXl : Hid ((rdL g m).length = m) := rdL_len g m
                    have y0 := HR3.out.cl k hlt
                    rw [if_pos rfl] at y0
                    have y1 := HR3.out.f k
                    have y2 := HR3.out.lt
                    obtain ⟨o0, o1', o2, o3, o4⟩ := HBo.out.o5
                    have ol := HBo.out.lt
                    clear HZ HR2 r0 r1 r2 r3 rf0 rf1 rf2 rf3 rl q0 tu tz
                    have HNn : Hid (rdL g (m + 1) = rdL g m ++ [o] ∧ (∀ i, i < m + 1 → okW k (g i) = true ∧ g i ≠ 0)) := ⟨HN.out.2.1, HN.out.1⟩
                    clear HN
                    generalize rdL g m = xs at *
                    generalize w2.heap.size = ob at *
                    go_wp2_with fail
                    have e1 : w3.drew.heap.size = w3.heap.size := rfl
                    go_region_law
                      ((refine step_append_lies _ (by rfl) _ _ 60 (by rfl) (w.heap.size + 3) 55 i0 (.agg #[.int .i8 0, .int .u8 0, .int .u8 0, .int .u8 0, .int .i64 0]) 5 16 Tryd.underlying60 HI.out.1 HI.out.2.1 HI.out.2.2.1 HI.out.2.2.2 rfl (by decide) (.slice a3 xs.length c3) xs.length (ocells xs) (by rfl) (HR3.out.row.drew.alloc _) ⟨w3.heap.size, 0, none⟩ 1 1 [.int .i8 o.op, .int .u8 o.d, .int .u8 o.a, .int .u8 o.b, .int .i64 o.im] (by rfl) rfl (World.news_of_block (heap_alloc_new w3.drew (.cells #[.int .i8 o.op, .int .u8 o.d, .int .u8 o.a, .int .u8 o.b, .int .i64 o.im] 55))) (by simp [Value.oneCell']) (by decide) (by unfold maxLen; omega) (by omega) (by have h5 := HR3.out.lt; simp; omega) _ rfl ?_; intro g4 cp w4 hown hgrow hg hlt3; have HP3 : Hid ((w4.cell? ⟨w.heap.size + 2, k, none⟩ = some (.slice a3 xs.length c3) ∧ w4.frozen? ⟨w.heap.size + 2, k, none⟩ = false ∧ w.heap.size + 2 < w4.heap.size) ∧ Rc w (w4.setCell ⟨w.heap.size + 2, k, none⟩ (.slice (some ⟨g4, 0, none⟩) (xs.length + 1) cp)) t (bdX t v) p k (some ⟨g4, 0, none⟩) cp (xs ++ [o])) := (HR3.out.next ((Below.refl _ _).drew.alloc (Nat.le_refl _) _)).add hlt hgrow hown (hg.imp id fun e => by rw [e]; simp); have z0 := HP3.out.1.1; have z1 := HP3.out.1.2.1; have z2 := HP3.out.1.2.2; clear hown hgrow hg hlt3))
                    all_goals
                      go_wp2_with fail
                      go_roundw
                      case rel => exact ⟨m + 1, m + 1, cp, some ⟨g4, 0, none⟩, by omega, by omega, by go_num, by first | (congr 1; done) | (congr 1; have := HOJ.out; omega), by rw [decide_eq_false (show ¬ m + 1 < m + 1 by omega)], HNn.out.2, fun i h1 h2 => absurd h2 (by omega), by rw [HNn.out.1]; exact HP3.out.2⟩
                      case measure => simp [intOf]; omega
                  · have hcv' : (cvv != (k : Int)) = true := by simpa using hcv
                    have hN := HFl.out (.inr (by rw [HOk.out]; simp [hcv]))
                    clear hcv
                    go_wp2_with (first
                      | (go_at_call 59; refine Calls.mono (HOp.out _) ?_; rintro e w2 ⟨rfl, hb2⟩; have HR2 : Hid (Rc w w2 t (bdX t v) p k a3 c3 (rdL g m)) := HZ.out.next hb2; clear hb2)
                      | (go_at_call 60; refine Calls.mono (HCl1.out _) ?_; rintro e w3 ⟨rfl, hb3⟩; obtain ⟨b3, hb30, hz3⟩ := one_new w2 _ _ hb3; have HR3 : Hid (Rc w w3 t (bdX t v) p k a3 c3 (rdL g m)) := HR2.out.next hb30; clear hb3 hb30 b3; have ra := HR3.out.r; have r0 := ra.c 0 _ rfl; have r1 := ra.c 1 _ rfl; have r2 := ra.c 2 _ rfl; have r3 := ra.c 3 _ rfl; have rf0 := ra.f 0; have rf1 := ra.f 1; have rf2 := ra.f 2; have rf3 := ra.f 3; have rl := ra.lt; clear ra))
                    refine bodyPost_ret (v := .tuple #[bz, .bool false]) (by simp [results, Tryd.results44, go_sem, r0, r1, r2, r3]) rfl (ReOut.no hN (HR3.out.up.trans ?_))
                    go_grown
        · obtain rfl : j = u := by omega
          have j1 : ¬ (j : Int) < (j : Int) := by omega
          have hst : stN g j = m := stN_is g m (fun i hi => (HA.out i hi).2) j hmj HB.out
          have HY2 : Hid (bdK t v (k + 1) = true) := HYe.out (by rw [hst]; exact rdB_iff.2 fun i hi => (HA.out i hi).1)
          have HRb : Hid (Rb w wz t (bdX t v) (p.put k a3 c3) (k + 1)) := HZ.out.done (by rw [HXk.out.1, hst]) (rdL_ok _ _) (by rw [rdL_len]; omega)
          have HOf : Hid (ofs t (k + 1) = OF + j) := HXk.out.2
          clear hst
          generalize decide (m < j) = dm at *
          go_wp2_with fail
          go_roundw
          case rel => exact ⟨k + 1, p.put k a3 c3, by omega, by go_num, by rw [HOf.out], HY2.out, HRb.out⟩
          case measure => simp [intOf]; omega
    · obtain rfl : k = 4 := by omega
      have q := HQ.out.2
      have c0 : wr.cell? ⟨w.heap.size + 2, 0, none⟩ = some (.slice (p.a 0) ((bdX t v).l 0).length (p.c 0)) := q.c 0 (by decide)
      have c1 : wr.cell? ⟨w.heap.size + 2, 1, none⟩ = some (.slice (p.a 1) ((bdX t v).l 1).length (p.c 1)) := q.c 1 (by decide)
      have c2 : wr.cell? ⟨w.heap.size + 2, 2, none⟩ = some (.slice (p.a 2) ((bdX t v).l 2).length (p.c 2)) := q.c 2 (by decide)
      have c3 : wr.cell? ⟨w.heap.size + 2, 3, none⟩ = some (.slice (p.a 3) ((bdX t v).l 3).length (p.c 3)) := q.c 3 (by decide)
      have cl := q.lt
      have ra := q.r; have r0 := ra.c 0 _ rfl; have r1 := ra.c 1 _ rfl; have r2 := ra.c 2 _ rfl; have r3 := ra.c 3 _ rfl; have rf0 := ra.f 0; have rf1 := ra.f 1; have rf2 := ra.f 2; have rf3 := ra.f 3; have rl := ra.lt; clear ra q
      go_wp2
      refine bodyPost_ret (v := .tuple #[bval (bdX t v) p, .bool true]) (by simp [results, Tryd.results44, go_sem, r0, r1, r2, r3]) rfl (ReOut.yes HQ.out.1 ⟨fun j hj => opsAt_fr (HQ.out.2.o j hj).1 (((((Fr.refl (One (w.heap.size + 1)) wr).setCell (.inr rfl) _ _).setCell (.inr rfl) _ _).setCell (.inr rfl) _ _).setCell (.inr rfl) _ _) fun A hA e => ?_⟩ (fun j hj A hA => ?_) (HQ.out.2.up.trans ?_))
      · have := (HQ.out.2.o j hj).2 A hA
        have e : A.block = w.heap.size + 1 := e
        omega
      · have := (HQ.out.2.o j hj).2 A hA
        omega
      · go_grown
end Go.Proofs.YtldfjlepbbmhnaaDoor.Bu
