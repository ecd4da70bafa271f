/- The document's answer on a program and a table (Needs): read off the program by the walk. Conditions: the program lies in memory. -/
import Derived.Test.YtecfbnfbpamegaaDoorLu
import Derived.Test.YtecfbnfbpamegaaDoorRj
import Derived.Test.YtecfbnfbpamegaaDoorRs
namespace Go.Proofs.YtecfbnfbpamegaaDoor.Op
open Go.ChangeShapes Go.WideShapes Go.ChangeAt Go.RowKit
set_option maxRecDepth 20000
open Tb (Tab)

theorem lacks_iff {u : Nat → Bool} {t : Tab} : lacks u t = true ↔ ∃ k, k < 4 ∧ u k = true ∧ t.u k = 0 := by
  constructor
  · intro h
    simp only [lacks, Bool.or_eq_true, lack, Bool.and_eq_true, beq_iff_eq] at h
    rcases h with ((h | h) | h) | h
    · exact ⟨0, by omega, h⟩
    · exact ⟨1, by omega, h⟩
    · exact ⟨2, by omega, h⟩
    · exact ⟨3, by omega, h⟩
  · rintro ⟨k, hk, h1, h2⟩
    exact lacks_yes hk (by simp [lack, h1, h2])
theorem usesT_of {t : Tab} {xs : List O} {k : Nat} (h : xs.any (isC k) = true) (h0 : t.u k = 0) : usesT t xs = true := by
  obtain ⟨o, ho, h1⟩ := List.any_eq_true.1 h
  simp only [isC, Bool.and_eq_true, decide_eq_true_eq] at h1
  refine List.any_eq_true.2 ⟨o, ho, ?_⟩
  simp [lackO, h1.1, h1.2, h0]
theorem usesT_out {t : Tab} {xs : List O} (h : usesT t xs = true) : ∃ k, k < 4 ∧ xs.any (isC k) = true ∧ t.u k = 0 := by
  obtain ⟨o, ho, h1⟩ := List.any_eq_true.1 h
  simp only [lackO, Bool.and_eq_true, beq_iff_eq] at h1
  obtain ⟨n, hn, en⟩ := clV_in h1.1
  refine ⟨n, hn, List.any_eq_true.2 ⟨o, ho, by simp [isC, h1.1, en]⟩, ?_⟩
  have := h1.2
  rw [en, Int.toNat_natCast] at this
  exact this
def usesP (t : Tab) (x : Bk) : Bool := usesT t x.ops || usesT t x.body
theorem lacks_eq (ps : List Bk) (t : Tab) : lacks (useL ps) t = (t.u 3 == 0 || ps.any (usesP t)) := by
  rw [Bool.eq_iff_iff, lacks_iff]
  simp only [Bool.or_eq_true, beq_iff_eq]
  constructor
  · rintro ⟨k, hk, h1, h2⟩
    rw [useL_any] at h1
    simp only [Bool.or_eq_true, decide_eq_true_eq] at h1
    rcases h1 with rfl | h1
    · exact .inl h2
    · obtain ⟨x, hx, h3⟩ := List.any_eq_true.1 h1
      refine .inr (List.any_eq_true.2 ⟨x, hx, ?_⟩)
      simp only [useF, Bool.or_eq_true] at h3
      unfold usesP
      rcases h3 with h3 | h3
      · rw [usesT_of h3 h2]; rfl
      · rw [usesT_of h3 h2, Bool.or_true]
  · rintro (h | h)
    · exact ⟨3, by omega, by rw [useL_any]; simp, h⟩
    · obtain ⟨x, hx, h3⟩ := List.any_eq_true.1 h
      unfold usesP at h3
      simp only [Bool.or_eq_true] at h3
      rcases h3 with h3 | h3
      · obtain ⟨k, hk, h4, h5⟩ := usesT_out h3
        exact ⟨k, hk, by rw [useL_any, List.any_eq_true.2 ⟨x, hx, by simp [useF, h4]⟩, Bool.or_true], h5⟩
      · obtain ⟨k, hk, h4, h5⟩ := usesT_out h3
        exact ⟨k, hk, by rw [useL_any, List.any_eq_true.2 ⟨x, hx, by simp [useF, h4]⟩, Bool.or_true], h5⟩
theorem ndE_ok {ps : List Bk} {t : Tab} (h1 : ckP ps = 0) (h2 : Tb.ckR t = 0) : ndE ps t = if (t.u 3 == 0 || ps.any (usesP t)) then 21 else 0 := by
  rw [← lacks_eq]; simp [ndE, h1, h2]
theorem any_at {t : Tab} {ps : List Bk} {k : Nat} (h : k < ps.length) (e : usesP t ps[k] = true) : ps.any (usesP t) = true := List.any_eq_true.2 ⟨_, List.getElem_mem h, e⟩
theorem any_none {t : Tab} {ps : List Bk} (h : ∀ (j : Nat) (hj : j < ps.length), usesP t ps[j] = false) : ps.any (usesP t) = false := by
  refine List.any_eq_false.2 fun o ho => ?_
  obtain ⟨i, hi, rfl⟩ := List.getElem_of_mem ho
  rw [h i hi]; exact Bool.false_ne_true

set_option maxHeartbeats 1500000 in
theorem refNeeds_any (ao : Option Addr) (cap : Nat) (ps : List Bk) (t : Tab) (w : World) (h : PAt w ao ps) :
    Calls Tryd.prog 14 #[.agg #[.slice ao ps.length cap], t.val] w fun e w' => e = .returned (.int .i64 (ndE ps t)) ∧ Below w.heap.size w w' := by
  have HC : Hid (∀ w1, Below w.heap.size w w1 → Calls Tryd.prog 11 #[.agg #[.slice ao ps.length cap]] w1 fun e w' => e = .returned (.int .i64 (ckP ps)) ∧ Below w1.heap.size w1 w') := fun w1 hb => refCheckP_any _ _ _ _ (h.below hb)
  have HT : Hid (∀ w1, Below w.heap.size w w1 → Calls Tryd.prog 23 #[t.val] w1 fun e w' => e = .returned (.int .i64 (Tb.ckR t)) ∧ Below w1.heap.size w1 w') := fun w1 _ => Tb.refCheck_any _ _
  have hlen := h.len
  have HP : Hid _ := h
  clear h
  unfold Tab.val at *
  by_cases h1 : ckP ps = 0
  · by_cases h2 : Tb.ckR t = 0
    · rw [ndE_ok h1 h2]
      rw [h1] at HC
      rw [h2] at HT
      clear h1 h2
      cases h3 : (t.u 3 == 0)
      · rw [Bool.false_or]
        generalize hr : (if ps.any (usesP t) = true then (21 : Int) else 0) = r
        have HR : Hid (_ = r) := hr
        clear hr
        go_enter Tryd.func14, Tryd.ntmps14
        go_wp2_with (first
          | (go_at_call 11; refine Calls.mono (HC.out _ (by go_grown)) ?_; rintro e w1 ⟨rfl, hb⟩; have HN : Hid (Nd w w1 _ t) := Nd.start hb; have cp := HN.out.p.c 0 _ rfl; obtain ⟨c0, c1, c2, c3, c4, c5, c6, c7, c8, c9, ca, cb, cc⟩ := HN.out.t.t13; clear hb HC)
          | (go_at_call 23; refine Calls.mono (HT.out _ HN.out.b) ?_; rintro e w2 ⟨rfl, hb⟩; have HN2 : Hid (Nd w w2 _ t) := HN.out.go hb; clear HN cp c0 c1 c2 c3 c4 c5 c6 c7 c8 c9 ca cb cc; have c3 := HN2.out.t.c 3 _ rfl; clear hb HT))
        clear c3
        go_loopw [6] (fun i wr => ∃ k : Nat, k ≤ ps.length ∧ i = .int .i64 k ∧ (∀ (j : Nat) (hj : j < ps.length), j < k → usesP t ps[j] = false) ∧ Nd w wr (.slice ao ps.length cap) t) (fun i _ => ps.length - (intOf i).toNat)
        case atStart => exact ⟨0, by omega, rfl, fun j _ hj => by omega, HN2.out⟩
        case round =>
          rename World => wr
          obtain ⟨k, hk, rfl, hok, hnd⟩ := hrel
          have HK : Hid _ := hok
          have HD : Hid _ := hnd
          have cp := hnd.p.c 0 _ rfl
          clear HN2 hok
          by_cases hlt : k < ps.length
          · obtain ⟨b, f, rfl, hz, hx⟩ := HP.out.is (by omega)
            obtain ⟨⟨oa, oc, ba, bc⟩, hp, h5⟩ := hx k hlt
            have hp' := hp.below hnd.b hz
            have zw := hnd.b.size
            have x0 : ∀ x : Wd (Below wr.heap.size wr), x.w.cell? ⟨b, f + k * 6, none⟩ = some (.slice oa ps[k].ops.length oc) := fun x => by rw [(bcell x.ok).1 _ _ (by omega)]; exact hp'.c0
            have x3 : ∀ x : Wd (Below wr.heap.size wr), x.w.cell? ⟨b, f + k * 6 + 3, none⟩ = some (.slice ba ps[k].body.length bc) := fun x => by rw [(bcell x.ok).1 _ _ (by omega)]; exact hp'.c3
            have xp : ∀ x : Wd (Below wr.heap.size wr), x.w.cell? ⟨w.heap.size, 0, none⟩ = some (.slice (some ⟨b, f, none⟩) ps.length cap) := fun x => by rw [(bcell x.ok).1 _ _ hnd.p.lt]; exact hnd.p.c 0 _ rfl
            have y0 : ∀ x : Wd (Below wr.heap.size wr), x.w.cell? ⟨w.heap.size + 1, 0, none⟩ = some (.int .i64 (t.u 0)) := fun x => by rw [(bcell x.ok).1 _ _ hnd.t.lt]; exact hnd.t.c 0 _ rfl
            have y1 : ∀ x : Wd (Below wr.heap.size wr), x.w.cell? ⟨w.heap.size + 1, 1, none⟩ = some (.int .i64 (t.u 1)) := fun x => by rw [(bcell x.ok).1 _ _ hnd.t.lt]; exact hnd.t.c 1 _ rfl
            have y2 : ∀ x : Wd (Below wr.heap.size wr), x.w.cell? ⟨w.heap.size + 1, 2, none⟩ = some (.int .i64 (t.u 2)) := fun x => by rw [(bcell x.ok).1 _ _ hnd.t.lt]; exact hnd.t.c 2 _ rfl
            have y3 : ∀ x : Wd (Below wr.heap.size wr), x.w.cell? ⟨w.heap.size + 1, 3, none⟩ = some (.int .i64 (t.u 3)) := fun x => by rw [(bcell x.ok).1 _ _ hnd.t.lt]; exact hnd.t.c 3 _ rfl
            have y4 : ∀ x : Wd (Below wr.heap.size wr), x.w.cell? ⟨w.heap.size + 1, 4, none⟩ = some (.int .i64 (t.l 0)) := fun x => by rw [(bcell x.ok).1 _ _ hnd.t.lt]; exact hnd.t.c 4 _ rfl
            have y5 : ∀ x : Wd (Below wr.heap.size wr), x.w.cell? ⟨w.heap.size + 1, 5, none⟩ = some (.int .i64 (t.l 1)) := fun x => by rw [(bcell x.ok).1 _ _ hnd.t.lt]; exact hnd.t.c 5 _ rfl
            have y6 : ∀ x : Wd (Below wr.heap.size wr), x.w.cell? ⟨w.heap.size + 1, 6, none⟩ = some (.int .i64 (t.l 2)) := fun x => by rw [(bcell x.ok).1 _ _ hnd.t.lt]; exact hnd.t.c 6 _ rfl
            have y7 : ∀ x : Wd (Below wr.heap.size wr), x.w.cell? ⟨w.heap.size + 1, 7, none⟩ = some (.int .i64 (t.l 3)) := fun x => by rw [(bcell x.ok).1 _ _ hnd.t.lt]; exact hnd.t.c 7 _ rfl
            have y8 : ∀ x : Wd (Below wr.heap.size wr), x.w.cell? ⟨w.heap.size + 1, 8, none⟩ = some (.int .i64 (t.b 0)) := fun x => by rw [(bcell x.ok).1 _ _ hnd.t.lt]; exact hnd.t.c 8 _ rfl
            have y9 : ∀ x : Wd (Below wr.heap.size wr), x.w.cell? ⟨w.heap.size + 1, 9, none⟩ = some (.int .i64 (t.b 1)) := fun x => by rw [(bcell x.ok).1 _ _ hnd.t.lt]; exact hnd.t.c 9 _ rfl
            have ya : ∀ x : Wd (Below wr.heap.size wr), x.w.cell? ⟨w.heap.size + 1, 10, none⟩ = some (.int .i64 (t.b 2)) := fun x => by rw [(bcell x.ok).1 _ _ hnd.t.lt]; exact hnd.t.c 10 _ rfl
            have yb : ∀ x : Wd (Below wr.heap.size wr), x.w.cell? ⟨w.heap.size + 1, 11, none⟩ = some (.int .i64 (t.b 3)) := fun x => by rw [(bcell x.ok).1 _ _ hnd.t.lt]; exact hnd.t.c 11 _ rfl
            have yc : ∀ x : Wd (Below wr.heap.size wr), x.w.cell? ⟨w.heap.size + 1, 12, none⟩ = some (.int .i64 t.d) := fun x => by rw [(bcell x.ok).1 _ _ hnd.t.lt]; exact hnd.t.c 12 _ rfl
            have HO : Hid (∀ x : Wd (Below wr.heap.size wr), Calls Tryd.prog 24 #[.slice oa ps[k].ops.length oc, .agg t.cells] x.w fun e w' => e = .returned (.bool (usesT t ps[k].ops)) ∧ Below x.w.heap.size x.w w') := fun x => usesT_any _ _ _ _ _ (h5.o.below (hnd.b.trans (x.ok.mono hnd.b.size)))
            have HY : Hid (∀ x : Wd (Below wr.heap.size wr), Calls Tryd.prog 24 #[.slice ba ps[k].body.length bc, .agg t.cells] x.w fun e w' => e = .returned (.bool (usesT t ps[k].body)) ∧ Below x.w.heap.size x.w w') := fun x => usesT_any _ _ _ _ _ (h5.b.below (hnd.b.trans (x.ok.mono hnd.b.size)))
            haveI inst : Nonempty (Wd (Below wr.heap.size wr)) := ⟨⟨wr, Below.refl _ _⟩⟩
            have HU : Hid (usesP t ps[k] = (usesT t ps[k].ops || usesT t ps[k].body)) := rfl
            have i1 : (0 : Int) ≤ (k : Int) := by omega
            have i2 : (k : Int) < ps.length := by omega
            clear hx hp hp' h5 HP hnd
            generalize usesT t ps[k].ops = g1 at *
            generalize usesT t ps[k].body = g2 at *
            generalize ps[k].ops.length = L1 at *
            generalize ps[k].body.length = L2 at *
            cases g1
            · cases g2
              · go_wp2
                refine wp_region_in (Below wr.heap.size wr) (by kernel_rfl) (by kernel_rfl) ((Below.refl _ _).drew) ?_
                repeat (first | go_big_quiet_step (first | (go_at_call_of 24 (Value.slice oa L1 oc); exact calls_in (Nat.le_refl _) _ (HO.out _)) | (go_at_call_of 24 (Value.slice ba L2 bc); exact calls_in (Nat.le_refl _) _ (HY.out _))))
                refine wpQuiet_nil ?_
                rintro _ ⟨x, rfl⟩
                have hx := x.ok
                go_wp2
                go_roundw
                case rel => exact ⟨k + 1, by omega, by go_num, fun j hj hjk => by
                  rcases Nat.lt_or_ge j k with h | h
                  · exact HK.out j hj h
                  · obtain rfl : j = k := by omega
                    rw [HU.out]; rfl, HD.out.go hx⟩
                case measure => simp [intOf]; omega
              · go_wp2
                refine wp_region_in (Below wr.heap.size wr) (by kernel_rfl) (by kernel_rfl) ((Below.refl _ _).drew) ?_
                repeat (first | go_big_quiet_step (first | (go_at_call_of 24 (Value.slice oa L1 oc); exact calls_in (Nat.le_refl _) _ (HO.out _)) | (go_at_call_of 24 (Value.slice ba L2 bc); exact calls_in (Nat.le_refl _) _ (HY.out _))))
                refine wpQuiet_nil ?_
                rintro _ ⟨x, rfl⟩
                have hx := x.ok
                go_wp2
                go_ret
                exact ⟨ret_int (by rw [← HR.out, any_at hlt (by rw [HU.out]; rfl)]; rfl), (HD.out.go hx).b⟩
            · go_wp2
              refine wp_region_in (Below wr.heap.size wr) (by kernel_rfl) (by kernel_rfl) ((Below.refl _ _).drew) ?_
              repeat (first | go_big_quiet_step (first | (go_at_call_of 24 (Value.slice oa L1 oc); exact calls_in (Nat.le_refl _) _ (HO.out _)) | (go_at_call_of 24 (Value.slice ba L2 bc); exact calls_in (Nat.le_refl _) _ (HY.out _))))
              refine wpQuiet_nil ?_
              rintro _ ⟨x, rfl⟩
              have hx := x.ok
              go_wp2
              go_ret
              exact ⟨ret_int (by rw [← HR.out, any_at hlt (by rw [HU.out]; rfl)]; rfl), (HD.out.go hx).b⟩
          · obtain rfl : k = ps.length := by omega
            clear hnd
            go_wp2
            go_ret
            exact ⟨ret_int (by rw [← HR.out, any_none fun j hj => HK.out j hj hj]; rfl), HD.out.b⟩
      · go_enter Tryd.func14, Tryd.ntmps14
        go_wp2_with (first
          | (go_at_call 11; refine Calls.mono (HC.out _ (by go_grown)) ?_; rintro e w1 ⟨rfl, hb⟩; have HN : Hid (Nd w w1 _ t) := Nd.start hb; have cp := HN.out.p.c 0 _ rfl; obtain ⟨c0, c1, c2, c3, c4, c5, c6, c7, c8, c9, ca, cb, cc⟩ := HN.out.t.t13; clear hb HC)
          | (go_at_call 23; refine Calls.mono (HT.out _ HN.out.b) ?_; rintro e w2 ⟨rfl, hb⟩; have HN2 : Hid (Nd w w2 _ t) := HN.out.go hb; clear HN cp c0 c1 c2 c3 c4 c5 c6 c7 c8 c9 ca cb cc; have c3 := HN2.out.t.c 3 _ rfl; clear hb HT))
        go_ret
        exact ⟨rfl, HN2.out.b⟩
    · rw [show ndE ps t = Tb.ckR t by simp [ndE, h1, h2]]
      rw [h1] at HC
      have h2' : (Tb.ckR t != 0) = true := by simp [h2]
      clear h1 h2
      go_enter Tryd.func14, Tryd.ntmps14
      go_wp2_with (first
        | (go_at_call 11; refine Calls.mono (HC.out _ (by go_grown)) ?_; rintro e w1 ⟨rfl, hb⟩; have HN : Hid (Nd w w1 _ t) := Nd.start hb; have cp := HN.out.p.c 0 _ rfl; obtain ⟨c0, c1, c2, c3, c4, c5, c6, c7, c8, c9, ca, cb, cc⟩ := HN.out.t.t13; clear hb HC)
        | (go_at_call 23; refine Calls.mono (HT.out _ HN.out.b) ?_; rintro e w2 ⟨rfl, hb⟩; have HN2 : Hid (Nd w w2 _ t) := HN.out.go hb; clear HN cp c0 c1 c2 c3 c4 c5 c6 c7 c8 c9 ca cb cc; clear hb HT))
      go_ret
      exact ⟨rfl, HN2.out.b⟩
  · rw [show ndE ps t = ckP ps by simp [ndE, h1]]
    have h1' : (ckP ps == 0) = false := by simp [h1]
    have h1'' : (ckP ps != 0) = true := by simp [h1]
    go_enter Tryd.func14, Tryd.ntmps14
    go_wp2_with (first
      | (go_at_call 11; refine Calls.mono (HC.out _ (by go_grown)) ?_; rintro e w1 ⟨rfl, hb⟩; have HN : Hid (Nd w w1 _ t) := Nd.start hb; have cp := HN.out.p.c 0 _ rfl; obtain ⟨c0, c1, c2, c3, c4, c5, c6, c7, c8, c9, ca, cb, cc⟩ := HN.out.t.t13; clear hb HC))
    go_ret
    exact ⟨rfl, HN.out.b⟩
end Go.Proofs.YtecfbnfbpamegaaDoor.Op
