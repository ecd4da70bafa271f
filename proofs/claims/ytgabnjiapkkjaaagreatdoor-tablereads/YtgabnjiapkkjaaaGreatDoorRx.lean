/- The reference's reader: one line. Conditions: as each row says. -/
import Derived.Test.YtgabnjiapkkjaaaGreatDoorRy
import Derived.Test.YtgabnjiapkkjaaaGreatDoorMc
namespace Go.Proofs.YtgabnjiapkkjaaaGreatDoor.Tb
open Go.ChangeShapes Go.WideShapes Go.ChangeAt Go.RowKit

/-- The reader's cells hold this state. -/
structure CSt (c : Nat → Value) (st : St) : Prop where
  u : ∀ k, k < 4 → c k = .int .i64 (st.t.u k)
  l : ∀ k, k < 4 → c (4 + k) = .int .i64 (st.t.l k)
  b : ∀ k, k < 4 → c (8 + k) = .int .i64 (st.t.b k)
  d : c 12 = .int .i64 st.t.d
  h : ∀ k, k < 5 → c (13 + k) = .bool (st.had k)
theorem CSt.old {c c' : Nat → Value} {st : St} (h : CSt c st) (hc : ∀ k, k < 18 → c' k = c k) : CSt c' st :=
  ⟨fun k hk => (hc _ (by omega)).trans (h.u k hk), fun k hk => (hc _ (by omega)).trans (h.l k hk), fun k hk => (hc _ (by omega)).trans (h.b k hk), (hc _ (by omega)).trans h.d, fun k hk => (hc _ (by omega)).trans (h.h k hk)⟩
theorem CSt.put {c : Nat → Value} {st : St} (h : CSt c st) (o : Nat) (v : Int) (ho : o < 13) : CSt (setC c o (.int .i64 v)) { st with t := st.t.put o v } := by
  refine ⟨fun k hk => ?_, fun k hk => ?_, fun k hk => ?_, ?_, fun k hk => ?_⟩
  · simp only [setC, Tab.put]
    by_cases e : k = o
    · rw [if_pos e, if_pos e.symm]
    · rw [if_neg e, if_neg (Ne.symm e)]; exact h.u k hk
  · simp only [setC, Tab.put]
    by_cases e : 4 + k = o
    · rw [if_pos e, if_pos e.symm]
    · rw [if_neg e, if_neg (Ne.symm e)]; exact h.l k hk
  · simp only [setC, Tab.put]
    by_cases e : 8 + k = o
    · rw [if_pos e, if_pos e.symm]
    · rw [if_neg e, if_neg (Ne.symm e)]; exact h.b k hk
  · simp only [setC, Tab.put]
    by_cases e : 12 = o
    · rw [if_pos e, if_pos e.symm]
    · rw [if_neg e, if_neg (Ne.symm e)]; exact h.d
  · simp only [setC]
    rw [if_neg (by omega)]; exact h.h k hk
theorem CSt.once {c : Nat → Value} {st : St} (h : CSt c st) (o : Nat) (ho : o < 5) : CSt (setC c (13 + o) (.bool true)) (st.have o) := by
  refine ⟨fun k hk => ?_, fun k hk => ?_, fun k hk => ?_, ?_, fun k hk => ?_⟩
  · simp only [setC]; rw [if_neg (by omega)]; exact h.u k hk
  · simp only [setC]; rw [if_neg (by omega)]; exact h.l k hk
  · simp only [setC]; rw [if_neg (by omega)]; exact h.b k hk
  · simp only [setC]; rw [if_neg (by omega)]; exact h.d
  · simp only [setC, St.have]
    by_cases e : o = k
    · rw [if_pos (by omega), if_pos e]
    · rw [if_neg (by omega), if_neg e]; exact h.h k hk
theorem FIs.set {c : Nat → Value} {f : Flt} (h : FIs c f) (o : Nat) (v : Value) (ho : o < 18) : FIs (setC c o v) f := by
  have e : ∀ k, 18 ≤ k → setC c o v k = c k := fun k hk => by simp only [setC]; rw [if_neg (by omega)]
  cases f with
  | none => exact (e 18 (by omega)).trans h
  | some x => exact ⟨(e 18 (by omega)).trans h.1, h.2.1, (e 19 (by omega)).trans h.2.2.1, (e 20 (by omega)).trans h.2.2.2⟩

def whichV (K cc : Nat) : Int := if K < cc then K else -1

theorem kind_inv (l : List UInt8) (k : Nat) (hk : k < 5) (h : kindL l = k) : l = nameL k := by
  unfold kindL at h
  split at h
  · subst h; assumption
  · split at h
    · subst h; assumption
    · split at h
      · subst h; assumption
      · split at h
        · subst h; assumption
        · split at h
          · subst h; assumption
          · omega
theorem kind_eq (l : List UInt8) (k : Nat) (hk : k < 5) : (l == nameL k) = decide (kindL l = k) := by
  rw [Bool.eq_iff_iff, beq_iff_eq, decide_eq_true_eq]
  exact ⟨fun h => by rw [h]; exact kind_name k hk, kind_inv l k hk⟩
theorem which_step (K cc : Nat) : (if K = cc then (cc : Int) else whichV K cc) = whichV K (cc + 1) := by
  unfold whichV
  by_cases h : K = cc
  · rw [if_pos h, if_pos (by omega), h]
  · rw [if_neg h]
    by_cases h2 : K < cc
    · rw [if_pos h2, if_pos (by omega)]
    · rw [if_neg h2, if_neg (by omega)]

set_option maxRecDepth 20000 in
set_option maxHeartbeats 2000000 in
theorem line_any (rb g cap en : Nat) (ws : List (Nat × List UInt8)) (c : Nat → Value) (st : St) (w : World) (hR : RdC w rb c) (hF : FIs c none) (hC : CSt c st) (hW : WsAt w g ws) (hg : g ≠ rb) (h0 : 0 < ws.length) (hn : ws.length ≤ 200000) (hws : ∀ x ∈ ws, x.2 ≠ [] ∧ x.2.length ≤ 200000) :
    Calls Tryz.prog 26 #[.pointer (some ⟨rb, 0, none⟩), .agg #[.slice (some ⟨g, 0, none⟩) ws.length cap, .int .i64 (en : Int)]] w fun ev w' => ev = .returned (.tuple #[]) ∧ ∃ c' st', RdC w' rb c' ∧ FIs c' (runW (wantsL ws) ws en st).1 ∧ CSt c' st' ∧ ((runW (wantsL ws) ws en st).1 = none → st' = (runW (wantsL ws) ws en st).2) ∧ But rb rb w w' := by
  have hWn : wantsL ws = wantsK (kindL ws[0].2) := by
    match ws, h0 with
    | x :: xs, _ => rfl
  rw [hWn]
  have hKe := kind_eq ws[0].2
  have hKle := kindL_le ws[0].2
  have hs0 := hW.s 0 h0
  have hgl := hW.lt
  obtain ⟨s0, hs0e⟩ : ∃ s0 : ByteArray, s0 = ⟨ws[0].2.toArray⟩ := ⟨_, rfl⟩
  rw [← hs0e] at hs0
  have hcmp : ∀ k, k < 5 → (s0.toList == (nameS k).toList) = decide (kindL ws[0].2 = k) := fun k hk => by rw [← hKe k hk, hs0e, ByteArray.toList_eq, ByteArray.toList_eq]; simp [nameS]
  generalize kindL ws[0].2 = K at *
  obtain ⟨w0, hw0⟩ : ∃ w0, w0 = w.alloc (.cells #[.slice (some ⟨g, 0, none⟩) ws.length cap, .int .i64 (en : Int)] 71) := ⟨_, rfl⟩
  have hA : Below w.heap.size w w0 := by rw [hw0]; exact (Below.refl _ _).alloc (Nat.le_refl _) _
  have hz0 : w0.heap.size = w.heap.size + 1 := by rw [hw0]; simp
  have b0 : w0.cell? ⟨w.heap.size, 0, none⟩ = some (.slice (some ⟨g, 0, none⟩) ws.length cap) := by rw [hw0]; exact look [.cells #[.slice (some ⟨g, 0, none⟩) ws.length cap, .int .i64 (en : Int)] 71] w 0 _ _ _ _ _ rfl rfl rfl
  have b1 : w0.cell? ⟨w.heap.size, 1, none⟩ = some (.int .i64 (en : Int)) := by rw [hw0]; exact look [.cells #[.slice (some ⟨g, 0, none⟩) ws.length cap, .int .i64 (en : Int)] 71] w 0 _ _ _ _ _ rfl rfl rfl
  have HR0 : Hid (RdC w0 rb c) := hR.below hA
  have HW0 : Hid (WsAt w0 g ws) := hW.but (But.of_below (hb := rb) (tb := rb) hA) hg
  have g0 : w0.cell? ⟨g, 0, none⟩ = some (.string s0) := by rw [(bcell hA).1 _ _ hgl]; exact hs0
  have HH : Hid (FIs c none ∧ CSt c st) := ⟨hF, hC⟩
  have HS : Hid (s0 = ⟨ws[0].2.toArray⟩ ∧ Below w.heap.size w w0 ∧ (∀ x ∈ ws, x.2 ≠ [] ∧ x.2.length ≤ 200000)) := ⟨hs0e, hA, hws⟩
  have Hcmp : Hid (∀ k, k < 5 → (s0.toList == (nameS k).toList) = decide (K = k)) := hcmp
  have hrb := hR.lt
  clear hR hF hC hW hWn hKe hs0 hcmp hs0e hA hws
  go_enter Tryz.func26, Tryz.ntmps26
  go_wp2
  rw [← hw0]
  go_loopw [4, 5] (fun u i wr => ∃ cc : Nat, cc ≤ 4 ∧ i = .int .i64 cc ∧ u = .int .i64 (whichV K cc) ∧ Below w0.heap.size w0 wr) (fun _ i _ => 4 - (intOf i).toNat)
  case atStart => exact ⟨0, by omega, rfl, rfl, Below.refl _ _⟩
  case round =>
    rename_i wr
    obtain ⟨cc, hcc, rfl, rfl, hbw⟩ := hrel
    by_cases hlt : cc < 4
    · have hc := Hcmp.out cc (by omega)
      have q0 : ∀ x : Wd (Below wr.heap.size wr), x.w.cell? ⟨w.heap.size, 0, none⟩ = some (.slice (some ⟨g, 0, none⟩) ws.length cap) := fun x => by
        have := hbw.size
        rw [(bcell x.ok).1 _ _ (by omega), (bcell hbw).1 _ _ (by omega)]; exact b0
      have q1 : ∀ x : Wd (Below wr.heap.size wr), x.w.cell? ⟨g, 0, none⟩ = some (.string s0) := fun x => by
        have := hbw.size
        rw [(bcell x.ok).1 _ _ (by omega), (bcell hbw).1 _ _ (by omega)]; exact g0
      haveI inst : Nonempty (Wd (Below wr.heap.size wr)) := ⟨⟨wr, Below.refl _ _⟩⟩
      have hst := which_step K cc
      have Hst : Hid _ := hst
      clear hst
      have HBW : Hid (Below w0.heap.size w0 wr) := hbw
      have hzw := hbw.size
      clear hbw b0 b1 g0
      by_cases hKc : K = cc
      · have hc' : (s0.toList == (nameS cc).toList) = true := by rw [hc]; simp [hKc]
        clear hc
        go_wp2
        refine wp_region_in (Below wr.heap.size wr) (by kernel_rfl) (by kernel_rfl) ((Below.refl _ _).drew) ?_
        repeat (first | go_big_quiet_step ((first | (go_at_call 20; exact calls_in (Nat.le_refl _) _ ((name_any _ _ hlt).mono fun _ _ h => ⟨h.1, h.2 ▸ Below.refl _ _⟩)))))
        refine wpQuiet_nil ?_
        rintro _ ⟨x, rfl⟩
        have hx := x.ok
        go_wp2
        go_roundw
        case rel => exact ⟨cc + 1, by omega, by go_num, by rw [← Hst.out, if_pos hKc], HBW.out.trans (hx.mono HBW.out.size)⟩
        case measure => simp [intOf]; omega
      · have hc' : (s0.toList == (nameS cc).toList) = false := by rw [hc]; simp [hKc]
        clear hc
        go_wp2
        refine wp_region_in (Below wr.heap.size wr) (by kernel_rfl) (by kernel_rfl) ((Below.refl _ _).drew) ?_
        repeat (first | go_big_quiet_step ((first | (go_at_call 20; exact calls_in (Nat.le_refl _) _ ((name_any _ _ hlt).mono fun _ _ h => ⟨h.1, h.2 ▸ Below.refl _ _⟩)))))
        refine wpQuiet_nil ?_
        rintro _ ⟨x, rfl⟩
        have hx := x.ok
        go_wp2
        go_roundw
        case rel => exact ⟨cc + 1, by omega, by go_num, by rw [← Hst.out, if_neg hKc], HBW.out.trans (hx.mono HBW.out.size)⟩
        case measure => simp [intOf]; omega
    · obtain rfl : cc = 4 := by omega
      have hbz := hbw.size
      have b0' : wr.cell? ⟨w.heap.size, 0, none⟩ = some (.slice (some ⟨g, 0, none⟩) ws.length cap) := by rw [(bcell hbw).1 _ _ (by omega)]; exact b0
      have b1' : wr.cell? ⟨w.heap.size, 1, none⟩ = some (.int .i64 (en : Int)) := by rw [(bcell hbw).1 _ _ (by omega)]; exact b1
      have g0' : wr.cell? ⟨g, 0, none⟩ = some (.string s0) := by rw [(bcell hbw).1 _ _ (by omega)]; exact g0
      have HRr : Hid (RdC wr rb c) := HR0.out.below hbw
      have HWr : Hid (WsAt wr g ws) := HW0.out.but (But.of_below (hb := rb) (tb := rb) hbw) hg
      have HBr : Hid (But rb rb w wr) := (But.of_below HS.out.2.1).trans (But.of_below hbw)
      have hd4 := Hcmp.out 4 (by omega)
      rw [show (nameS 4).toList = [100, 101, 108, 97, 121] from by rw [ByteArray.toList_eq]; rfl] at hd4
      have g1' : wr.cell? ⟨g, 1, none⟩ = some (.int .i64 (ws[0].1 : Int)) := HWr.out.a 0 h0
      clear hbw b0 b1 g0 HR0 HW0 Hcmp
      by_cases hK5 : K = 5
      · have hd4' : (s0.toList == [100, 101, 108, 97, 121]) = false := by rw [hd4, hK5]; rfl
        have hwv : whichV K 4 = -1 := by rw [hK5]; rfl
        have HRun : Hid (runW (wantsK K) ws en st = ((some (60, ws[0].1, ws[0].2), st) : Flt × St)) := by
          show _ = _
          rw [hK5]
          match ws, h0 with
          | x :: xs, _ => rfl
        have Hw : Hid (Calls Tryz.prog 36 #[.pointer (some ⟨rb, 0, none⟩), .int .i64 60, .agg #[.string s0, .int .i64 (ws[0].1 : Int)]] wr fun ev w' => ev = .returned (.tuple #[]) ∧ Step rb c (some (60, ws[0].1, ws[0].2)) wr w') := by
          have := wrong_any rb c none 60 ws[0].1 ws[0].2 wr HRr.out HH.out.1 (by decide)
          rw [HS.out.1]; exact this
        clear hd4
        rw [hwv]
        go_wp2_with (first | (go_at_call 36; refine Calls.mono Hw.out ?_; rintro e w9 ⟨rfl, hS9⟩))
        first | go_end0 | (refine bodyPost_ret (results_none rfl _ _ _) rfl ?_)
        obtain ⟨c9, k1, k2, k3, k4⟩ := hS9
        rw [HRun.out]
        exact ⟨rfl, c9, st, k1, k2, HH.out.2.old k3, (fun h => by cases h), HBr.out.trans k4⟩
      · by_cases hK4 : K = 4
        · have hd4' : (s0.toList == [100, 101, 108, 97, 121]) = true := by rw [hd4, hK4]; rfl
          have hwv : whichV K 4 = -1 := by rw [hK4]; rfl
          have hsn : wr.cell? ⟨rb, 17, none⟩ = some (.bool (st.had 4)) := by rw [HRr.out.c _ (by omega)]; exact congrArg some (HH.out.2.h 4 (by omega))
          have hsf : wr.frozen? ⟨rb, 17, none⟩ = false := HRr.out.f _ (by omega)
          clear hd4
          rw [hwv]
          cases hh : st.had 4
          · rw [hh] at hsn
            have HB1 : Hid (But rb rb wr (wr.setCell ⟨rb, 17, none⟩ (.bool true))) := But.setCell _ (.inl rfl)
            have HR1 : Hid (RdC (wr.setCell ⟨rb, 17, none⟩ (.bool true)) rb (setC c 17 (.bool true))) := HRr.out.set _ _ (by omega)
            have HC1 : Hid (FIs (setC c 17 (.bool true)) none ∧ CSt (setC c 17 (.bool true)) (st.have 4)) := ⟨HH.out.1.set _ _ (by omega), HH.out.2.once 4 (by omega)⟩
            have HW1 : Hid (WsAt (wr.setCell ⟨rb, 17, none⟩ (.bool true)) g ws) := HWr.out.but HB1.out hg
            have Hn1 : Hid _ := number_any rb g cap 1 en ws (setC c 17 (.bool true)) none 0 4 (wr.setCell ⟨rb, 17, none⟩ (.bool true)) HR1.out HC1.out.1 HW1.out hn (by omega) (by decide) HS.out.2.2
            have nb : (⟨rb, 17, none⟩ : Addr) ≠ ⟨w.heap.size, 0, none⟩ := addr_ne (.inl (by omega))
            have nb1 : (⟨rb, 17, none⟩ : Addr) ≠ ⟨w.heap.size, 1, none⟩ := addr_ne (.inl (by omega))
            go_wp2_with (first | (go_at_call 37; refine Calls.mono Hn1.out ?_; rintro e wn ⟨v1, rfl, ⟨cn, hRn, hFn, hcn, hB⟩, hv1⟩; have hkn := hRn.c 12 (by omega); have hfn := hRn.f 12 (by omega); refine Hid.out ?_))
            refine Lib.hid ?_
            have q0 : (wn.setCell ⟨rb, 12, none⟩ (.int .i64 v1)).cell? ⟨w.heap.size, 0, none⟩ = some (.slice (some ⟨g, 0, none⟩) ws.length cap) := (set_other (addr_ne (.inl (by omega)))).trans ((hB.cell (b := w.heap.size) (by simp; omega) (by omega) (by omega)).trans ((set_other nb).trans b0'))
            have hB' : But rb rb wr (wn.setCell ⟨rb, 12, none⟩ (.int .i64 v1)) := HB1.out.trans (hB.trans (But.setCell _ (.inl rfl)))
            have HB7 : Hid (But rb rb wr (wn.setCell ⟨rb, 12, none⟩ (.int .i64 v1))) := hB'
            have HR7 : Hid (RdC (wn.setCell ⟨rb, 12, none⟩ (.int .i64 v1)) rb (setC cn 12 (.int .i64 v1))) := hRn.set _ _ (by omega)
            have HW7 : Hid (WsAt (wn.setCell ⟨rb, 12, none⟩ (.int .i64 v1)) g ws) := HWr.out.but hB' hg
            have HC7 : Hid (FIs (setC cn 12 (.int .i64 v1)) (numF ws 1 0 4 en) ∧ CSt (setC cn 12 (.int .i64 v1)) ({ st.have 4 with t := (st.have 4).t.put 12 v1 } : St)) := ⟨hFn.set _ _ (by omega), (HC1.out.2.old hcn).put _ _ (by omega)⟩
            have HM : Hid ((runW (wantsK K) ws en st).1 = (numF ws 1 0 4 en).or (lastF ws 2) ∧ ((numF ws 1 0 4 en).or (lastF ws 2) = none → (runW (wantsK K) ws en st).2 = ⟨(st.have 4).had, (st.have 4).t.put 12 v1⟩)) := by rw [hK4]; exact chain_delay ws en st hh h0 v1 _ rfl hv1
            clear hRn hFn hcn hB hB' hv1 HB1 HR1 HC1 HW1 Hn1 HRr HWr hwv hK4 hK5
            by_cases hlong : 2 < ws.length
            · have hm1 := HW7.out.s 2 hlong
              have hm2 := HW7.out.a 2 hlong
              have hgz : g < (wn.setCell ⟨rb, 12, none⟩ (.int .i64 v1)).heap.size := HW7.out.lt
              have Hw : Hid (Calls Tryz.prog 36 #[.pointer (some ⟨rb, 0, none⟩), .int .i64 60, .agg #[.string ⟨ws[2].2.toArray⟩, .int .i64 (ws[2].1 : Int)]] (wn.setCell ⟨rb, 12, none⟩ (.int .i64 v1)) fun ev w' => ev = .returned (.tuple #[]) ∧ Step rb (setC cn 12 (.int .i64 v1)) ((numF ws 1 0 4 en).or (some (60, ws[2].1, ws[2].2))) (wn.setCell ⟨rb, 12, none⟩ (.int .i64 v1)) w') := wrong_any rb (setC cn 12 (.int .i64 v1)) (numF ws 1 0 4 en) 60 ws[2].1 ws[2].2 (wn.setCell ⟨rb, 12, none⟩ (.int .i64 v1)) HR7.out HC7.out.1 (by decide)
              have hlast : lastF ws 2 = (some (60, ws[2].1, ws[2].2) : Flt) := by rw [lastF, List.getElem?_eq_getElem hlong]; rfl
              have HL : Hid _ := hlast
              clear hlast
              go_wp2_with (first | (go_at_call 36; refine Calls.mono Hw.out ?_; rintro e w9 ⟨rfl, hS9⟩))
              first | go_end0 | (refine bodyPost_ret (results_none rfl _ _ _) rfl ?_)
              obtain ⟨c9, k1, k2, k3, k4⟩ := hS9
              have hm := HM.out
              rw [HL.out] at hm
              rw [hm.1]
              exact ⟨rfl, c9, ({ st.have 4 with t := (st.have 4).t.put 12 v1 } : St), k1, k2, HC7.out.2.old k3, (fun h => (hm.2 h).symm), HBr.out.trans (HB7.out.trans k4)⟩
            · have hlast : lastF ws 2 = none := by rw [lastF, List.getElem?_eq_none (by omega)]; rfl
              have HL : Hid _ := hlast
              clear hlast
              go_wp2
              first | go_end0 | (refine bodyPost_ret (results_none rfl _ _ _) rfl ?_)
              have hm := HM.out
              rw [HL.out, Option.or_none] at hm
              rw [hm.1]
              exact ⟨rfl, (setC cn 12 (.int .i64 v1)), HR7.out, HC7.out.1, ({ st.have 4 with t := (st.have 4).t.put 12 v1 } : St), HC7.out.2, (fun h => (hm.2 h).symm), HBr.out.trans HB7.out⟩
          · rw [hh] at hsn
            have HRun : Hid (runW (wantsK K) ws en st = ((some (60, ws[0].1, ws[0].2), st) : Flt × St)) := by
              show _ = _
              rw [wantsK, if_neg hK5, if_pos hK4]
              match ws, h0 with
              | x :: xs, _ => simp [runW, Wk.code, Wk.next, wOnce, hh]
            have Hw : Hid (Calls Tryz.prog 36 #[.pointer (some ⟨rb, 0, none⟩), .int .i64 60, .agg #[.string s0, .int .i64 (ws[0].1 : Int)]] wr fun ev w' => ev = .returned (.tuple #[]) ∧ Step rb c (some (60, ws[0].1, ws[0].2)) wr w') := by
              have := wrong_any rb c none 60 ws[0].1 ws[0].2 wr HRr.out HH.out.1 (by decide)
              rw [HS.out.1]; exact this
            go_wp2_with (first | (go_at_call 36; refine Calls.mono Hw.out ?_; rintro e w9 ⟨rfl, hS9⟩))
            first | go_end0 | (refine bodyPost_ret (results_none rfl _ _ _) rfl ?_)
            obtain ⟨c9, k1, k2, k3, k4⟩ := hS9
            rw [HRun.out]
            exact ⟨rfl, c9, st, k1, k2, HH.out.2.old k3, (fun h => by cases h), HBr.out.trans k4⟩
        · have hK : K < 4 := by omega
          have hwv : whichV K 4 = (K : Int) := by unfold whichV; rw [if_pos hK]
          have hd4' : (s0.toList == [100, 101, 108, 97, 121]) = false := by rw [hd4]; simp [hK4]
          have i1 : (0 : Int) ≤ (K : Int) := by omega
          have i2 : (K : Int) < 4 := by omega
          have hsn : wr.cell? ⟨rb, 13 + K, none⟩ = some (.bool (st.had K)) := by rw [HRr.out.c _ (by omega), HH.out.2.h K (by omega)]
          have hsf : wr.frozen? ⟨rb, 13 + K, none⟩ = false := HRr.out.f _ (by omega)
          clear hd4
          rw [hwv]
          cases hh : st.had K
          · rw [hh] at hsn
            go_wp2
            obtain ⟨w1, hw1⟩ : ∃ w1, w1 = wr.setCell ⟨rb, 13 + K, none⟩ (.bool true) := ⟨_, rfl⟩
            have HB1 : Hid (But rb rb wr w1) := by rw [hw1]; exact But.setCell _ (.inl rfl)
            obtain ⟨c1, hc1⟩ : ∃ c1, c1 = setC c (13 + K) (.bool true) := ⟨_, rfl⟩
            have HR1 : Hid (RdC w1 rb c1) := by rw [hw1, hc1]; exact HRr.out.set _ _ (by omega)
            have hz1 : wr.heap.size ≤ w1.heap.size := HB1.out.size
            have x1 : w1.cell? ⟨w.heap.size, 0, none⟩ = some (.slice (some ⟨g, 0, none⟩) ws.length cap) := (HB1.out.cell (by omega) (by omega) (by omega)).trans b0'
            have y1 : w1.cell? ⟨w.heap.size, 1, none⟩ = some (.int .i64 (en : Int)) := (HB1.out.cell (by omega) (by omega) (by omega)).trans b1'
            have HW1 : Hid (WsAt w1 g ws) := HWr.out.but HB1.out hg
            have HC1 : Hid (FIs c1 none ∧ CSt c1 (st.have K)) := by rw [hc1]; exact ⟨HH.out.1.set _ _ (by omega), HH.out.2.once K (by omega)⟩
            obtain ⟨f1, hf1⟩ : ∃ f1 : Flt, f1 = none := ⟨_, rfl⟩
            obtain ⟨s1, hs1⟩ : ∃ s1, s1 = st.have K := ⟨_, rfl⟩
            rw [← hf1, ← hs1] at HC1
            rw [← hw1]
            clear hw1 hsn hsf b0' b1' g0' g1' HRr HWr hc1
            have Hn1 : Hid _ := number_any rb g cap 1 en ws c1 f1 0 8 w1.drew (HR1.out.below (Below.refl _ _).drew) HC1.out.1 (HW1.out.but (But.of_below (hb := rb) (tb := rb) (Below.refl _ _).drew) hg) hn (by omega) (by decide) HS.out.2.2
            go_region_held3 (fun w' => w'.cell? ⟨w.heap.size, 0, none⟩ = some (.slice (some ⟨g, 0, none⟩) ws.length cap) ∧ w'.cell? ⟨w.heap.size, 1, none⟩ = some (.int .i64 (en : Int)))
              (first | (go_keep; done) | ((try dsimp only); (refine ⟨?_, ?_⟩ <;> (first | exact (set_other (addr_ne (.inl (by omega)))).trans ((hB.cell (b := w.heap.size) (by omega) (by omega) (by omega)).trans x1) | exact (set_other (addr_ne (.inl (by omega)))).trans ((hB.cell (b := w.heap.size) (by omega) (by omega) (by omega)).trans y1) | exact (hB.cell (b := w.heap.size) (by omega) (by omega) (by omega)).trans x1 | exact (hB.cell (b := w.heap.size) (by omega) (by omega) (by omega)).trans y1))))
              (first | (go_at_call 37; refine Calls.mono Hn1.out ?_; rintro e wn ⟨v1, rfl, ⟨cn, hRn, hFn, hcn, hBd⟩, hv1⟩; have hB : But rb rb w1 wn := (But.of_below (Below.refl _ _).drew).trans hBd; have hkn := hRn.c (K) (by omega); have hfn := hRn.f (K) (by omega)))
            obtain ⟨w2, hw2⟩ : ∃ w2, w2 = wn.setCell ⟨rb, K, none⟩ (.int .i64 v1) := ⟨_, rfl⟩
            have HB2 : Hid (But rb rb wr w2) := by rw [hw2]; exact HB1.out.trans (hB.trans (But.setCell _ (.inl rfl)))
            obtain ⟨c2, hc2⟩ : ∃ c2, c2 = setC cn (K) (.int .i64 v1) := ⟨_, rfl⟩
            have HR2 : Hid (RdC w2 rb c2) := by rw [hw2, hc2]; exact hRn.set _ _ (by omega)
            have hz2 : wr.heap.size ≤ w2.heap.size := HB2.out.size
            have x2 : w2.cell? ⟨w.heap.size, 0, none⟩ = some (.slice (some ⟨g, 0, none⟩) ws.length cap) := by rw [hw2]; exact (set_other (addr_ne (.inl (by omega)))).trans ((hB.cell (b := w.heap.size) (by omega) (by omega) (by omega)).trans x1)
            have y2 : w2.cell? ⟨w.heap.size, 1, none⟩ = some (.int .i64 (en : Int)) := by rw [hw2]; exact (set_other (addr_ne (.inl (by omega)))).trans ((hB.cell (b := w.heap.size) (by omega) (by omega) (by omega)).trans y1)
            have HW2 : Hid (WsAt w2 g ws) := by rw [hw2]; exact (HW1.out.but hB hg).but (But.setCell _ (.inl rfl)) hg
            obtain ⟨f2, hf2⟩ : ∃ f2 : Flt, f2 = f1.or (numF ws 1 0 8 en) := ⟨_, rfl⟩
            obtain ⟨s2, hs2⟩ : ∃ s2 : St, s2 = { s1 with t := s1.t.put (K) v1 } := ⟨_, rfl⟩
            have HC2 : Hid (FIs c2 f2 ∧ CSt c2 s2) := by rw [hc2, hf2, hs2]; exact ⟨hFn.set _ _ (by omega), (HC1.out.2.old hcn).put _ _ (by omega)⟩
            have HV2 : Hid (f2 = none → ∀ x, ws[1]? = some x → v1 = (decV x.2 : Int)) := by rw [hf2]; exact hv1
            rw [← hw2]
            clear hw2 hc2 hv1 hkn hfn hRn hFn hcn hBd hB HB1 HR1 x1 y1 HW1 HC1 Hn1
            have Hn2 : Hid _ := word_any rb g cap 2 en ws c2 f2 [108, 97, 116] w2 HR2.out HC2.out.1 HW2.out hn (by omega)
            go_wp2_with (first | (go_at_call 38; refine Calls.mono Hn2.out ?_; rintro e w3 ⟨rfl, c3, hRn, hFn, hcn, hB⟩; refine Hid.out ?_))
            refine Lib.hid ?_
            have HB3 : Hid (But rb rb wr w3) := HB2.out.trans hB
            have HR3 : Hid (RdC w3 rb c3) := hRn
            have hz3 : wr.heap.size ≤ w3.heap.size := HB3.out.size
            have x3 : w3.cell? ⟨w.heap.size, 0, none⟩ = some (.slice (some ⟨g, 0, none⟩) ws.length cap) := (hB.cell (b := w.heap.size) (by omega) (by omega) (by omega)).trans x2
            have y3 : w3.cell? ⟨w.heap.size, 1, none⟩ = some (.int .i64 (en : Int)) := (hB.cell (b := w.heap.size) (by omega) (by omega) (by omega)).trans y2
            have HW3 : Hid (WsAt w3 g ws) := HW2.out.but hB hg
            obtain ⟨f3, hf3⟩ : ∃ f3 : Flt, f3 = f2.or (wrdF ws 2 [108, 97, 116] en) := ⟨_, rfl⟩
            obtain ⟨s3, hs3⟩ : ∃ s3 : St, s3 = s2 := ⟨_, rfl⟩
            have HC3 : Hid (FIs c3 f3 ∧ CSt c3 s3) := by rw [hf3, hs3]; exact ⟨hFn, HC2.out.2.old hcn⟩
            clear hRn hFn hcn hB HB2 HR2 x2 y2 HW2 HC2 Hn2
            go_wp2
            have Hn3 : Hid _ := number_any rb g cap 3 en ws c3 f3 1 8 w3.drew (HR3.out.below (Below.refl _ _).drew) HC3.out.1 (HW3.out.but (But.of_below (hb := rb) (tb := rb) (Below.refl _ _).drew) hg) hn (by omega) (by decide) HS.out.2.2
            go_region_held3 (fun w' => w'.cell? ⟨w.heap.size, 0, none⟩ = some (.slice (some ⟨g, 0, none⟩) ws.length cap) ∧ w'.cell? ⟨w.heap.size, 1, none⟩ = some (.int .i64 (en : Int)))
              (first | (go_keep; done) | ((try dsimp only); (refine ⟨?_, ?_⟩ <;> (first | exact (set_other (addr_ne (.inl (by omega)))).trans ((hB.cell (b := w.heap.size) (by omega) (by omega) (by omega)).trans x3) | exact (set_other (addr_ne (.inl (by omega)))).trans ((hB.cell (b := w.heap.size) (by omega) (by omega) (by omega)).trans y3) | exact (hB.cell (b := w.heap.size) (by omega) (by omega) (by omega)).trans x3 | exact (hB.cell (b := w.heap.size) (by omega) (by omega) (by omega)).trans y3))))
              (first | (go_at_call 37; refine Calls.mono Hn3.out ?_; rintro e wn ⟨v3, rfl, ⟨cn, hRn, hFn, hcn, hBd⟩, hv3⟩; have hB : But rb rb w3 wn := (But.of_below (Below.refl _ _).drew).trans hBd; have hkn := hRn.c (4 + K) (by omega); have hfn := hRn.f (4 + K) (by omega)))
            obtain ⟨w4, hw4⟩ : ∃ w4, w4 = wn.setCell ⟨rb, 4 + K, none⟩ (.int .i64 v3) := ⟨_, rfl⟩
            have HB4 : Hid (But rb rb wr w4) := by rw [hw4]; exact HB3.out.trans (hB.trans (But.setCell _ (.inl rfl)))
            obtain ⟨c4, hc4⟩ : ∃ c4, c4 = setC cn (4 + K) (.int .i64 v3) := ⟨_, rfl⟩
            have HR4 : Hid (RdC w4 rb c4) := by rw [hw4, hc4]; exact hRn.set _ _ (by omega)
            have hz4 : wr.heap.size ≤ w4.heap.size := HB4.out.size
            have x4 : w4.cell? ⟨w.heap.size, 0, none⟩ = some (.slice (some ⟨g, 0, none⟩) ws.length cap) := by rw [hw4]; exact (set_other (addr_ne (.inl (by omega)))).trans ((hB.cell (b := w.heap.size) (by omega) (by omega) (by omega)).trans x3)
            have y4 : w4.cell? ⟨w.heap.size, 1, none⟩ = some (.int .i64 (en : Int)) := by rw [hw4]; exact (set_other (addr_ne (.inl (by omega)))).trans ((hB.cell (b := w.heap.size) (by omega) (by omega) (by omega)).trans y3)
            have HW4 : Hid (WsAt w4 g ws) := by rw [hw4]; exact (HW3.out.but hB hg).but (But.setCell _ (.inl rfl)) hg
            obtain ⟨f4, hf4⟩ : ∃ f4 : Flt, f4 = f3.or (numF ws 3 1 8 en) := ⟨_, rfl⟩
            obtain ⟨s4, hs4⟩ : ∃ s4 : St, s4 = { s3 with t := s3.t.put (4 + K) v3 } := ⟨_, rfl⟩
            have HC4 : Hid (FIs c4 f4 ∧ CSt c4 s4) := by rw [hc4, hf4, hs4]; exact ⟨hFn.set _ _ (by omega), (HC3.out.2.old hcn).put _ _ (by omega)⟩
            have HV4 : Hid (f4 = none → ∀ x, ws[3]? = some x → v3 = (decV x.2 : Int)) := by rw [hf4]; exact hv3
            rw [← hw4]
            clear hw4 hc4 hv3 hkn hfn hRn hFn hcn hBd hB HB3 HR3 x3 y3 HW3 HC3 Hn3
            have Hn4 : Hid _ := word_any rb g cap 4 en ws c4 f4 [98, 117, 115, 121] w4 HR4.out HC4.out.1 HW4.out hn (by omega)
            go_wp2_with (first | (go_at_call 38; refine Calls.mono Hn4.out ?_; rintro e w5 ⟨rfl, c5, hRn, hFn, hcn, hB⟩; refine Hid.out ?_))
            refine Lib.hid ?_
            have HB5 : Hid (But rb rb wr w5) := HB4.out.trans hB
            have HR5 : Hid (RdC w5 rb c5) := hRn
            have hz5 : wr.heap.size ≤ w5.heap.size := HB5.out.size
            have x5 : w5.cell? ⟨w.heap.size, 0, none⟩ = some (.slice (some ⟨g, 0, none⟩) ws.length cap) := (hB.cell (b := w.heap.size) (by omega) (by omega) (by omega)).trans x4
            have y5 : w5.cell? ⟨w.heap.size, 1, none⟩ = some (.int .i64 (en : Int)) := (hB.cell (b := w.heap.size) (by omega) (by omega) (by omega)).trans y4
            have HW5 : Hid (WsAt w5 g ws) := HW4.out.but hB hg
            obtain ⟨f5, hf5⟩ : ∃ f5 : Flt, f5 = f4.or (wrdF ws 4 [98, 117, 115, 121] en) := ⟨_, rfl⟩
            obtain ⟨s5, hs5⟩ : ∃ s5 : St, s5 = s4 := ⟨_, rfl⟩
            have HC5 : Hid (FIs c5 f5 ∧ CSt c5 s5) := by rw [hf5, hs5]; exact ⟨hFn, HC4.out.2.old hcn⟩
            clear hRn hFn hcn hB HB4 HR4 x4 y4 HW4 HC4 Hn4
            go_wp2
            have Hn5 : Hid _ := number_any rb g cap 5 en ws c5 f5 1 4 w5.drew (HR5.out.below (Below.refl _ _).drew) HC5.out.1 (HW5.out.but (But.of_below (hb := rb) (tb := rb) (Below.refl _ _).drew) hg) hn (by omega) (by decide) HS.out.2.2
            go_region_held3 (fun w' => w'.cell? ⟨w.heap.size, 0, none⟩ = some (.slice (some ⟨g, 0, none⟩) ws.length cap) ∧ w'.cell? ⟨w.heap.size, 1, none⟩ = some (.int .i64 (en : Int)))
              (first | (go_keep; done) | ((try dsimp only); (refine ⟨?_, ?_⟩ <;> (first | exact (set_other (addr_ne (.inl (by omega)))).trans ((hB.cell (b := w.heap.size) (by omega) (by omega) (by omega)).trans x5) | exact (set_other (addr_ne (.inl (by omega)))).trans ((hB.cell (b := w.heap.size) (by omega) (by omega) (by omega)).trans y5) | exact (hB.cell (b := w.heap.size) (by omega) (by omega) (by omega)).trans x5 | exact (hB.cell (b := w.heap.size) (by omega) (by omega) (by omega)).trans y5))))
              (first | (go_at_call 37; refine Calls.mono Hn5.out ?_; rintro e wn ⟨v5, rfl, ⟨cn, hRn, hFn, hcn, hBd⟩, hv5⟩; have hB : But rb rb w5 wn := (But.of_below (Below.refl _ _).drew).trans hBd; have hkn := hRn.c (8 + K) (by omega); have hfn := hRn.f (8 + K) (by omega)))
            obtain ⟨w6, hw6⟩ : ∃ w6, w6 = wn.setCell ⟨rb, 8 + K, none⟩ (.int .i64 v5) := ⟨_, rfl⟩
            have HB6 : Hid (But rb rb wr w6) := by rw [hw6]; exact HB5.out.trans (hB.trans (But.setCell _ (.inl rfl)))
            obtain ⟨c6, hc6⟩ : ∃ c6, c6 = setC cn (8 + K) (.int .i64 v5) := ⟨_, rfl⟩
            have HR6 : Hid (RdC w6 rb c6) := by rw [hw6, hc6]; exact hRn.set _ _ (by omega)
            have hz6 : wr.heap.size ≤ w6.heap.size := HB6.out.size
            have x6 : w6.cell? ⟨w.heap.size, 0, none⟩ = some (.slice (some ⟨g, 0, none⟩) ws.length cap) := by rw [hw6]; exact (set_other (addr_ne (.inl (by omega)))).trans ((hB.cell (b := w.heap.size) (by omega) (by omega) (by omega)).trans x5)
            have y6 : w6.cell? ⟨w.heap.size, 1, none⟩ = some (.int .i64 (en : Int)) := by rw [hw6]; exact (set_other (addr_ne (.inl (by omega)))).trans ((hB.cell (b := w.heap.size) (by omega) (by omega) (by omega)).trans y5)
            have HW6 : Hid (WsAt w6 g ws) := by rw [hw6]; exact (HW5.out.but hB hg).but (But.setCell _ (.inl rfl)) hg
            obtain ⟨f6, hf6⟩ : ∃ f6 : Flt, f6 = f5.or (numF ws 5 1 4 en) := ⟨_, rfl⟩
            obtain ⟨s6, hs6⟩ : ∃ s6 : St, s6 = { s5 with t := s5.t.put (8 + K) v5 } := ⟨_, rfl⟩
            have HC6 : Hid (FIs c6 f6 ∧ CSt c6 s6) := by rw [hc6, hf6, hs6]; exact ⟨hFn.set _ _ (by omega), (HC5.out.2.old hcn).put _ _ (by omega)⟩
            have HV6 : Hid (f6 = none → ∀ x, ws[5]? = some x → v5 = (decV x.2 : Int)) := by rw [hf6]; exact hv5
            rw [← hw6]
            clear hw6 hc6 hv5 hkn hfn hRn hFn hcn hBd hB HB5 HR5 x5 y5 HW5 HC5 Hn5
            have HM : Hid _ := chain_class K ws en st hK hh h0 v1 v3 v5 f2 f3 f4 f5 f6 (by rw [hf2, hf1]; rfl) hf3 hf4 hf5 hf6 HV2.out HV4.out HV6.out
            have HE : Hid (s6 = ⟨(st.have K).had, (((st.have K).t.put K v1).put (4 + K) v3).put (8 + K) v5⟩) := by show _ = _; rw [hs6, hs5, hs4, hs3, hs2, hs1]
            clear hf1 hf2 hf3 hf4 hf5 hf6 hs1 hs2 hs3 hs4 hs5 hs6 HV2 HV4 HV6
            have HF : Hid (FIs c6 f6 ∧ CSt c6 s6) := HC6.out
            by_cases hlong : 6 < ws.length
            · have hm1 := HW6.out.s 6 hlong
              have hm2 := HW6.out.a 6 hlong
              have hgz : g < w6.heap.size := HW6.out.lt
              have Hw : Hid (Calls Tryz.prog 36 #[.pointer (some ⟨rb, 0, none⟩), .int .i64 60, .agg #[.string ⟨ws[6].2.toArray⟩, .int .i64 (ws[6].1 : Int)]] w6 fun ev w' => ev = .returned (.tuple #[]) ∧ Step rb c6 (f6.or (some (60, ws[6].1, ws[6].2))) w6 w') := wrong_any rb c6 f6 60 ws[6].1 ws[6].2 w6 HR6.out HC6.out.1 (by decide)
              have hlast : lastF ws 6 = (some (60, ws[6].1, ws[6].2) : Flt) := by rw [lastF, List.getElem?_eq_getElem hlong]; rfl
              have HL : Hid _ := hlast
              clear hlast
              go_wp2_with (first | (go_at_call 36; refine Calls.mono Hw.out ?_; rintro e w9 ⟨rfl, hS9⟩))
              first | go_end0 | (refine bodyPost_ret (results_none rfl _ _ _) rfl ?_)
              obtain ⟨c9, k1, k2, k3, k4⟩ := hS9
              have hm := HM.out
              rw [HL.out] at hm
              rw [hm.1]
              exact ⟨rfl, c9, s6, k1, k2, HC6.out.2.old k3, (fun h => (HE.out.trans (hm.2 h).symm)), HBr.out.trans (HB6.out.trans k4)⟩
            · have hlast : lastF ws 6 = none := by rw [lastF, List.getElem?_eq_none (by omega)]; rfl
              have HL : Hid _ := hlast
              clear hlast
              go_wp2
              first | go_end0 | (refine bodyPost_ret (results_none rfl _ _ _) rfl ?_)
              have hm := HM.out
              rw [HL.out, Option.or_none] at hm
              rw [hm.1]
              exact ⟨rfl, c6, s6, HR6.out, HC6.out.1, HC6.out.2, (fun h => (HE.out.trans (hm.2 h).symm)), HBr.out.trans HB6.out⟩
          · rw [hh] at hsn
            have HRun : Hid (runW (wantsK K) ws en st = ((some (60, ws[0].1, ws[0].2), st) : Flt × St)) := by
              show _ = _
              rw [wantsK, if_neg hK5, if_neg hK4]
              match ws, h0 with
              | x :: xs, _ => simp [runW, Wk.code, Wk.next, wOnce, hh]
            have Hw : Hid (Calls Tryz.prog 36 #[.pointer (some ⟨rb, 0, none⟩), .int .i64 60, .agg #[.string s0, .int .i64 (ws[0].1 : Int)]] wr fun ev w' => ev = .returned (.tuple #[]) ∧ Step rb c (some (60, ws[0].1, ws[0].2)) wr w') := by
              have := wrong_any rb c none 60 ws[0].1 ws[0].2 wr HRr.out HH.out.1 (by decide)
              rw [HS.out.1]; exact this
            go_wp2_with (first | (go_at_call 36; refine Calls.mono Hw.out ?_; rintro e w9 ⟨rfl, hS9⟩))
            first | go_end0 | (refine bodyPost_ret (results_none rfl _ _ _) rfl ?_)
            obtain ⟨c9, k1, k2, k3, k4⟩ := hS9
            rw [HRun.out]
            exact ⟨rfl, c9, st, k1, k2, HH.out.2.old k3, (fun h => by cases h), HBr.out.trans k4⟩

end Go.Proofs.YtgabnjiapkkjaaaGreatDoor.Tb
