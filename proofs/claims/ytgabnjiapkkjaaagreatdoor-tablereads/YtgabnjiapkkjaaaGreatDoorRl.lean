/- What package table's readLines answers: no fault and the table, or the fault that comes first, read off the program by the walk. Conditions: the text has at most 65536 bytes; the variables lie in memory as the program lays them. -/
import Derived.Test.YtgabnjiapkkjaaaGreatDoorRe
namespace Go.Proofs.YtgabnjiapkkjaaaGreatDoor.Tb
open Go.ChangeShapes Go.WideShapes Go.ChangeAt Go.RowKit

theorem linesOf_form (s : ByteArray) (w : World) (hs : s.size ≤ 65536) (hE : Env w) :
    Calls Tryz.prog 32 #[.string s] w fun e w' => ∃ g cap, e = .returned (.slice (some ⟨g, 0, none⟩) (linesT s.data.toList).length cap) ∧ g < w'.heap.size ∧ LinesAt w' w.heap.size (.slice (some ⟨g, 0, none⟩) (linesT s.data.toList).length cap) (linesT s.data.toList) ∧ w.heap.size ≤ g ∧ Below w.heap.size w w' := by
  obtain ⟨mx, hm⟩ := hE.m
  refine (linesOf_any s mx w hs hm hE.G.big).mono ?_
  rintro e w' ⟨v, rfl, hL, hb⟩
  have hL' := hL
  obtain ⟨vs, h1, h2, h3⟩ := hL
  obtain ⟨g, cap, rfl, hg, hlt⟩ := h2.form (linesT_ne _)
  exact ⟨g, cap, rfl, hlt, hL', hg, hb⟩

theorem runL_go {ls : List (List (Nat × List UInt8) × Nat)} {j n : Nat} {st st' : St} {ws : List (Nat × List UInt8)} {e : Nat} (hj : j < ls.length) (hl : ls[j] = (ws, e)) (h : runW (wantsL ws) ws e st = (none, st')) : runL (ls.drop j) n st = runL (ls.drop (j + 1)) n st' := by
  rw [List.drop_eq_getElem_cons hj, hl, runL]
  simp only [h]
theorem runL_stop {ls : List (List (Nat × List UInt8) × Nat)} {j n : Nat} {st st' : St} {ws : List (Nat × List UInt8)} {e : Nat} {f : Int × Nat × List UInt8} (hj : j < ls.length) (hl : ls[j] = (ws, e)) (h : runW (wantsL ws) ws e st = (some f, st')) : runL (ls.drop j) n st = (some f, st') := by
  rw [List.drop_eq_getElem_cons hj, hl, runL]
  simp only [h]

theorem but_fin {tb : Nat} {w w2 w' : World} (h0 : Below w.heap.size w w2) (h : But w.heap.size tb w2 w') : But tb tb w w' :=
  ⟨h.os.trans h0.os, h.tape.trans h0.tape, h.output.trans h0.output, Nat.le_trans h0.size h.size, fun k hk h1 _ => (h.block k (Nat.lt_of_lt_of_le hk h0.size) (by omega) h1).trans (h0.block k hk)⟩

/-- What the call of a want leaves. -/
def WkPost (K : Wk) (l : List UInt8) (st : St) (hb tb : Nat) (w : World) (e : Ending) (w' : World) : Prop := e = .returned (.int .i64 (K.code l st)) ∧ StAt w' hb tb (K.next l st) ∧ But hb tb w w'
theorem want_call {K : Wk} {f : Value} {l : List UInt8} {st : St} {hb tb : Nat} {w : World} {tp : TypeId} {q : Value} (hWa : WantAt w hb tb f K) (hS : StAt w hb tb st) (hvar : w.var? Tryz.prog "strconv.ErrRange" = some #[.iface tp q]) (h0 : l ≠ []) (hs : l.length ≤ 200000) :
    (f = .func (.func 69) #[] #[] ∧ Calls Tryz.prog 69 #[.string ⟨l.toArray⟩] w (WkPost K l st hb tb w)) ∨
    (∃ c, f = .func (.func 70) #[] #[.pointer (some ⟨c, 0, none⟩)] ∧ Calls Tryz.prog 70 #[.string ⟨l.toArray⟩, .pointer (some ⟨c, 0, none⟩)] w (WkPost K l st hb tb w)) ∨
    (∃ cw ct, f = .func (.func 71) #[] #[.pointer (some ⟨cw, 0, none⟩), .pointer (some ⟨ct, 0, none⟩)] ∧ Calls Tryz.prog 71 #[.string ⟨l.toArray⟩, .pointer (some ⟨cw, 0, none⟩), .pointer (some ⟨ct, 0, none⟩)] w (WkPost K l st hb tb w)) ∨
    (∃ c, f = .func (.func 74) #[] #[.pointer (some ⟨c, 0, none⟩)] ∧ Calls Tryz.prog 74 #[.string ⟨l.toArray⟩, .pointer (some ⟨c, 0, none⟩)] w (WkPost K l st hb tb w)) := by
  rcases hWa with ⟨h1, h2⟩ | ⟨h1, h2, c, h3, h4, h5, h6, h7⟩ | ⟨h1, h2, h3, cw, ct, h4, h5, h6, h7, h8, h9, h10, h11, h12, h13⟩ | ⟨h1, c, h3, h4, h5, h6, h7⟩
  · exact .inl ⟨h2, w0_call K l st hb tb w h1 hS⟩
  · exact .inr (.inl ⟨c, h3, w1_call K l st hb tb c w h1 h2 hS h4⟩)
  · exact .inr (.inr (.inl ⟨cw, ct, h4, w2_call K l st hb tb cw ct tp q w h1 h2 h3 h0 hs hS hvar h5 h6 h7 h8 h9⟩))
  · exact .inr (.inr (.inr ⟨c, h3, w3_call K l st hb tb c w h1 hS h4⟩))

/-- What readLines leaves. -/
def RdPost (R : Option (Int × Nat × List UInt8) × St) (tb : Nat) (w : World) (e : Ending) (w' : World) : Prop :=
  (R.1 = none ∧ e = .returned (.pointer none) ∧ TabAt w' tb R.2.t ∧ But tb tb w w') ∨
  ∃ f q, R.1 = some f ∧ e = .returned (.pointer (some ⟨q, 0, none⟩)) ∧ FaultAt w' q f.1 (f.2.1 : Int) ⟨f.2.2.toArray⟩ ∧ w.heap.size ≤ q ∧ But tb tb w w'

set_option maxRecDepth 20000 in
set_option maxHeartbeats 4000000 in
theorem readLines_any (s : ByteArray) (tb : Nat) (t0 : Tab) (w : World) (hs : s.size ≤ 65536) (hE : Env w) (hT : TabAt w tb t0) (hTf : ∀ k, k < 13 → w.frozen? ⟨tb, k, none⟩ = false) (htb : 14 ≤ tb) :
    Calls Tryz.prog 24 #[.pointer (some ⟨tb, 0, none⟩), .string s] w (RdPost (runL (linesT s.data.toList) s.size ⟨fun _ => false, t0⟩) tb w) := by
  obtain ⟨W1, hW1⟩ : ∃ W1, W1 = w.alloc (.cells #[.bool false, .bool false, .bool false, .bool false, .bool false] 64) := ⟨_, rfl⟩
  have hb1 : Below w.heap.size w W1 := by rw [hW1]; exact (Below.refl _ _).alloc (Nat.le_refl _) _
  have hz1 : W1.heap.size = w.heap.size + 1 := by rw [hW1]; simp
  have hE1 := hE.below hb1 hE.G.big
  have hT1 := hT.below hb1 hT.lt
  have hlo := linesOf_form s W1 hs hE1
  have Hlo : Hid _ := hlo
  have hH : ∀ k, k < 5 → W1.cell? ⟨w.heap.size, k, none⟩ = some (.bool false) := by
    rw [hW1]
    intro k hk
    match k, hk with
    | 0, _ => simp
    | 1, _ => simp
    | 2, _ => simp
    | 3, _ => simp
    | 4, _ => simp
  have hHf : ∀ k, k < 5 → W1.frozen? ⟨w.heap.size, k, none⟩ = false := by
    rw [hW1]
    intro k hk
    simp
  have hS1 : Hid (StAt W1 w.heap.size tb ⟨fun _ => false, t0⟩) := ⟨hH, hHf, hT1, fun k hk => ((bcell hb1).2 _ _ hT.lt).trans (hTf k hk), by have := hT.lt; omega, by omega⟩
  have HB : Hid (Below w.heap.size w W1 ∧ W1.heap.size = w.heap.size + 1 ∧ Env W1 ∧ tb < w.heap.size ∧ 14 ≤ w.heap.size) := ⟨hb1, hz1, hE1, hT.lt, hE.G.big⟩
  have HW : Hid _ := hW1
  clear hlo hH hHf hT1 hE1 hz1 hb1 hE hT hTf hW1
  obtain ⟨ls, hls⟩ : ∃ ls, ls = linesT s.data.toList := ⟨_, rfl⟩
  have hlf : ∀ ln ∈ ls, ln.1.length ≤ s.size + 1 ∧ ∀ x ∈ ln.1, x.2 ≠ [] ∧ x.2.length ≤ s.size := by rw [hls]; exact line_facts s.data.toList
  have hlN : ls.length ≤ s.size + 1 := by rw [hls]; exact linesT_len s.data.toList
  have Hlf : Hid _ := hlf
  rw [← hls] at Hlo ⊢
  clear hls hlf
  obtain ⟨R, hR⟩ : ∃ R, R = runL ls s.size ⟨fun _ => false, t0⟩ := ⟨_, rfl⟩
  have HR : Hid (runL ls s.size ⟨fun _ => false, t0⟩ = R) := hR.symm
  rw [← hR]
  clear hR
  go_enter Tryz.func24, Tryz.ntmps24
  go_wp2
  go_step3
  go_wp2
  go_step3
  go_wp2_with (first | (rw [← HW.out]; go_at_call 32; refine Calls.mono Hlo.out ?_; rintro e w2 ⟨g, cap, rfl, hgl, hLi, hgz, hb2⟩))
  obtain ⟨hhb, htbl, h14, hS2, hE2, hLi2, hb02, hgne⟩ : w.heap.size < w2.heap.size ∧ tb < w.heap.size ∧ 14 ≤ w.heap.size ∧ StAt w2 w.heap.size tb ⟨fun _ => false, t0⟩ ∧ Env w2 ∧ LinesAt w2 (w.heap.size + 1) (.slice (some ⟨g, 0, none⟩) ls.length cap) ls ∧ Below w.heap.size w w2 ∧ w.heap.size < g := by
    obtain ⟨k1, k2, k3, k4, k5⟩ := HB.out
    have k6 := hb2.size
    rw [k2] at k6 hLi hgz
    exact ⟨by omega, k4, k5, hS1.out.below hb2, k3.below hb2 (by omega), hLi, k1.trans (hb2.mono (by omega)), by omega⟩
  have HX : Hid (LinesAt w2 (w.heap.size + 1) (.slice (some ⟨g, 0, none⟩) ls.length cap) ls ∧ Env w2 ∧ Below w.heap.size w w2) := ⟨hLi2, hE2, hb02⟩
  clear hLi hLi2 hE2 hb02 hb2 hgz HW Hlo HB hS1
  go_loopg [14] ls.length (fun n i wx => ∃ (j : Nat) (st : St), j + n = ls.length ∧ i = .int .i64 j ∧ Hid (runL (ls.drop j) s.size st = R) ∧ StAt wx w.heap.size tb st ∧ But w.heap.size tb w2 wx)
  case atStart => exact ⟨0, _, by omega, rfl, HR.out, hS2, But.refl _ _ _⟩
  case round =>
    rename World => wo
    obtain ⟨j, st, hjn, rfl, HRj, hS, hbx⟩ := hrel
    have HJ : Hid _ := hjn
    have hjle : j ≤ ls.length := by omega
    clear hjn
    have hLx := HX.out.1.but hbx (by omega) (by omega)
    have hEx := HX.out.2.1.but hbx (by omega) (by omega)
    have hszx := hbx.size
    by_cases hlt : j < ls.length
    · obtain ⟨u, cA, cB, hrow⟩ := line_get hLx j hlt
      have hlj := Hlf.out ls[j] (List.getElem_mem hlt)
      obtain ⟨ln, hln⟩ : ∃ ln, ln = ls[j] := ⟨_, rfl⟩
      rw [← hln] at cB hrow hlj
      obtain ⟨ws, e0⟩ := ln
      have HLn : Hid (ls[j] = (ws, e0)) := hln.symm
      clear hln
      have HE : Hid (Env wo ∧ LinesAt wo (w.heap.size + 1) (.slice (some ⟨g, 0, none⟩) ls.length cap) ls) := ⟨hEx, hLx⟩
      clear hEx hLx
      dsimp only at cB hrow hlj
      cases ws with
      | nil =>
        obtain ⟨a, c, rfl⟩ : ∃ a c, u = .slice a 0 c := by
          rcases hrow.2 with ⟨rfl, _⟩ | ⟨g', cap', cur, rfl, _⟩
          · exact ⟨none, 0, rfl⟩
          · exact ⟨_, _, rfl⟩
        clear hrow hlj
        have hgl2 : g < wo.heap.size := by omega
        go_wp2_with (first | (go_at_call 33; refine (wants_none a c _ tb w.heap.size _).mono ?_; rintro e w3 ⟨rfl, hb3⟩; have d0 := ((bcell hb3).1 wo.heap.size 0 (by simp)).trans (World.cell?_alloc_at _ _ _ _ rfl); have d1 := ((bcell hb3).1 wo.heap.size 1 (by simp)).trans (World.cell?_alloc_at _ _ _ _ rfl)))
        have hbz := hb3.size
        refine wp_loop_rounds 1 ?_
        rw [rounds_succ]; go_wp2
        go_roundg (gk - 1)
        case measure => have := HJ.out; omega
        case rel => exact ⟨j + 1, st, by have := HJ.out; omega, by go_num, (by rw [← runL_go hlt HLn.out (st' := st) rfl]; exact HRj.out : _ = _), hS.below (((Below.refl _ wo).alloc (Nat.le_refl _) _).trans (hb3.mono (by simp))), hbx.trans (But.of_below (((Below.refl _ wo).alloc (Nat.le_refl _) _).trans (hb3.mono (by simp))))⟩
      | cons x xs =>
        obtain ⟨g', c, rfl, hg'B, hg'l⟩ := hrow.form (by simp)
        have hwn : (x :: xs).length ≤ 65537 := by have := hlj.1; omega
        obtain ⟨ws, hws⟩ : ∃ ws, ws = x :: xs := ⟨_, rfl⟩
        have hx0 : wo.cell? ⟨g', 1, none⟩ = some (.string ⟨x.2.toArray⟩) := (word_get hrow 0 (by simp)).2
        have HK : Hid (wantsL ws = wantsK (kindL x.2)) := by
          have : wantsL ws = wantsK (kindL x.2) := by rw [hws]; rfl
          exact this
        have hwp : 0 < ws.length := by rw [hws]; simp
        rw [← hws] at hrow hlj cA HLn hwn
        clear hws
        obtain ⟨Ks, hKs⟩ : ∃ Ks, Ks = wantsK (kindL x.2) := ⟨_, rfl⟩
        have Hlj : Hid _ := hlj
        clear hlj
        have hbA : Below wo.heap.size wo (wo.alloc (.cells #[.slice (some ⟨g', 0, none⟩) ws.length c, .int .i64 e0] 84)) := (Below.refl _ wo).alloc (Nat.le_refl _) _
        have HEA : Hid (Env (wo.alloc (.cells #[.slice (some ⟨g', 0, none⟩) ws.length c, .int .i64 e0] 84))) := HE.out.1.below hbA (by omega)
        have hwo := wants_some g' ws.length c e0 x.2 tb w.heap.size (wo.alloc (.cells #[.slice (some ⟨g', 0, none⟩) ws.length c, .int .i64 e0] 84)) hwp HEA.out.N HEA.out.G ((look_old _ _ _ _ hg'l).trans hx0) (by simp; omega) (by simp; omega) (by simp; omega)
        rw [← hKs] at hwo HK
        have hkp : 0 < Ks.length := by
          rw [hKs]; unfold wantsK; repeat' split
          all_goals simp
        have hk6 : Ks.length ≤ 6 := by
          rw [hKs]; unfold wantsK; repeat' split
          all_goals simp
        have Hwo : Hid _ := hwo
        clear hwo hKs hx0 hbA
        have hgl2 : g < wo.heap.size := by omega
        go_wp2_with (first | (go_at_call 33; refine Calls.mono Hwo.out ?_; rintro e w3 ⟨⟨wg, rfl, hwgl, hwg1, hwg2, hwants⟩, hb3⟩))
        have hz3 := hb3.size
        obtain ⟨hS3, hrow3, d0, d1, hb33, hE3⟩ : StAt w3 w.heap.size tb st ∧ w3.ownsRow (w.heap.size + 1) 90 2 (.slice (some ⟨g', 0, none⟩) ws.length c) ws.length (wcells ws) ∧ w3.cell? ⟨wo.heap.size, 0, none⟩ = some (.slice (some ⟨g', 0, none⟩) ws.length c) ∧ w3.cell? ⟨wo.heap.size, 1, none⟩ = some (.int .i64 e0) ∧ But w.heap.size tb wo w3 ∧ Env w3 := by
          have hbb : Below wo.heap.size wo w3 := ((Below.refl _ wo).alloc (Nat.le_refl _) _).trans (hb3.mono (by simp))
          exact ⟨hS.below hbb, row_below hrow hbb, ((bcell hb3).1 _ _ (by simp)).trans (World.cell?_alloc_at _ _ _ _ rfl), ((bcell hb3).1 _ _ (by simp)).trans (World.cell?_alloc_at _ _ _ _ rfl), But.of_below hbb, HE.out.1.below hbb (by omega)⟩
        simp at hz3
        have HZ : Hid (w3.ownsRow (w.heap.size + 1) 90 2 (.slice (some ⟨g', 0, none⟩) ws.length c) ws.length (wcells ws) ∧ w3.cell? ⟨wo.heap.size, 0, none⟩ = some (.slice (some ⟨g', 0, none⟩) ws.length c) ∧ w3.cell? ⟨wo.heap.size, 1, none⟩ = some (.int .i64 e0) ∧ Env w3 ∧ (∀ (i : Nat) K, Ks[i]? = some K → ∃ f, w3.cell? ⟨wg, i, none⟩ = some f ∧ WantAt w3 w.heap.size tb f K) ∧ But w.heap.size tb w2 w3) := ⟨hrow3, d0, d1, hE3, hwants, hbx.trans hb33⟩
        clear hrow3 d0 d1 hE3 hwants hb33 Hwo HEA HE hb3 hrow hS cA cB
        go_loopg [9] (ws.length + 1) (fun n2 i wy => ∃ (m : Nat) (st2 : St), m + n2 = ws.length + 1 ∧ m ≤ ws.length ∧ m ≤ Ks.length ∧ i = .int .i64 m ∧ Hid (runW (Ks.drop m) (ws.drop m) e0 st2 = runW Ks ws e0 st) ∧ StAt wy w.heap.size tb st2 ∧ But w.heap.size tb w3 wy)
        case atStart => exact ⟨0, st, by omega, by omega, by omega, rfl, (rfl : _ = _), hS3, But.refl _ _ _⟩
        case round =>
          rename World => wy
          obtain ⟨m, st2, hmn, hm1, hm2, rfl, HRm, hSy, hby⟩ := hrel
          have HM : Hid _ := hmn
          clear hmn
          have hszy := hby.size
          have e0' := (hby.cell (b := wo.heap.size) (j := 0) (by omega) (by omega) (by omega)).trans HZ.out.2.1
          have e1' := (hby.cell (b := wo.heap.size) (j := 1) (by omega) (by omega) (by omega)).trans HZ.out.2.2.1
          by_cases hmw : m = ws.length
          · by_cases hmk : m = Ks.length
            · have b1 : ((m : Int) == (ws.length : Int)) = true := by simp [hmw]
              have b2 : ((m : Int) == (Ks.length : Int)) = true := by simp [hmk]
              have HD := runW_done (e := e0) (st := st2) hmk hmw
              have HFin : Hid (runL (ls.drop (j + 1)) s.size st2 = R) := by
                have h1 : runW (wantsL ws) ws e0 st = (none, st2) := by rw [HK.out, ← HRm.out]; exact HD
                have := runL_go (n := s.size) hlt HLn.out h1
                rw [HRj.out] at this
                exact this.symm
              clear HD hmw hmk
              go_wp2
              go_roundg (ls.length - (j + 1))
              case measure => have := HJ.out; omega
              case rel => exact ⟨j + 1, st2, by omega, by go_num, HFin, hSy, HZ.out.2.2.2.2.2.trans hby⟩
            · have hmk2 : m < Ks.length := by omega
              have b1 : ((m : Int) == (ws.length : Int)) = true := by simp [hmw]
              have b2 : ((m : Int) == (Ks.length : Int)) = false := by simp; omega
              have HFin : Hid (R = (some (60, e0, []), st2)) := by
                have h1 : runW (wantsL ws) ws e0 st = (some (60, e0, []), st2) := by rw [HK.out, ← HRm.out]; exact runW_short hmk2 hmw
                have := runL_stop (n := s.size) hlt HLn.out h1
                rw [HRj.out] at this
                exact this
              clear hmw hmk hmk2
              go_wp2
              try rw [Exit.noGoto_ret]
              go_ret
              refine .inr ⟨(60, e0, []), wy.heap.size, by rw [HFin.out], rfl, heap_alloc_new wy _, by have := HX.out.2.2.size; have := HZ.out.2.2.2.2.2.size; omega, but_fin HX.out.2.2 ((HZ.out.2.2.2.2.2.trans hby).trans (But.of_below ((Below.refl _ _).alloc (Nat.le_refl _) _)))⟩
          · have hmw2 : m < ws.length := by omega
            have b1 : ((m : Int) == (ws.length : Int)) = false := by simp; omega
            have hrowy := hby.row HZ.out.1 (by omega) (by omega)
            obtain ⟨f0, f1⟩ := word_get hrowy m hmw2
            have i1 : (0 : Int) ≤ (m : Int) := by omega
            have i2 : (m : Int) < (ws.length : Int) := by omega
            have hwf := Hlj.out.2 ws[m] (List.getElem_mem hmw2)
            by_cases hmk : m = Ks.length
            · have b2 : ((m : Int) == (Ks.length : Int)) = true := by simp [hmk]
              have HFin : Hid (R = (some (60, ws[m].1, ws[m].2), st2)) := by
                have h1 : runW (wantsL ws) ws e0 st = (some (60, ws[m].1, ws[m].2), st2) := by rw [HK.out, ← HRm.out]; exact runW_long hmk hmw2
                have := runL_stop (n := s.size) hlt HLn.out h1
                rw [HRj.out] at this
                exact this
              have hwl : (⟨ws[m].2.toArray⟩ : ByteArray).size ≤ 200000 := by show ws[m].2.length ≤ _; have := hwf.2; omega
              clear hmw hmk hwf hrowy
              go_wp2_with (first | (go_at_call 34; refine (fault_any _ _ _ _ hwl).mono ?_; rintro e w5 ⟨q, rfl, hF, hq, hb5⟩))
              try rw [Exit.noGoto_ret]
              go_ret
              refine .inr ⟨(60, ws[m].1, ws[m].2), q, by rw [HFin.out], rfl, hF, by have := HX.out.2.2.size; have := HZ.out.2.2.2.2.2.size; omega, but_fin HX.out.2.2 ((HZ.out.2.2.2.2.2.trans hby).trans (But.of_below hb5))⟩
            · have hmk2 : m < Ks.length := by omega
              have b2 : ((m : Int) == (Ks.length : Int)) = false := by simp; omega
              have i3 : (m : Int) < (Ks.length : Int) := by omega
              obtain ⟨f, hf3, hWa3⟩ := HZ.out.2.2.2.2.1 m Ks[m] (List.getElem?_eq_getElem hmk2)
              have hf : wy.cell? ⟨wg, m, none⟩ = some f := (hby.cell hwgl hwg1 hwg2).trans hf3
              have hWa := hWa3.but hby
              have hEy := HZ.out.2.2.2.1.but hby (by omega) (by omega)
              obtain ⟨tp, qv, hvar⟩ := hEy.r
              have hwl : ws[m].2.length ≤ 200000 := by have := hwf.2; omega
              have hwne := hwf.1
              have HS1 := runW_step (e := e0) (st := st2) hmk2 hmw2
              obtain ⟨cd, hcd⟩ : ∃ cd, cd = Ks[m].code ws[m].2 st2 := ⟨_, rfl⟩
              obtain ⟨st3, hst3⟩ : ∃ st3, st3 = Ks[m].next ws[m].2 st2 := ⟨_, rfl⟩
              rw [← hcd, ← hst3, HRm.out] at HS1
              have HS : Hid (runW Ks ws e0 st = if cd = 0 then runW (Ks.drop (m + 1)) (ws.drop (m + 1)) e0 st3 else (some (cd, ws[m].1, ws[m].2), st3)) := HS1
              clear HS1 hf3 hWa3 hrowy hwf hEy
              have hwl2 : (⟨ws[m].2.toArray⟩ : ByteArray).size ≤ 200000 := hwl
              have hD : Below wy.heap.size wy wy.drew := (Below.refl _ _).drew
              have hwc := want_call (K := Ks[m]) (l := ws[m].2) (hWa.but (But.of_below hD)) (hSy.below hD) (show wy.drew.var? Tryz.prog "strconv.ErrRange" = _ from hvar) hwne hwl
              unfold WkPost at hwc
              rw [← hcd, ← hst3] at hwc
              clear hWa hvar hcd hst3 hwne hwl hD
              have hg'y : g' < wy.heap.size := by omega
              have hwgy : wg < wy.drew.heap.size := Nat.lt_of_lt_of_le hwgl hby.size
              have hwoy : wo.heap.size < wy.drew.heap.size := Nat.lt_of_lt_of_le (by omega) hby.size
              have hwo1 : wo.heap.size ≠ w.heap.size := by omega
              have hwo2 : wo.heap.size ≠ tb := by omega
              have hg'1 : g' ≠ w.heap.size := by omega
              have hg'2 : g' ≠ tb := by omega
              rcases hwc with ⟨rfl, hc⟩ | ⟨c1, rfl, hc⟩ | ⟨c1, c2, rfl, hc⟩ | ⟨c1, rfl, hc⟩
              · have Hc : Hid _ := hc
                clear hc
                by_cases hcd0 : cd = 0
                · subst hcd0
                  go_wp2
                  go_region_held3 (fun w' => w'.cell? ⟨wg, m, none⟩ = some (.func (.func 69) #[] #[]) ∧ w'.cell? ⟨wo.heap.size, 0, none⟩ = some (.slice (some ⟨g', 0, none⟩) ws.length c) ∧ w'.cell? ⟨g', m * 2 + 1, none⟩ = some (.string ⟨ws[m].2.toArray⟩))
                    (first | (go_keep; done) | ((try dsimp only); (refine ⟨?_, ?_, ?_⟩ <;> (first | exact (hB5.cell (b := wg) hwgy hwg1 hwg2).trans hf | exact (hB5.cell (b := wo.heap.size) hwoy hwo1 hwo2).trans e0' | exact (hB5.cell (b := g') hg'y hg'1 hg'2).trans f1))))
                    (first | (go_at_call 69; refine Calls.mono Hc.out ?_; rintro e w5 ⟨rfl, hS5, hB5⟩))
                  go_wp2
                  go_roundg (ws.length + 1 - (m + 1))
                  case measure => have := HM.out; omega
                  case rel => exact ⟨m + 1, st3, by omega, by omega, by omega, by go_num, (by have h7 := HS.out; simp only [if_true] at h7; exact h7.symm : _ = _), hS5, hby.trans (But.trans (But.of_below (Below.refl _ _).drew) hB5)⟩
                · have b5 : (cd == 0) = false := by simp [hcd0]
                  have HFin : Hid (R = (some (cd, ws[m].1, ws[m].2), st3)) := by
                    have h0 := HS.out
                    rw [if_neg hcd0] at h0
                    have h1 : runW (wantsL ws) ws e0 st = (some (cd, ws[m].1, ws[m].2), st3) := by rw [HK.out]; exact h0
                    have := runL_stop (n := s.size) hlt HLn.out h1
                    rw [HRj.out] at this
                    exact this
                  clear hcd0
                  go_wp2
                  go_region_held3 (fun w' => w'.cell? ⟨wg, m, none⟩ = some (.func (.func 69) #[] #[]) ∧ w'.cell? ⟨wo.heap.size, 0, none⟩ = some (.slice (some ⟨g', 0, none⟩) ws.length c) ∧ w'.cell? ⟨g', m * 2 + 1, none⟩ = some (.string ⟨ws[m].2.toArray⟩))
                    (first | (go_keep; done) | ((try dsimp only); (refine ⟨?_, ?_, ?_⟩ <;> (first | exact (hB5.cell (b := wg) hwgy hwg1 hwg2).trans hf | exact (hB5.cell (b := wo.heap.size) hwoy hwo1 hwo2).trans e0' | exact (hB5.cell (b := g') hg'y hg'1 hg'2).trans f1))))
                    (first | (go_at_call 69; refine Calls.mono Hc.out ?_; rintro e w5 ⟨rfl, hS5, hB5⟩))
                  have g0 := (hB5.cell (b := wo.heap.size) (j := 0) hwoy hwo1 hwo2).trans e0'
                  have g1 := (hB5.cell (b := g') (j := m * 2) hg'y hg'1 hg'2).trans f0
                  have g2 := (hB5.cell (b := g') (j := m * 2 + 1) hg'y hg'1 hg'2).trans f1
                  have hz5 := hB5.size
                  simp at hz5
                  go_wp2_with (first | (go_at_call 34; refine (fault_any _ _ _ _ hwl2).mono ?_; rintro e w6 ⟨q, rfl, hF, hq, hb6⟩))
                  try rw [Exit.noGoto_ret]
                  go_ret
                  refine .inr ⟨(cd, ws[m].1, ws[m].2), q, by rw [HFin.out], rfl, hF, by have := HX.out.2.2.size; have := HZ.out.2.2.2.2.2.size; omega, but_fin HX.out.2.2 (((HZ.out.2.2.2.2.2.trans hby).trans (But.trans (But.of_below (Below.refl _ _).drew) hB5)).trans (But.of_below hb6))⟩
              · have Hc : Hid _ := hc
                clear hc
                by_cases hcd0 : cd = 0
                · subst hcd0
                  go_wp2
                  go_region_held3 (fun w' => w'.cell? ⟨wg, m, none⟩ = some (.func (.func 70) #[] #[.pointer (some ⟨c1, 0, none⟩)]) ∧ w'.cell? ⟨wo.heap.size, 0, none⟩ = some (.slice (some ⟨g', 0, none⟩) ws.length c) ∧ w'.cell? ⟨g', m * 2 + 1, none⟩ = some (.string ⟨ws[m].2.toArray⟩))
                    (first | (go_keep; done) | ((try dsimp only); (refine ⟨?_, ?_, ?_⟩ <;> (first | exact (hB5.cell (b := wg) hwgy hwg1 hwg2).trans hf | exact (hB5.cell (b := wo.heap.size) hwoy hwo1 hwo2).trans e0' | exact (hB5.cell (b := g') hg'y hg'1 hg'2).trans f1))))
                    (first | (go_at_call 70; refine Calls.mono Hc.out ?_; rintro e w5 ⟨rfl, hS5, hB5⟩))
                  go_wp2
                  go_roundg (ws.length + 1 - (m + 1))
                  case measure => have := HM.out; omega
                  case rel => exact ⟨m + 1, st3, by omega, by omega, by omega, by go_num, (by have h7 := HS.out; simp only [if_true] at h7; exact h7.symm : _ = _), hS5, hby.trans (But.trans (But.of_below (Below.refl _ _).drew) hB5)⟩
                · have b5 : (cd == 0) = false := by simp [hcd0]
                  have HFin : Hid (R = (some (cd, ws[m].1, ws[m].2), st3)) := by
                    have h0 := HS.out
                    rw [if_neg hcd0] at h0
                    have h1 : runW (wantsL ws) ws e0 st = (some (cd, ws[m].1, ws[m].2), st3) := by rw [HK.out]; exact h0
                    have := runL_stop (n := s.size) hlt HLn.out h1
                    rw [HRj.out] at this
                    exact this
                  clear hcd0
                  go_wp2
                  go_region_held3 (fun w' => w'.cell? ⟨wg, m, none⟩ = some (.func (.func 70) #[] #[.pointer (some ⟨c1, 0, none⟩)]) ∧ w'.cell? ⟨wo.heap.size, 0, none⟩ = some (.slice (some ⟨g', 0, none⟩) ws.length c) ∧ w'.cell? ⟨g', m * 2 + 1, none⟩ = some (.string ⟨ws[m].2.toArray⟩))
                    (first | (go_keep; done) | ((try dsimp only); (refine ⟨?_, ?_, ?_⟩ <;> (first | exact (hB5.cell (b := wg) hwgy hwg1 hwg2).trans hf | exact (hB5.cell (b := wo.heap.size) hwoy hwo1 hwo2).trans e0' | exact (hB5.cell (b := g') hg'y hg'1 hg'2).trans f1))))
                    (first | (go_at_call 70; refine Calls.mono Hc.out ?_; rintro e w5 ⟨rfl, hS5, hB5⟩))
                  have g0 := (hB5.cell (b := wo.heap.size) (j := 0) hwoy hwo1 hwo2).trans e0'
                  have g1 := (hB5.cell (b := g') (j := m * 2) hg'y hg'1 hg'2).trans f0
                  have g2 := (hB5.cell (b := g') (j := m * 2 + 1) hg'y hg'1 hg'2).trans f1
                  have hz5 := hB5.size
                  simp at hz5
                  go_wp2_with (first | (go_at_call 34; refine (fault_any _ _ _ _ hwl2).mono ?_; rintro e w6 ⟨q, rfl, hF, hq, hb6⟩))
                  try rw [Exit.noGoto_ret]
                  go_ret
                  refine .inr ⟨(cd, ws[m].1, ws[m].2), q, by rw [HFin.out], rfl, hF, by have := HX.out.2.2.size; have := HZ.out.2.2.2.2.2.size; omega, but_fin HX.out.2.2 (((HZ.out.2.2.2.2.2.trans hby).trans (But.trans (But.of_below (Below.refl _ _).drew) hB5)).trans (But.of_below hb6))⟩
              · have Hc : Hid _ := hc
                clear hc
                by_cases hcd0 : cd = 0
                · subst hcd0
                  go_wp2
                  go_region_held3 (fun w' => w'.cell? ⟨wg, m, none⟩ = some (.func (.func 71) #[] #[.pointer (some ⟨c1, 0, none⟩), .pointer (some ⟨c2, 0, none⟩)]) ∧ w'.cell? ⟨wo.heap.size, 0, none⟩ = some (.slice (some ⟨g', 0, none⟩) ws.length c) ∧ w'.cell? ⟨g', m * 2 + 1, none⟩ = some (.string ⟨ws[m].2.toArray⟩))
                    (first | (go_keep; done) | ((try dsimp only); (refine ⟨?_, ?_, ?_⟩ <;> (first | exact (hB5.cell (b := wg) hwgy hwg1 hwg2).trans hf | exact (hB5.cell (b := wo.heap.size) hwoy hwo1 hwo2).trans e0' | exact (hB5.cell (b := g') hg'y hg'1 hg'2).trans f1))))
                    (first | (go_at_call 71; refine Calls.mono Hc.out ?_; rintro e w5 ⟨rfl, hS5, hB5⟩))
                  go_wp2
                  go_roundg (ws.length + 1 - (m + 1))
                  case measure => have := HM.out; omega
                  case rel => exact ⟨m + 1, st3, by omega, by omega, by omega, by go_num, (by have h7 := HS.out; simp only [if_true] at h7; exact h7.symm : _ = _), hS5, hby.trans (But.trans (But.of_below (Below.refl _ _).drew) hB5)⟩
                · have b5 : (cd == 0) = false := by simp [hcd0]
                  have HFin : Hid (R = (some (cd, ws[m].1, ws[m].2), st3)) := by
                    have h0 := HS.out
                    rw [if_neg hcd0] at h0
                    have h1 : runW (wantsL ws) ws e0 st = (some (cd, ws[m].1, ws[m].2), st3) := by rw [HK.out]; exact h0
                    have := runL_stop (n := s.size) hlt HLn.out h1
                    rw [HRj.out] at this
                    exact this
                  clear hcd0
                  go_wp2
                  go_region_held3 (fun w' => w'.cell? ⟨wg, m, none⟩ = some (.func (.func 71) #[] #[.pointer (some ⟨c1, 0, none⟩), .pointer (some ⟨c2, 0, none⟩)]) ∧ w'.cell? ⟨wo.heap.size, 0, none⟩ = some (.slice (some ⟨g', 0, none⟩) ws.length c) ∧ w'.cell? ⟨g', m * 2 + 1, none⟩ = some (.string ⟨ws[m].2.toArray⟩))
                    (first | (go_keep; done) | ((try dsimp only); (refine ⟨?_, ?_, ?_⟩ <;> (first | exact (hB5.cell (b := wg) hwgy hwg1 hwg2).trans hf | exact (hB5.cell (b := wo.heap.size) hwoy hwo1 hwo2).trans e0' | exact (hB5.cell (b := g') hg'y hg'1 hg'2).trans f1))))
                    (first | (go_at_call 71; refine Calls.mono Hc.out ?_; rintro e w5 ⟨rfl, hS5, hB5⟩))
                  have g0 := (hB5.cell (b := wo.heap.size) (j := 0) hwoy hwo1 hwo2).trans e0'
                  have g1 := (hB5.cell (b := g') (j := m * 2) hg'y hg'1 hg'2).trans f0
                  have g2 := (hB5.cell (b := g') (j := m * 2 + 1) hg'y hg'1 hg'2).trans f1
                  have hz5 := hB5.size
                  simp at hz5
                  go_wp2_with (first | (go_at_call 34; refine (fault_any _ _ _ _ hwl2).mono ?_; rintro e w6 ⟨q, rfl, hF, hq, hb6⟩))
                  try rw [Exit.noGoto_ret]
                  go_ret
                  refine .inr ⟨(cd, ws[m].1, ws[m].2), q, by rw [HFin.out], rfl, hF, by have := HX.out.2.2.size; have := HZ.out.2.2.2.2.2.size; omega, but_fin HX.out.2.2 (((HZ.out.2.2.2.2.2.trans hby).trans (But.trans (But.of_below (Below.refl _ _).drew) hB5)).trans (But.of_below hb6))⟩
              · have Hc : Hid _ := hc
                clear hc
                by_cases hcd0 : cd = 0
                · subst hcd0
                  go_wp2
                  go_region_held3 (fun w' => w'.cell? ⟨wg, m, none⟩ = some (.func (.func 74) #[] #[.pointer (some ⟨c1, 0, none⟩)]) ∧ w'.cell? ⟨wo.heap.size, 0, none⟩ = some (.slice (some ⟨g', 0, none⟩) ws.length c) ∧ w'.cell? ⟨g', m * 2 + 1, none⟩ = some (.string ⟨ws[m].2.toArray⟩))
                    (first | (go_keep; done) | ((try dsimp only); (refine ⟨?_, ?_, ?_⟩ <;> (first | exact (hB5.cell (b := wg) hwgy hwg1 hwg2).trans hf | exact (hB5.cell (b := wo.heap.size) hwoy hwo1 hwo2).trans e0' | exact (hB5.cell (b := g') hg'y hg'1 hg'2).trans f1))))
                    (first | (go_at_call 74; refine Calls.mono Hc.out ?_; rintro e w5 ⟨rfl, hS5, hB5⟩))
                  go_wp2
                  go_roundg (ws.length + 1 - (m + 1))
                  case measure => have := HM.out; omega
                  case rel => exact ⟨m + 1, st3, by omega, by omega, by omega, by go_num, (by have h7 := HS.out; simp only [if_true] at h7; exact h7.symm : _ = _), hS5, hby.trans (But.trans (But.of_below (Below.refl _ _).drew) hB5)⟩
                · have b5 : (cd == 0) = false := by simp [hcd0]
                  have HFin : Hid (R = (some (cd, ws[m].1, ws[m].2), st3)) := by
                    have h0 := HS.out
                    rw [if_neg hcd0] at h0
                    have h1 : runW (wantsL ws) ws e0 st = (some (cd, ws[m].1, ws[m].2), st3) := by rw [HK.out]; exact h0
                    have := runL_stop (n := s.size) hlt HLn.out h1
                    rw [HRj.out] at this
                    exact this
                  clear hcd0
                  go_wp2
                  go_region_held3 (fun w' => w'.cell? ⟨wg, m, none⟩ = some (.func (.func 74) #[] #[.pointer (some ⟨c1, 0, none⟩)]) ∧ w'.cell? ⟨wo.heap.size, 0, none⟩ = some (.slice (some ⟨g', 0, none⟩) ws.length c) ∧ w'.cell? ⟨g', m * 2 + 1, none⟩ = some (.string ⟨ws[m].2.toArray⟩))
                    (first | (go_keep; done) | ((try dsimp only); (refine ⟨?_, ?_, ?_⟩ <;> (first | exact (hB5.cell (b := wg) hwgy hwg1 hwg2).trans hf | exact (hB5.cell (b := wo.heap.size) hwoy hwo1 hwo2).trans e0' | exact (hB5.cell (b := g') hg'y hg'1 hg'2).trans f1))))
                    (first | (go_at_call 74; refine Calls.mono Hc.out ?_; rintro e w5 ⟨rfl, hS5, hB5⟩))
                  have g0 := (hB5.cell (b := wo.heap.size) (j := 0) hwoy hwo1 hwo2).trans e0'
                  have g1 := (hB5.cell (b := g') (j := m * 2) hg'y hg'1 hg'2).trans f0
                  have g2 := (hB5.cell (b := g') (j := m * 2 + 1) hg'y hg'1 hg'2).trans f1
                  have hz5 := hB5.size
                  simp at hz5
                  go_wp2_with (first | (go_at_call 34; refine (fault_any _ _ _ _ hwl2).mono ?_; rintro e w6 ⟨q, rfl, hF, hq, hb6⟩))
                  try rw [Exit.noGoto_ret]
                  go_ret
                  refine .inr ⟨(cd, ws[m].1, ws[m].2), q, by rw [HFin.out], rfl, hF, by have := HX.out.2.2.size; have := HZ.out.2.2.2.2.2.size; omega, but_fin HX.out.2.2 (((HZ.out.2.2.2.2.2.trans hby).trans (But.trans (But.of_below (Below.refl _ _).drew) hB5)).trans (But.of_below hb6))⟩
    · obtain rfl : j = ls.length := by omega
      have HR2 : Hid (R = (if missB st then some (60, s.size, []) else none, st)) := by
        have h := HRj.out
        rw [List.drop_length] at h
        exact h.symm
      have hct := contains_any w.heap.size st wo hS.h
      cases hms : missB st
      · rw [hms] at hct
        have Hct : Hid _ := hct
        clear hct
        go_wp2_with (first | (go_at_call 35; refine Calls.mono Hct.out ?_; rintro e w' ⟨rfl, hw⟩; subst w'))
        try rw [Exit.noGoto_ret]
        go_ret
        have h2 := HR2.out
        rw [hms] at h2
        refine .inl ⟨by rw [h2]; rfl, rfl, by rw [h2]; exact hS.t, but_fin HX.out.2.2 hbx⟩
      · rw [hms] at hct
        have Hct : Hid _ := hct
        clear hct
        go_wp2_with (first | (go_at_call 35; refine Calls.mono Hct.out ?_; rintro e w' ⟨rfl, hw⟩; subst w'))
        try rw [Exit.noGoto_ret]
        go_ret
        have h2 := HR2.out
        rw [hms] at h2
        refine .inr ⟨(60, s.size, []), wo.heap.size, by rw [h2]; rfl, rfl, heap_alloc_new wo _, by have := HX.out.2.2.size; omega, but_fin HX.out.2.2 (hbx.trans (But.of_below ((Below.refl _ _).alloc (Nat.le_refl _) _)))⟩

end Go.Proofs.YtgabnjiapkkjaaaGreatDoor.Tb
