/- Run of the document's machine: read off the program by the walk. Conditions: the machine lies in memory. -/
import Derived.Test.YtlnfhbkkodhmaaaDoorDg
namespace Go.Proofs.YtlnfhbkkodhmaaaDoor.Sm
open Go.ChangeShapes Go.WideShapes Go.ChangeAt Go.RowKit
open _root_.Go.Proofs.YtlnfhbkkodhmaaaDoor.Op _root_.Go.Proofs.YtlnfhbkkodhmaaaDoor.So
set_option maxRecDepth 20000

section
variable {w : World} {q : Nat} {ps : List Bk} {T : Nat → Prop} {M : Ma} {L : Tg}
/-- What Run reads of the machine when it tells. -/
structure Rd (w3 : World) (q : Nat) (R : Ma) (ba po : Option Addr) (bl bc pc : Nat) (L : Tg) : Prop where
  at_ : DAt w3 q (dG ba bl bc po pc R L)
  pr : NL w3 po R.pr
theorem Lz.rd {w3 : World} {R : Ma} (h : Lz w w3 q ps T R) : ∃ ba po bl bc pc L, Rd w3 q R ba po bl bc pc L := by
  obtain ⟨T1, L1, h1, h2, h3⟩ := h.ex
  obtain ⟨ba, bc, po, pc, hM, hP, hR, hT⟩ := h1.dr.ex
  exact ⟨ba, po, _, bc, pc, L1, hM, nl_row hR⟩
set_option maxHeartbeats 8000000 in
theorem rrun_any (n : Int) (h : DM w q ps T M L) (hv : VZ M) (hb : M.s + (min (max n 0) 1048576).toNat ≤ 1000000000000) : Calls Tryd.prog 14 #[ptr q, .int .i64 n] w (RRun w q ps T (runM ps (min (max n 0) 1048576).toNat M)) := by
  have HL0 : Hid (Lz w (w.alloc (.cells oz 39)) q ps T M) := lz_start h hv
  have HQ : Hid (q < w.heap.size) := h.dr.at'.2.2.2
  have HPr : Hid (∀ R : Ma, ∀ k (hk : k < R.pr.length), nums (R.pr.take k) ++ [.int .i64 R.pr[k]] = nums (R.pr.take (k + 1))) := fun R k hk => nums_take hk
  clear h hv
  obtain ⟨i0, hi, hi2⟩ := Option.map_eq_some_iff.1 info2
  simp only [Prod.mk.injEq] at hi2
  obtain ⟨hz0, hz1, hz2⟩ := hi2
  have HI : Hid (Tryd.prog.info? 2 = some i0 ∧ i0.zero = some (.int .i64 0) ∧ i0.size = 1 ∧ i0.bytes = 8) := ⟨hi, hz0, hz1, hz2⟩
  clear hi hz0 hz1 hz2
  obtain ⟨N, hN⟩ : ∃ N : Nat, min (max n 0) 1048576 = (N : Int) := ⟨(min (max n 0) 1048576).toNat, by omega⟩
  have hN2 : N ≤ 1048576 := by omega
  rw [hN, Int.toNat_natCast] at hb ⊢
  obtain ⟨R, hR⟩ : ∃ R, runM ps N M = R := ⟨_, rfl⟩
  rw [hR]
  have HS0 : Hid (runM ps (N - 0) M = R ∧ M.s ≤ M.s + 0) := ⟨hR, Nat.le_refl _⟩
  have HRs : Hid (R.s ≤ 1000000000000 ∧ True) := ⟨by
    have h1 := trail_len ps N M
    have h2 := trail_le ps N M
    rw [hR] at h1; omega, trivial⟩
  clear hR
  go_enter Tryd.func14, Tryd.ntmps14
  go_upto_region 2 with fail
  clear hN
  go_wp2_with fail
  go_loopw [5] (fun i wz => ∃ (j : Nat) (M1 : Ma), j ≤ N ∧ i = .int .i64 j ∧ Lz w wz q ps T M1 ∧ runM ps (N - j) M1 = R ∧ M1.s ≤ M.s + j) (fun i _ => N - (intOf i).toNat)
  case atStart => exact ⟨0, M, by omega, rfl, HL0.out, HS0.out.1, HS0.out.2⟩
  case round =>
    rename World => wz
    obtain ⟨j, M1, hj, rfl, hlz, hrun, hms⟩ := hrel
    have HL : Hid (Lz w wz q ps T M1 ∧ runM ps (N - j) M1 = R ∧ M1.s ≤ M.s + j) := ⟨hlz, hrun, hms⟩
    clear hlz hrun hms HL0 HS0
    by_cases hjn : j < N
    · have hji : (j : Int) < N := by omega
      by_cases hst : ¬ M1.e = 100 ∨ trapB ps M1 = true
      · have HC : Hid (Calls Tryd.prog 29 #[ptr q] wz (LPost w q ps T false R)) := by
          have := HL.out.1.stop hst
          rw [← run_stop hst (N - j), HL.out.2.1] at this; exact this
        have HE : Hid (¬ R.e = 100) := by
          have := stop_e hst
          rw [← run_stop hst (N - j), HL.out.2.1] at this; exact this
        have HTr : Hid (∀ W, Lz w W q ps T R → Calls Tryd.prog 30 #[ptr q] W fun e w2 => e = .returned (.bool false) ∧ Below W.heap.size W w2) := fun W hl => by
          have := hl.trap
          rw [show (R.e == 100) = false by simpa using HE.out, Bool.false_and] at this; exact this
        clear HL hst
        go_upto_region 7 with (first
          | (go_at_call 29; refine Calls.mono HC.out ?_; rintro e w2 ⟨rfl, hl2⟩; have HL2 : Hid (Lz w w2 q ps T R) := hl2; clear hl2 HC)
          | (go_at_call 30; refine Calls.mono (HTr.out w2 HL2.out) ?_; rintro e w3 ⟨rfl, hb3⟩; have HL3 : Hid (Lz w w3 q ps T R) := HL2.out.up hb3; clear hb3 HL2 HTr))
        obtain ⟨ba, po, bl, bc, pc, L3, hrd⟩ := HL3.out.rd
        have HRd : Hid (∀ W, Below w3.heap.size w3 W → DAt W q (dG ba bl bc po pc R L3) ∧ NL W po R.pr) := fun W hb => ⟨hrd.at_.up hb, hrd.pr.up hb⟩
        have s0 := hrd.at_.ks
        have s1 := hrd.at_.lt
        have heo := HL3.out.eo.1
        have hpl : R.pr.length ≤ 1000000000000 := Nat.le_trans HL3.out.eo.2 HRs.out.1
        have HP0 : Hid (Pw w3 (w3.alloc (.cells #[.int .i64 100, .int .i64 0, .slice none 0 0, .slice none 0 0, .int .i64 (R.s : Int)] 39)) R none 0 0) := ⟨(Below.refl _ _).alloc (Nat.le_refl _) _, Op.At.new _ _ _, World.ownsRow_nil _ _ _ _⟩
        clear hrd
        go_wp2_with fail
        clear s0 s1
        go_loopw [7] (fun i wz => ∃ (k : Nat) (a : Option Addr) (c : Nat), k ≤ R.pr.length ∧ i = .int .i64 k ∧ Pw w3 wz R a c k) (fun i _ => R.pr.length - (intOf i).toNat)
        case atStart => exact ⟨0, none, 0, by omega, rfl, HP0.out⟩
        case round =>
          rename World => wy
          obtain ⟨k, a, c, hk, rfl, hpw⟩ := hrel
          have HP : Hid (Pw w3 wy R a c k) := hpw
          clear hpw HP0
          have t0 := (HRd.out wy HP.out.up).1.kp
          have t1 := (HRd.out wy HP.out.up).1.lt
          by_cases hkl : k < R.pr.length
          · have hki : (k : Int) < R.pr.length := by omega
            obtain ⟨pb, pf, rfl, pz, px⟩ := (HRd.out wy HP.out.up).2.is (by omega)
            have p0 := px k hkl
            have HPx : Hid (nums (R.pr.take k) ++ [.int .i64 R.pr[k]] = nums (R.pr.take (k + 1))) := HPr.out R k hkl
            clear px heo
            generalize R.pr[k] = pv at *
            have x0 := HP.out.x.c 0 _ rfl
            have x1 := HP.out.x.c 1 _ rfl
            have x2 := HP.out.x.c 2 _ rfl
            have x3 := HP.out.x.c 3 _ rfl
            have x4 := HP.out.x.c 4 _ rfl
            have xl := HP.out.x.lt
            go_wp2_with fail
            have e1 : wy.drew.heap.size = wy.heap.size := rfl
            go_region_law
              ((refine step_append_lies _ (by rfl) _ _ 25 (by rfl) (w3.heap.size + 1) 2 i0 (.int .i64 0) 1 8 Tryd.underlying25 HI.out.1 HI.out.2.1 HI.out.2.2.1 HI.out.2.2.2 rfl (by decide) _ _ _ (by rfl) (HP.out.row.drew.alloc _) ⟨wy.heap.size, 0, none⟩ 1 1 [.int .i64 pv] (by rfl) rfl (World.news_of_block (heap_alloc_new wy.drew (.cells #[.int .i64 pv] 2))) (by simp [Value.oneCell']) (by decide) (by unfold maxLen; omega) (by omega) (by have h5 := HP.out.x.lt; simp; omega) _ rfl ?_; intro g cap w4 hown hgrow hg hlt3; have HP3 : Hid (Op.At w4 w3.heap.size #[.int .i64 100, .int .i64 0, .slice a k c, .slice none 0 0, .int .i64 (R.s : Int)] ∧ Pw w3 (w4.setCell ⟨w3.heap.size, 2, none⟩ (.slice (some ⟨g, 0, none⟩) (k + 1) cap)) R (some ⟨g, 0, none⟩) cap (k + 1)) := pw_next HP.out (((drew_up wy).alloc (Nat.le_refl _) _)) hgrow hown HPx.out; have y0 := HP3.out.1.c 2 _ rfl; have y1 := HP3.out.1.f 2; have y2 := HP3.out.1.lt; clear hown hgrow hg hlt3))
            all_goals
              go_wp2_with fail
              go_roundw
              case rel => exact ⟨k + 1, _, _, by omega, by go_num, HP3.out.2⟩
              case measure => simp [intOf]; omega
          · obtain rfl : R.pr.length = k := by omega
            have kv := (HRd.out wy HP.out.up).1.kv
            have ke := (HRd.out wy HP.out.up).1.ke
            have ka := (HRd.out wy HP.out.up).1.ka
            have HOb : Hid (Ob w w3 wy w.heap.size w3.heap.size a none R.pr [] #[.int .i64 100, .int .i64 0, .slice a R.pr.length c, .slice none 0 0, .int .i64 (R.s : Int)]) := pw_ob HP.out HL3.out
            have hnb : ¬ w3.heap.size = w.heap.size := by have := HOb.out.nb; omega
            have hnb' : ¬ w.heap.size = w3.heap.size := fun e => hnb e.symm
            have hqb : ¬ q = w3.heap.size := by have h5 := HOb.out.nb; have h6 := HQ.out; omega
            have hqb' : ¬ w3.heap.size = q := fun e => hqb e.symm
            have hqn : ¬ q = w.heap.size := by have h6 := HQ.out; omega
            have hqn' : ¬ w.heap.size = q := fun e => hqn e.symm
            have b0 := HOb.out.x.c 0 _ rfl; have bf0 := HOb.out.x.f 0; have n0 := HOb.out.r.c 0 _ rfl; have nf0 := HOb.out.r.f 0; have b1 := HOb.out.x.c 1 _ rfl; have bf1 := HOb.out.x.f 1; have n1 := HOb.out.r.c 1 _ rfl; have nf1 := HOb.out.r.f 1; have b2 := HOb.out.x.c 2 _ rfl; have bf2 := HOb.out.x.f 2; have n2 := HOb.out.r.c 2 _ rfl; have nf2 := HOb.out.r.f 2; have b3 := HOb.out.x.c 3 _ rfl; have bf3 := HOb.out.x.f 3; have n3 := HOb.out.r.c 3 _ rfl; have nf3 := HOb.out.r.f 3; have b4 := HOb.out.x.c 4 _ rfl; have bf4 := HOb.out.x.f 4; have n4 := HOb.out.r.c 4 _ rfl; have nf4 := HOb.out.r.f 4; have bl1 := HOb.out.x.lt; have nl1 := HOb.out.r.lt
            rcases heo with he | he | he
            · rw [show (R.e != 100) = false by simp [he]] at kv
              clear ke ka
              go_wp2_with fail
              have h9 := ob_endD HOb.out HL3.out HQ.out
              obtain ⟨T4, L4, hd4, ht4⟩ := h9.2.2.2
              have g0 := h9.1.c 0 _ rfl
              have g1 := h9.1.c 1 _ rfl
              have g2 := h9.1.c 2 _ rfl
              have g3 := h9.1.c 3 _ rfl
              have g4 := h9.1.c 4 _ rfl
              have hout : outMem R = [] := by simp [outMem, he]
              refine bodyPost_ret (v := .agg #[.int .i64 100, .int .i64 0, .slice a R.pr.length c, .slice none 0 0, .int .i64 (R.s : Int)]) (by simp [results, Tryd.results14, go_sem, g0, g1, g2, g3, g4]) rfl ⟨a, none, c, 0, T4, L4, by simp [outV, he], h9.2.1, by rw [hout]; exact h9.2.2.1, hd4, ht4⟩
            · rw [show (R.e != 100) = true by simp [he]] at kv
              rw [if_neg (by omega)] at ke
              have HO1 : Hid (Ob w w3 ((wy.setCell ⟨w3.heap.size, 0, none⟩ (.int .i64 0)).setCell ⟨w3.heap.size, 1, none⟩ (.int .i64 R.v)) w.heap.size w3.heap.size a none R.pr [] #[.int .i64 0, .int .i64 R.v, .slice a R.pr.length c, .slice none 0 0, .int .i64 (R.s : Int)]) := (HOb.out.set (fun h => by simp at h) (j := 0) (by simp) (.int .i64 0)).set (fun h => by simp at h) (j := 1) (by simp) (.int .i64 R.v)
              go_wp2_with (first | (go_at_call 31; refine Calls.mono (rcells_any (HRd.out _ HO1.out.up).1) ?_; rintro e w5 ⟨r, cr, rfl, ho, hb5⟩; have HO2 : Hid (Ob w w3 w5 w.heap.size w3.heap.size a r R.pr (memL R) #[.int .i64 0, .int .i64 R.v, .slice a R.pr.length c, .slice none 0 0, .int .i64 (R.s : Int)] ∧ (0 < (memL R).length → ∀ x, r = some x → x.block ≠ w3.heap.size)) := HO1.out.memD ho hb5; clear ho hb5 b0 bf0 n0 nf0 b1 bf1 n1 nf1 b2 bf2 n2 nf2 b3 bf3 n3 nf3 b4 bf4 n4 nf4 bl1 nl1 kv ke ka t0 t1; have b0 := HO2.out.1.x.c 0 _ rfl; have bf0 := HO2.out.1.x.f 0; have n0 := HO2.out.1.r.c 0 _ rfl; have nf0 := HO2.out.1.r.f 0; have b1 := HO2.out.1.x.c 1 _ rfl; have bf1 := HO2.out.1.x.f 1; have n1 := HO2.out.1.r.c 1 _ rfl; have nf1 := HO2.out.1.r.f 1; have b2 := HO2.out.1.x.c 2 _ rfl; have bf2 := HO2.out.1.x.f 2; have n2 := HO2.out.1.r.c 2 _ rfl; have nf2 := HO2.out.1.r.f 2; have b3 := HO2.out.1.x.c 3 _ rfl; have bf3 := HO2.out.1.x.f 3; have n3 := HO2.out.1.r.c 3 _ rfl; have nf3 := HO2.out.1.r.f 3; have b4 := HO2.out.1.x.c 4 _ rfl; have bf4 := HO2.out.1.x.f 4; have n4 := HO2.out.1.r.c 4 _ rfl; have nf4 := HO2.out.1.r.f 4; have bl1 := HO2.out.1.x.lt; have nl1 := HO2.out.1.r.lt))
              have h8 := HO2.out.1.set HO2.out.2 (j := 3) (by simp) (.slice r 256 cr)
              have h9 := ob_endD h8 HL3.out HQ.out
              obtain ⟨T4, L4, hd4, ht4⟩ := h9.2.2.2
              have g0 := h9.1.c 0 _ rfl
              have g1 := h9.1.c 1 _ rfl
              have g2 := h9.1.c 2 _ rfl
              have g3 := h9.1.c 3 _ rfl
              have g4 := h9.1.c 4 _ rfl
              have hout : outMem R = memL R := by simp [outMem, he]
              refine bodyPost_ret (v := .agg #[.int .i64 0, .int .i64 R.v, .slice a R.pr.length c, .slice r 256 cr, .int .i64 (R.s : Int)]) (by simp [results, Tryd.results14, go_sem, g0, g1, g2, g3, g4]) rfl ⟨a, r, c, cr, T4, L4, by simp [outV, he], h9.2.1, by rw [hout]; exact h9.2.2.1, hd4, ht4⟩
            · rw [show (R.e != 100) = true by simp [he]] at kv
              rw [if_pos he] at ke
              have hv0 : R.v = 0 := by
                rcases HL3.out.vz with h | h
                · omega
                · exact h
              rw [hv0] at ka
              have HO1 : Hid (Ob w w3 ((wy.setCell ⟨w3.heap.size, 0, none⟩ (.int .i64 101)).setCell ⟨w3.heap.size, 1, none⟩ (.int .i64 0)) w.heap.size w3.heap.size a none R.pr [] #[.int .i64 101, .int .i64 0, .slice a R.pr.length c, .slice none 0 0, .int .i64 (R.s : Int)]) := (HOb.out.set (fun h => by simp at h) (j := 0) (by simp) (.int .i64 101)).set (fun h => by simp at h) (j := 1) (by simp) (.int .i64 0)
              clear hv0
              go_wp2_with fail
              have h9 := ob_endD HO1.out HL3.out HQ.out
              obtain ⟨T4, L4, hd4, ht4⟩ := h9.2.2.2
              have g0 := h9.1.c 0 _ rfl
              have g1 := h9.1.c 1 _ rfl
              have g2 := h9.1.c 2 _ rfl
              have g3 := h9.1.c 3 _ rfl
              have g4 := h9.1.c 4 _ rfl
              have hout : outMem R = [] := by simp [outMem, he]
              refine bodyPost_ret (v := .agg #[.int .i64 101, .int .i64 0, .slice a R.pr.length c, .slice none 0 0, .int .i64 (R.s : Int)]) (by simp [results, Tryd.results14, go_sem, g0, g1, g2, g3, g4]) rfl ⟨a, none, c, 0, T4, L4, by simp [outV, he], h9.2.1, by rw [hout]; exact h9.2.2.1, hd4, ht4⟩
      · have he : M1.e = 100 := by
          rcases Int.lt_trichotomy M1.e 100 with h | h | h
          · exact absurd (.inl (by omega)) hst
          · exact h
          · exact absurd (.inl (by omega)) hst
        have ht : trapB ps M1 = false := by
          cases hc : trapB ps M1
          · rfl
          · exact absurd (.inr hc) hst
        have HC : Hid (Calls Tryd.prog 29 #[ptr q] wz (LPost w q ps T true (stepM ps M1))) := HL.out.1.on he ht (by have := HL.out.2.2; omega)
        have HN : Hid (runM ps (N - (j + 1)) (stepM ps M1) = R ∧ (stepM ps M1).s ≤ M.s + (j + 1)) := ⟨(by
          have := HL.out.2.1
          rw [show N - j = N - (j + 1) + 1 by omega, run_more he ht] at this; exact this), (by
          have := HL.out.2.2
          show (M1.s + 1) ≤ _
          omega)⟩
        clear hst he ht HL
        generalize stepM ps M1 = M2 at *
        go_wp2_with (first
          | (go_at_call 29; refine Calls.mono HC.out ?_; rintro e w2 ⟨rfl, hl2⟩; have HL2 : Hid (Lz w w2 q ps T M2) := hl2; clear hl2 HC))
        go_roundw
        case rel => exact ⟨j + 1, M2, by omega, by go_num, HL2.out, HN.out.1, HN.out.2⟩
        case measure => simp [intOf]; omega
    · obtain rfl : N = j := by omega
      have HR0 : Hid (runM ps 0 M1 = R) := by
        have := HL.out.2.1
        rw [Nat.sub_self] at this; exact this
      by_cases htr : M1.e = 100 ∧ trapB ps M1 = true
      · have HTr : Hid (Calls Tryd.prog 30 #[ptr q] wz fun e w2 => e = .returned (.bool true) ∧ Below wz.heap.size wz w2) := by
          have := HL.out.1.trap
          rw [htr.1, htr.2] at this; exact this
        have HC : Hid (∀ W, Lz w W q ps T M1 → Calls Tryd.prog 29 #[ptr q] W (LPost w q ps T false R)) := fun W hl => by
          have := hl.stop (.inr htr.2)
          rw [HR0.out] at this; exact this
        clear htr HR0
        go_upto_region 7 with (first
          | (go_at_call 30; refine Calls.mono HTr.out ?_; rintro e w2 ⟨rfl, hb2⟩; have HL2 : Hid (Lz w w2 q ps T M1) := HL.out.1.up hb2; clear hb2 HTr)
          | (go_at_call 29; refine Calls.mono (HC.out w2 HL2.out) ?_; rintro e w3 ⟨rfl, hl3⟩; have HL3 : Hid (Lz w w3 q ps T R) := hl3; clear hl3 HC HL2 HL))
        obtain ⟨ba, po, bl, bc, pc, L3, hrd⟩ := HL3.out.rd
        have HRd : Hid (∀ W, Below w3.heap.size w3 W → DAt W q (dG ba bl bc po pc R L3) ∧ NL W po R.pr) := fun W hb => ⟨hrd.at_.up hb, hrd.pr.up hb⟩
        have s0 := hrd.at_.ks
        have s1 := hrd.at_.lt
        have heo := HL3.out.eo.1
        have hpl : R.pr.length ≤ 1000000000000 := Nat.le_trans HL3.out.eo.2 HRs.out.1
        have HP0 : Hid (Pw w3 (w3.alloc (.cells #[.int .i64 100, .int .i64 0, .slice none 0 0, .slice none 0 0, .int .i64 (R.s : Int)] 39)) R none 0 0) := ⟨(Below.refl _ _).alloc (Nat.le_refl _) _, Op.At.new _ _ _, World.ownsRow_nil _ _ _ _⟩
        clear hrd
        go_wp2_with fail
        clear s0 s1
        go_loopw [7] (fun i wz => ∃ (k : Nat) (a : Option Addr) (c : Nat), k ≤ R.pr.length ∧ i = .int .i64 k ∧ Pw w3 wz R a c k) (fun i _ => R.pr.length - (intOf i).toNat)
        case atStart => exact ⟨0, none, 0, by omega, rfl, HP0.out⟩
        case round =>
          rename World => wy
          obtain ⟨k, a, c, hk, rfl, hpw⟩ := hrel
          have HP : Hid (Pw w3 wy R a c k) := hpw
          clear hpw HP0
          have t0 := (HRd.out wy HP.out.up).1.kp
          have t1 := (HRd.out wy HP.out.up).1.lt
          by_cases hkl : k < R.pr.length
          · have hki : (k : Int) < R.pr.length := by omega
            obtain ⟨pb, pf, rfl, pz, px⟩ := (HRd.out wy HP.out.up).2.is (by omega)
            have p0 := px k hkl
            have HPx : Hid (nums (R.pr.take k) ++ [.int .i64 R.pr[k]] = nums (R.pr.take (k + 1))) := HPr.out R k hkl
            clear px heo
            generalize R.pr[k] = pv at *
            have x0 := HP.out.x.c 0 _ rfl
            have x1 := HP.out.x.c 1 _ rfl
            have x2 := HP.out.x.c 2 _ rfl
            have x3 := HP.out.x.c 3 _ rfl
            have x4 := HP.out.x.c 4 _ rfl
            have xl := HP.out.x.lt
            go_wp2_with fail
            have e1 : wy.drew.heap.size = wy.heap.size := rfl
            go_region_law
              ((refine step_append_lies _ (by rfl) _ _ 25 (by rfl) (w3.heap.size + 1) 2 i0 (.int .i64 0) 1 8 Tryd.underlying25 HI.out.1 HI.out.2.1 HI.out.2.2.1 HI.out.2.2.2 rfl (by decide) _ _ _ (by rfl) (HP.out.row.drew.alloc _) ⟨wy.heap.size, 0, none⟩ 1 1 [.int .i64 pv] (by rfl) rfl (World.news_of_block (heap_alloc_new wy.drew (.cells #[.int .i64 pv] 2))) (by simp [Value.oneCell']) (by decide) (by unfold maxLen; omega) (by omega) (by have h5 := HP.out.x.lt; simp; omega) _ rfl ?_; intro g cap w4 hown hgrow hg hlt3; have HP3 : Hid (Op.At w4 w3.heap.size #[.int .i64 100, .int .i64 0, .slice a k c, .slice none 0 0, .int .i64 (R.s : Int)] ∧ Pw w3 (w4.setCell ⟨w3.heap.size, 2, none⟩ (.slice (some ⟨g, 0, none⟩) (k + 1) cap)) R (some ⟨g, 0, none⟩) cap (k + 1)) := pw_next HP.out (((drew_up wy).alloc (Nat.le_refl _) _)) hgrow hown HPx.out; have y0 := HP3.out.1.c 2 _ rfl; have y1 := HP3.out.1.f 2; have y2 := HP3.out.1.lt; clear hown hgrow hg hlt3))
            all_goals
              go_wp2_with fail
              go_roundw
              case rel => exact ⟨k + 1, _, _, by omega, by go_num, HP3.out.2⟩
              case measure => simp [intOf]; omega
          · obtain rfl : R.pr.length = k := by omega
            have kv := (HRd.out wy HP.out.up).1.kv
            have ke := (HRd.out wy HP.out.up).1.ke
            have ka := (HRd.out wy HP.out.up).1.ka
            have HOb : Hid (Ob w w3 wy w.heap.size w3.heap.size a none R.pr [] #[.int .i64 100, .int .i64 0, .slice a R.pr.length c, .slice none 0 0, .int .i64 (R.s : Int)]) := pw_ob HP.out HL3.out
            have hnb : ¬ w3.heap.size = w.heap.size := by have := HOb.out.nb; omega
            have hnb' : ¬ w.heap.size = w3.heap.size := fun e => hnb e.symm
            have hqb : ¬ q = w3.heap.size := by have h5 := HOb.out.nb; have h6 := HQ.out; omega
            have hqb' : ¬ w3.heap.size = q := fun e => hqb e.symm
            have hqn : ¬ q = w.heap.size := by have h6 := HQ.out; omega
            have hqn' : ¬ w.heap.size = q := fun e => hqn e.symm
            have b0 := HOb.out.x.c 0 _ rfl; have bf0 := HOb.out.x.f 0; have n0 := HOb.out.r.c 0 _ rfl; have nf0 := HOb.out.r.f 0; have b1 := HOb.out.x.c 1 _ rfl; have bf1 := HOb.out.x.f 1; have n1 := HOb.out.r.c 1 _ rfl; have nf1 := HOb.out.r.f 1; have b2 := HOb.out.x.c 2 _ rfl; have bf2 := HOb.out.x.f 2; have n2 := HOb.out.r.c 2 _ rfl; have nf2 := HOb.out.r.f 2; have b3 := HOb.out.x.c 3 _ rfl; have bf3 := HOb.out.x.f 3; have n3 := HOb.out.r.c 3 _ rfl; have nf3 := HOb.out.r.f 3; have b4 := HOb.out.x.c 4 _ rfl; have bf4 := HOb.out.x.f 4; have n4 := HOb.out.r.c 4 _ rfl; have nf4 := HOb.out.r.f 4; have bl1 := HOb.out.x.lt; have nl1 := HOb.out.r.lt
            rcases heo with he | he | he
            · rw [show (R.e != 100) = false by simp [he]] at kv
              clear ke ka
              go_wp2_with fail
              have h9 := ob_endD HOb.out HL3.out HQ.out
              obtain ⟨T4, L4, hd4, ht4⟩ := h9.2.2.2
              have g0 := h9.1.c 0 _ rfl
              have g1 := h9.1.c 1 _ rfl
              have g2 := h9.1.c 2 _ rfl
              have g3 := h9.1.c 3 _ rfl
              have g4 := h9.1.c 4 _ rfl
              have hout : outMem R = [] := by simp [outMem, he]
              refine bodyPost_ret (v := .agg #[.int .i64 100, .int .i64 0, .slice a R.pr.length c, .slice none 0 0, .int .i64 (R.s : Int)]) (by simp [results, Tryd.results14, go_sem, g0, g1, g2, g3, g4]) rfl ⟨a, none, c, 0, T4, L4, by simp [outV, he], h9.2.1, by rw [hout]; exact h9.2.2.1, hd4, ht4⟩
            · rw [show (R.e != 100) = true by simp [he]] at kv
              rw [if_neg (by omega)] at ke
              have HO1 : Hid (Ob w w3 ((wy.setCell ⟨w3.heap.size, 0, none⟩ (.int .i64 0)).setCell ⟨w3.heap.size, 1, none⟩ (.int .i64 R.v)) w.heap.size w3.heap.size a none R.pr [] #[.int .i64 0, .int .i64 R.v, .slice a R.pr.length c, .slice none 0 0, .int .i64 (R.s : Int)]) := (HOb.out.set (fun h => by simp at h) (j := 0) (by simp) (.int .i64 0)).set (fun h => by simp at h) (j := 1) (by simp) (.int .i64 R.v)
              go_wp2_with (first | (go_at_call 31; refine Calls.mono (rcells_any (HRd.out _ HO1.out.up).1) ?_; rintro e w5 ⟨r, cr, rfl, ho, hb5⟩; have HO2 : Hid (Ob w w3 w5 w.heap.size w3.heap.size a r R.pr (memL R) #[.int .i64 0, .int .i64 R.v, .slice a R.pr.length c, .slice none 0 0, .int .i64 (R.s : Int)] ∧ (0 < (memL R).length → ∀ x, r = some x → x.block ≠ w3.heap.size)) := HO1.out.memD ho hb5; clear ho hb5 b0 bf0 n0 nf0 b1 bf1 n1 nf1 b2 bf2 n2 nf2 b3 bf3 n3 nf3 b4 bf4 n4 nf4 bl1 nl1 kv ke ka t0 t1; have b0 := HO2.out.1.x.c 0 _ rfl; have bf0 := HO2.out.1.x.f 0; have n0 := HO2.out.1.r.c 0 _ rfl; have nf0 := HO2.out.1.r.f 0; have b1 := HO2.out.1.x.c 1 _ rfl; have bf1 := HO2.out.1.x.f 1; have n1 := HO2.out.1.r.c 1 _ rfl; have nf1 := HO2.out.1.r.f 1; have b2 := HO2.out.1.x.c 2 _ rfl; have bf2 := HO2.out.1.x.f 2; have n2 := HO2.out.1.r.c 2 _ rfl; have nf2 := HO2.out.1.r.f 2; have b3 := HO2.out.1.x.c 3 _ rfl; have bf3 := HO2.out.1.x.f 3; have n3 := HO2.out.1.r.c 3 _ rfl; have nf3 := HO2.out.1.r.f 3; have b4 := HO2.out.1.x.c 4 _ rfl; have bf4 := HO2.out.1.x.f 4; have n4 := HO2.out.1.r.c 4 _ rfl; have nf4 := HO2.out.1.r.f 4; have bl1 := HO2.out.1.x.lt; have nl1 := HO2.out.1.r.lt))
              have h8 := HO2.out.1.set HO2.out.2 (j := 3) (by simp) (.slice r 256 cr)
              have h9 := ob_endD h8 HL3.out HQ.out
              obtain ⟨T4, L4, hd4, ht4⟩ := h9.2.2.2
              have g0 := h9.1.c 0 _ rfl
              have g1 := h9.1.c 1 _ rfl
              have g2 := h9.1.c 2 _ rfl
              have g3 := h9.1.c 3 _ rfl
              have g4 := h9.1.c 4 _ rfl
              have hout : outMem R = memL R := by simp [outMem, he]
              refine bodyPost_ret (v := .agg #[.int .i64 0, .int .i64 R.v, .slice a R.pr.length c, .slice r 256 cr, .int .i64 (R.s : Int)]) (by simp [results, Tryd.results14, go_sem, g0, g1, g2, g3, g4]) rfl ⟨a, r, c, cr, T4, L4, by simp [outV, he], h9.2.1, by rw [hout]; exact h9.2.2.1, hd4, ht4⟩
            · rw [show (R.e != 100) = true by simp [he]] at kv
              rw [if_pos he] at ke
              have hv0 : R.v = 0 := by
                rcases HL3.out.vz with h | h
                · omega
                · exact h
              rw [hv0] at ka
              have HO1 : Hid (Ob w w3 ((wy.setCell ⟨w3.heap.size, 0, none⟩ (.int .i64 101)).setCell ⟨w3.heap.size, 1, none⟩ (.int .i64 0)) w.heap.size w3.heap.size a none R.pr [] #[.int .i64 101, .int .i64 0, .slice a R.pr.length c, .slice none 0 0, .int .i64 (R.s : Int)]) := (HOb.out.set (fun h => by simp at h) (j := 0) (by simp) (.int .i64 101)).set (fun h => by simp at h) (j := 1) (by simp) (.int .i64 0)
              clear hv0
              go_wp2_with fail
              have h9 := ob_endD HO1.out HL3.out HQ.out
              obtain ⟨T4, L4, hd4, ht4⟩ := h9.2.2.2
              have g0 := h9.1.c 0 _ rfl
              have g1 := h9.1.c 1 _ rfl
              have g2 := h9.1.c 2 _ rfl
              have g3 := h9.1.c 3 _ rfl
              have g4 := h9.1.c 4 _ rfl
              have hout : outMem R = [] := by simp [outMem, he]
              refine bodyPost_ret (v := .agg #[.int .i64 101, .int .i64 0, .slice a R.pr.length c, .slice none 0 0, .int .i64 (R.s : Int)]) (by simp [results, Tryd.results14, go_sem, g0, g1, g2, g3, g4]) rfl ⟨a, none, c, 0, T4, L4, by simp [outV, he], h9.2.1, by rw [hout]; exact h9.2.2.1, hd4, ht4⟩
      · have HTr : Hid (Calls Tryd.prog 30 #[ptr q] wz fun e w2 => e = .returned (.bool false) ∧ Below wz.heap.size wz w2) := by
          have := HL.out.1.trap
          rw [show (M1.e == 100 && trapB ps M1) = false by
            cases hc : trapB ps M1
            · simp
            · have : ¬ M1.e = 100 := fun e => htr ⟨e, hc⟩
              simp [this]] at this
          exact this
        have HMR : Hid (M1 = R) := by
          have := HR0.out
          rw [run_idle htr] at this; exact this
        clear htr HR0
        go_upto_region 7 with (first
          | (go_at_call 30; refine Calls.mono HTr.out ?_; rintro e w3 ⟨rfl, hb2⟩; have HL3 : Hid (Lz w w3 q ps T R) := (by rw [← HMR.out]; exact HL.out.1.up hb2); clear hb2 HTr HMR HL))
        obtain ⟨ba, po, bl, bc, pc, L3, hrd⟩ := HL3.out.rd
        have HRd : Hid (∀ W, Below w3.heap.size w3 W → DAt W q (dG ba bl bc po pc R L3) ∧ NL W po R.pr) := fun W hb => ⟨hrd.at_.up hb, hrd.pr.up hb⟩
        have s0 := hrd.at_.ks
        have s1 := hrd.at_.lt
        have heo := HL3.out.eo.1
        have hpl : R.pr.length ≤ 1000000000000 := Nat.le_trans HL3.out.eo.2 HRs.out.1
        have HP0 : Hid (Pw w3 (w3.alloc (.cells #[.int .i64 100, .int .i64 0, .slice none 0 0, .slice none 0 0, .int .i64 (R.s : Int)] 39)) R none 0 0) := ⟨(Below.refl _ _).alloc (Nat.le_refl _) _, Op.At.new _ _ _, World.ownsRow_nil _ _ _ _⟩
        clear hrd
        go_wp2_with fail
        clear s0 s1
        go_loopw [7] (fun i wz => ∃ (k : Nat) (a : Option Addr) (c : Nat), k ≤ R.pr.length ∧ i = .int .i64 k ∧ Pw w3 wz R a c k) (fun i _ => R.pr.length - (intOf i).toNat)
        case atStart => exact ⟨0, none, 0, by omega, rfl, HP0.out⟩
        case round =>
          rename World => wy
          obtain ⟨k, a, c, hk, rfl, hpw⟩ := hrel
          have HP : Hid (Pw w3 wy R a c k) := hpw
          clear hpw HP0
          have t0 := (HRd.out wy HP.out.up).1.kp
          have t1 := (HRd.out wy HP.out.up).1.lt
          by_cases hkl : k < R.pr.length
          · have hki : (k : Int) < R.pr.length := by omega
            obtain ⟨pb, pf, rfl, pz, px⟩ := (HRd.out wy HP.out.up).2.is (by omega)
            have p0 := px k hkl
            have HPx : Hid (nums (R.pr.take k) ++ [.int .i64 R.pr[k]] = nums (R.pr.take (k + 1))) := HPr.out R k hkl
            clear px heo
            generalize R.pr[k] = pv at *
            have x0 := HP.out.x.c 0 _ rfl
            have x1 := HP.out.x.c 1 _ rfl
            have x2 := HP.out.x.c 2 _ rfl
            have x3 := HP.out.x.c 3 _ rfl
            have x4 := HP.out.x.c 4 _ rfl
            have xl := HP.out.x.lt
            go_wp2_with fail
            have e1 : wy.drew.heap.size = wy.heap.size := rfl
            go_region_law
              ((refine step_append_lies _ (by rfl) _ _ 25 (by rfl) (w3.heap.size + 1) 2 i0 (.int .i64 0) 1 8 Tryd.underlying25 HI.out.1 HI.out.2.1 HI.out.2.2.1 HI.out.2.2.2 rfl (by decide) _ _ _ (by rfl) (HP.out.row.drew.alloc _) ⟨wy.heap.size, 0, none⟩ 1 1 [.int .i64 pv] (by rfl) rfl (World.news_of_block (heap_alloc_new wy.drew (.cells #[.int .i64 pv] 2))) (by simp [Value.oneCell']) (by decide) (by unfold maxLen; omega) (by omega) (by have h5 := HP.out.x.lt; simp; omega) _ rfl ?_; intro g cap w4 hown hgrow hg hlt3; have HP3 : Hid (Op.At w4 w3.heap.size #[.int .i64 100, .int .i64 0, .slice a k c, .slice none 0 0, .int .i64 (R.s : Int)] ∧ Pw w3 (w4.setCell ⟨w3.heap.size, 2, none⟩ (.slice (some ⟨g, 0, none⟩) (k + 1) cap)) R (some ⟨g, 0, none⟩) cap (k + 1)) := pw_next HP.out (((drew_up wy).alloc (Nat.le_refl _) _)) hgrow hown HPx.out; have y0 := HP3.out.1.c 2 _ rfl; have y1 := HP3.out.1.f 2; have y2 := HP3.out.1.lt; clear hown hgrow hg hlt3))
            all_goals
              go_wp2_with fail
              go_roundw
              case rel => exact ⟨k + 1, _, _, by omega, by go_num, HP3.out.2⟩
              case measure => simp [intOf]; omega
          · obtain rfl : R.pr.length = k := by omega
            have kv := (HRd.out wy HP.out.up).1.kv
            have ke := (HRd.out wy HP.out.up).1.ke
            have ka := (HRd.out wy HP.out.up).1.ka
            have HOb : Hid (Ob w w3 wy w.heap.size w3.heap.size a none R.pr [] #[.int .i64 100, .int .i64 0, .slice a R.pr.length c, .slice none 0 0, .int .i64 (R.s : Int)]) := pw_ob HP.out HL3.out
            have hnb : ¬ w3.heap.size = w.heap.size := by have := HOb.out.nb; omega
            have hnb' : ¬ w.heap.size = w3.heap.size := fun e => hnb e.symm
            have hqb : ¬ q = w3.heap.size := by have h5 := HOb.out.nb; have h6 := HQ.out; omega
            have hqb' : ¬ w3.heap.size = q := fun e => hqb e.symm
            have hqn : ¬ q = w.heap.size := by have h6 := HQ.out; omega
            have hqn' : ¬ w.heap.size = q := fun e => hqn e.symm
            have b0 := HOb.out.x.c 0 _ rfl; have bf0 := HOb.out.x.f 0; have n0 := HOb.out.r.c 0 _ rfl; have nf0 := HOb.out.r.f 0; have b1 := HOb.out.x.c 1 _ rfl; have bf1 := HOb.out.x.f 1; have n1 := HOb.out.r.c 1 _ rfl; have nf1 := HOb.out.r.f 1; have b2 := HOb.out.x.c 2 _ rfl; have bf2 := HOb.out.x.f 2; have n2 := HOb.out.r.c 2 _ rfl; have nf2 := HOb.out.r.f 2; have b3 := HOb.out.x.c 3 _ rfl; have bf3 := HOb.out.x.f 3; have n3 := HOb.out.r.c 3 _ rfl; have nf3 := HOb.out.r.f 3; have b4 := HOb.out.x.c 4 _ rfl; have bf4 := HOb.out.x.f 4; have n4 := HOb.out.r.c 4 _ rfl; have nf4 := HOb.out.r.f 4; have bl1 := HOb.out.x.lt; have nl1 := HOb.out.r.lt
            rcases heo with he | he | he
            · rw [show (R.e != 100) = false by simp [he]] at kv
              clear ke ka
              go_wp2_with fail
              have h9 := ob_endD HOb.out HL3.out HQ.out
              obtain ⟨T4, L4, hd4, ht4⟩ := h9.2.2.2
              have g0 := h9.1.c 0 _ rfl
              have g1 := h9.1.c 1 _ rfl
              have g2 := h9.1.c 2 _ rfl
              have g3 := h9.1.c 3 _ rfl
              have g4 := h9.1.c 4 _ rfl
              have hout : outMem R = [] := by simp [outMem, he]
              refine bodyPost_ret (v := .agg #[.int .i64 100, .int .i64 0, .slice a R.pr.length c, .slice none 0 0, .int .i64 (R.s : Int)]) (by simp [results, Tryd.results14, go_sem, g0, g1, g2, g3, g4]) rfl ⟨a, none, c, 0, T4, L4, by simp [outV, he], h9.2.1, by rw [hout]; exact h9.2.2.1, hd4, ht4⟩
            · rw [show (R.e != 100) = true by simp [he]] at kv
              rw [if_neg (by omega)] at ke
              have HO1 : Hid (Ob w w3 ((wy.setCell ⟨w3.heap.size, 0, none⟩ (.int .i64 0)).setCell ⟨w3.heap.size, 1, none⟩ (.int .i64 R.v)) w.heap.size w3.heap.size a none R.pr [] #[.int .i64 0, .int .i64 R.v, .slice a R.pr.length c, .slice none 0 0, .int .i64 (R.s : Int)]) := (HOb.out.set (fun h => by simp at h) (j := 0) (by simp) (.int .i64 0)).set (fun h => by simp at h) (j := 1) (by simp) (.int .i64 R.v)
              go_wp2_with (first | (go_at_call 31; refine Calls.mono (rcells_any (HRd.out _ HO1.out.up).1) ?_; rintro e w5 ⟨r, cr, rfl, ho, hb5⟩; have HO2 : Hid (Ob w w3 w5 w.heap.size w3.heap.size a r R.pr (memL R) #[.int .i64 0, .int .i64 R.v, .slice a R.pr.length c, .slice none 0 0, .int .i64 (R.s : Int)] ∧ (0 < (memL R).length → ∀ x, r = some x → x.block ≠ w3.heap.size)) := HO1.out.memD ho hb5; clear ho hb5 b0 bf0 n0 nf0 b1 bf1 n1 nf1 b2 bf2 n2 nf2 b3 bf3 n3 nf3 b4 bf4 n4 nf4 bl1 nl1 kv ke ka t0 t1; have b0 := HO2.out.1.x.c 0 _ rfl; have bf0 := HO2.out.1.x.f 0; have n0 := HO2.out.1.r.c 0 _ rfl; have nf0 := HO2.out.1.r.f 0; have b1 := HO2.out.1.x.c 1 _ rfl; have bf1 := HO2.out.1.x.f 1; have n1 := HO2.out.1.r.c 1 _ rfl; have nf1 := HO2.out.1.r.f 1; have b2 := HO2.out.1.x.c 2 _ rfl; have bf2 := HO2.out.1.x.f 2; have n2 := HO2.out.1.r.c 2 _ rfl; have nf2 := HO2.out.1.r.f 2; have b3 := HO2.out.1.x.c 3 _ rfl; have bf3 := HO2.out.1.x.f 3; have n3 := HO2.out.1.r.c 3 _ rfl; have nf3 := HO2.out.1.r.f 3; have b4 := HO2.out.1.x.c 4 _ rfl; have bf4 := HO2.out.1.x.f 4; have n4 := HO2.out.1.r.c 4 _ rfl; have nf4 := HO2.out.1.r.f 4; have bl1 := HO2.out.1.x.lt; have nl1 := HO2.out.1.r.lt))
              have h8 := HO2.out.1.set HO2.out.2 (j := 3) (by simp) (.slice r 256 cr)
              have h9 := ob_endD h8 HL3.out HQ.out
              obtain ⟨T4, L4, hd4, ht4⟩ := h9.2.2.2
              have g0 := h9.1.c 0 _ rfl
              have g1 := h9.1.c 1 _ rfl
              have g2 := h9.1.c 2 _ rfl
              have g3 := h9.1.c 3 _ rfl
              have g4 := h9.1.c 4 _ rfl
              have hout : outMem R = memL R := by simp [outMem, he]
              refine bodyPost_ret (v := .agg #[.int .i64 0, .int .i64 R.v, .slice a R.pr.length c, .slice r 256 cr, .int .i64 (R.s : Int)]) (by simp [results, Tryd.results14, go_sem, g0, g1, g2, g3, g4]) rfl ⟨a, r, c, cr, T4, L4, by simp [outV, he], h9.2.1, by rw [hout]; exact h9.2.2.1, hd4, ht4⟩
            · rw [show (R.e != 100) = true by simp [he]] at kv
              rw [if_pos he] at ke
              have hv0 : R.v = 0 := by
                rcases HL3.out.vz with h | h
                · omega
                · exact h
              rw [hv0] at ka
              have HO1 : Hid (Ob w w3 ((wy.setCell ⟨w3.heap.size, 0, none⟩ (.int .i64 101)).setCell ⟨w3.heap.size, 1, none⟩ (.int .i64 0)) w.heap.size w3.heap.size a none R.pr [] #[.int .i64 101, .int .i64 0, .slice a R.pr.length c, .slice none 0 0, .int .i64 (R.s : Int)]) := (HOb.out.set (fun h => by simp at h) (j := 0) (by simp) (.int .i64 101)).set (fun h => by simp at h) (j := 1) (by simp) (.int .i64 0)
              clear hv0
              go_wp2_with fail
              have h9 := ob_endD HO1.out HL3.out HQ.out
              obtain ⟨T4, L4, hd4, ht4⟩ := h9.2.2.2
              have g0 := h9.1.c 0 _ rfl
              have g1 := h9.1.c 1 _ rfl
              have g2 := h9.1.c 2 _ rfl
              have g3 := h9.1.c 3 _ rfl
              have g4 := h9.1.c 4 _ rfl
              have hout : outMem R = [] := by simp [outMem, he]
              refine bodyPost_ret (v := .agg #[.int .i64 101, .int .i64 0, .slice a R.pr.length c, .slice none 0 0, .int .i64 (R.s : Int)]) (by simp [results, Tryd.results14, go_sem, g0, g1, g2, g3, g4]) rfl ⟨a, none, c, 0, T4, L4, by simp [outV, he], h9.2.1, by rw [hout]; exact h9.2.2.1, hd4, ht4⟩
end
end Go.Proofs.YtlnfhbkkodhmaaaDoor.Sm
