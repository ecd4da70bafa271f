/- So many cycles (goOn): its walk. Conditions: the machine lies in memory, its bundles are well formed. -/
import Derived.Test.YtldfjlepbbmhnaaDoorQj
namespace Go.Proofs.YtldfjlepbbmhnaaDoor.Pp
open Go.ChangeShapes Go.WideShapes Go.ChangeAt Go.RowKit
open _root_.Go.Proofs.YtldfjlepbbmhnaaDoor.Op _root_.Go.Proofs.YtldfjlepbbmhnaaDoor.So _root_.Go.Proofs.YtldfjlepbbmhnaaDoor.Bu
open _root_.Go.Proofs.YtldfjlepbbmhnaaDoor.Tb (Tab TabAt Bnds)
set_option maxRecDepth 20000

/-- The machine under way, with the box that the catcher reads. -/
structure Gs (w wr : World) (t : Tab) (bs : List Bn) (H H1 : Hx) (S1 : PM) : Prop where
  mm : Mch wr t bs H1 S1
  tn : Tn w H wr H1
  bx : wr.cell? ⟨w.heap.size, 0, none⟩ = some (ptr H.mb)
  bl : w.heap.size < wr.heap.size
  bt : ¬ own H1 w.heap.size
section
variable {w wr w2 : World} {t : Tab} {bs : List Bn} {H H1 H2 : Hx} {S S1 S2 : PM}
theorem Gs.go (h : Gs w wr t bs H H1 S1) (hm : Mch w2 t bs H2 S2) (htn : Tn wr H1 w2 H2) : Gs w w2 t bs H H2 S2 :=
  ⟨hm, h.tn.trans htn, (htn.f.cell h.bl h.bt 0).trans h.bx, Nat.lt_of_lt_of_le h.bl htn.f.size, fun h' => (htn.t _ h').elim h.bt fun h'' => by have := h.bl; omega⟩
theorem Gs.up (h : Gs w wr t bs H H1 S1) (hb : Below wr.heap.size wr w2) : Gs w w2 t bs H H1 S1 := h.go (h.mm.up hb) (Tn.of hb)
theorem run_zero (t : Tab) (bs : List Bn) (S : PM) : runM t bs 0 S = S := rfl
theorem run_over (t : Tab) (bs : List Bn) {S : PM} (h : S.e ≠ 100) (k : Nat) : runM t bs k S = S := by
  cases k with
  | zero => rfl
  | succ k => unfold runM; rw [if_neg h]
theorem run_some (t : Tab) (bs : List Bn) {S S' : PM} {z : Int × Int} (h : S.e = 100) (e : cyM t bs S = (S', some z)) (k : Nat) : runM t bs (k + 1) S = endM S' z := by unfold runM; rw [if_pos h, e]
theorem run_none (t : Tab) (bs : List Bn) {S S' : PM} (h : S.e = 100) (e : cyM t bs S = (S', none)) (k : Nat) : runM t bs (k + 1) S = runM t bs k S' := by
  rw [runM, if_pos h, e]
set_option maxHeartbeats 4000000 in
theorem goOn_any (n L : Nat) (h : Mch w t bs H S) (hS : S.Ok L) (hB : Bo t bs) (hs : S.s + n ≤ 10000000000) (hL : L + 512 * n ≤ 100000000) : Calls Tryd.prog 28 #[ptr H.mb, .int .i64 (n : Int)] w fun e w' => e = .returned (.tuple #[]) ∧ ∃ H', Mch w' t bs H' (runM t bs n S) ∧ Tn w H w' H' := by
  have hmf : ∀ (fn : Fn) (first cap : Array Value) (w : World), (Instr.makeFunc fn first cap).run Tryd.prog w = .ok (.func fn first cap) w := fun _ _ _ _ => rfl
  have hq := h.c.lt
  have HG : Hid (Gs w (w.alloc (.cells #[ptr H.mb] 37)) t bs H H S) := ⟨h.up ((Below.refl _ _).alloc (Nat.le_refl _) _), Tn.of ((Below.refl _ _).alloc (Nat.le_refl _) _), (At.new w #[ptr H.mb] 37).c 0 _ rfl, by simp, fun e => by
    rcases e with e | ⟨i, hi, e⟩ | e
    · omega
    · have := ((h.rr i hi).lt _ e).2; omega
    · have := (h.pp.lt _ e).2; omega⟩
  have HB : Hid (Bo t bs) := hB
  clear h hB
  go_enter_defers Tryd.func28, Tryd.ntmps28
  go_wp2_with fail
  go_loopw [1] (fun i wr => ∃ (k L1 : Nat) (H1 : Hx) (S1 : PM), i = .int .i64 k ∧ Gs w wr t bs H H1 S1 ∧ runM t bs k S1 = runM t bs n S ∧ S1.s + k ≤ 10000000000 ∧ S1.Ok L1 ∧ L1 + 512 * k ≤ 100000000) (fun i _ => (intOf i).toNat)
  case atStart => exact ⟨n, L, H, S, rfl, HG.out, rfl, hs, hS, hL⟩
  case round =>
    rename_i wr
    obtain ⟨k, L1, H1, S1, rfl, hg, hrun, hbd, hok, hL1⟩ := hrel
    have me := hg.mm.c.e
    have ml := hg.mm.c.lt
    have mq := hg.tn.q
    rw [mq] at me ml
    have bx := hg.bx
    have bl := hg.bl
    cases k with
    | zero =>
      have HY : Hid (Gs w wr t bs H H1 S1) := hg
      have HF : Hid (runM t bs 0 S1 = runM t bs n S) := hrun
      clear hg hrun hbd hok hL1 HG mq
      go_wp2_with fail
      refine leaves_cons (f := 47) (args := #[.pointer (some ⟨w.heap.size, 0, none⟩)]) (by simp) (by simp [go_sem]) ?_
      refine (catch_idle ⟨w.heap.size, 0, none⟩ _).mono ?_
      rintro e u' w'' ⟨rfl, rfl, hb2⟩
      have hy := HY.out.up hb2
      simp [Leaves, settle, results, Tryd.results28, go_sem]
      exact ⟨H1, by rw [← HF.out]; exact hy.mm, hy.tn⟩
    | succ k =>
      have hk0 : (0 : Int) < ((k + 1 : Nat) : Int) := by omega
      have hkc : ((k + 1 : Nat) : Int) = (k : Int) + 1 := by omega
      have hkb : (k : Int) ≤ 10000000000 := by omega
      by_cases he : S1.e = 100
      · rw [he] at me
        have hcy : Calls Tryd.prog 48 #[ptr H.mb] wr fun e w' => CyP wr t bs H1 (cyM t bs S1) e w' := by
          have := cycle_any hg.mm hok HB.out (by omega) (by omega)
          rw [mq] at this
          exact this
        have hco := cyM_ok hok HB.out
        generalize hR : cyM t bs S1 = R at *
        obtain ⟨S', z⟩ := R
        cases z with
        | none =>
          have HN : Hid (Calls Tryd.prog 48 #[ptr H.mb] wr fun e w' => e = .returned (.tuple #[]) ∧ ∃ H', Mch w' t bs H' S' ∧ Tn wr H1 w' H') := hcy
          have HF : Hid (runM t bs k S' = runM t bs n S) := by
            show runM t bs k S' = runM t bs n S
            rw [← hrun, run_none t bs he hR]
          have HW : Hid (Gs w wr t bs H H1 S1) := hg
          have HO : Hid (S'.Ok (L1 + 512) ∧ S'.s + k ≤ 10000000000 ∧ L1 + 512 + 512 * k ≤ 100000000) := ⟨hco.1, by have := hco.2; dsimp only at this; omega, by omega⟩
          clear hg hrun hbd hok hL1 HG hcy hco hR he mq
          rw [hkc] at hk0 ⊢
          clear hkc
          go_wp2_with (first | (go_at_call 48; refine Calls.mono HN.out ?_; rintro e w1 ⟨rfl, H2, m2, t2⟩; have HY : Hid (Gs w w1 t bs H H2 S') := HW.out.go m2 t2; clear m2 t2))
          go_roundw
          case rel => exact ⟨k, L1 + 512, H2, S', by go_num, HY.out, HF.out, HO.out.2.1, HO.out.1, HO.out.2.2⟩
          case measure => simp [intOf]
        | some z =>
          have HN : Hid (Calls Tryd.prog 48 #[ptr H.mb] wr fun e w' => e = .panicked [{ v := .iface 109 (.agg #[.int .i64 z.1, .int .i64 z.2]), recovered := false }] ∧ ∃ H', Mch w' t bs H' S' ∧ Tn wr H1 w' H') := hcy
          have HF : Hid (endM S' z = runM t bs n S) := by
            show endM S' z = runM t bs n S
            rw [← hrun, run_some t bs he hR]
          have HW : Hid (Gs w wr t bs H H1 S1) := hg
          have hs' : S'.s ≤ 1000000000000 := by have := hco.2; dsimp only at this; omega
          have HQ : Hid (w.heap.size ≠ H.mb) := fun e => by omega
          clear hg hrun hbd hok hL1 HG hcy hco hR he mq
          rw [hkc] at hk0 ⊢
          clear hkc
          go_wp2_with (first | (go_at_call 48; refine Calls.mono HN.out ?_; rintro e w1 ⟨rfl, H2, m2, t2⟩; have HY : Hid (Gs w w1 t bs H H2 S') := HW.out.go m2 t2; clear m2 t2))
          all_goals
            have hy := HY.out
            refine leaves_cons (f := 47) (args := #[.pointer (some ⟨w.heap.size, 0, none⟩)]) (by simp) (by simp [go_sem]) ?_
            refine (catch_panic w.heap.size z hy.mm (by rw [hy.tn.q]; exact hy.bx) hy.bl (by rw [hy.tn.q]; exact HQ.out) hs').mono ?_
            rintro e u' w'' ⟨rfl, rfl, m3, t3⟩
            simp [Leaves, settle, results, Tryd.results28, go_sem]
            exact ⟨H2, by rw [← HF.out]; exact m3, hy.tn.trans t3⟩
      · have HY : Hid (Gs w wr t bs H H1 S1) := hg
        have HF : Hid (S1 = runM t bs n S) := by
          show S1 = runM t bs n S
          rw [← hrun, run_over t bs he]
        have he' : (S1.e == 100) = false := by simpa using he
        clear hg hrun hbd hok hL1 HG he mq
        rw [hkc] at hk0 ⊢
        clear hkc
        go_wp2_with fail
        refine leaves_cons (f := 47) (args := #[.pointer (some ⟨w.heap.size, 0, none⟩)]) (by simp) (by simp [go_sem]) ?_
        refine (catch_idle ⟨w.heap.size, 0, none⟩ _).mono ?_
        rintro e u' w'' ⟨rfl, rfl, hb2⟩
        have hy := HY.out.up hb2
        simp [Leaves, settle, results, Tryd.results28, go_sem]
        exact ⟨H1, by rw [← HF.out]; exact hy.mm, hy.tn⟩
end
end Go.Proofs.YtldfjlepbbmhnaaDoor.Pp
