/- What goOn makes of the machine: so many steps, and a trap is caught. Read off the program by the walk. Conditions: the machine and its program lie in memory. -/
import Derived.Test.YtccakjijoadjkaaDoorNi
import Derived.Defers
import Derived.Recover
namespace Go.Proofs.YtccakjijoadjkaaDoor.Sm
open Go.ChangeShapes Go.WideShapes Go.ChangeAt Go.RowKit
open _root_.Go.Proofs.YtccakjijoadjkaaDoor.Op _root_.Go.Proofs.YtccakjijoadjkaaDoor.So
set_option maxRecDepth 20000
theorem ta_nil (w : World) : (Instr.typeAssert .nilIface 20 133 true).run Tryd.prog w = .ok (.tuple #[.agg #[.int .i64 0], .bool false]) w := by kernel_rfl
theorem ta_hit (w : World) : (Instr.typeAssert (.iface 133 (.agg #[.int .i64 101])) 20 133 true).run Tryd.prog w = .ok (.tuple #[.agg #[.int .i64 101], .bool true]) w := by kernel_rfl
theorem rep13 : Array.replicate 13 undef = #[undef, undef, undef, undef, undef, undef, undef, undef, undef, undef, undef, undef, undef] := rfl
set_option maxHeartbeats 1000000 in
theorem catch_idle (p : Addr) (w : World) : CallsD Tryd.prog 83 #[.pointer (some p)] .returning w fun e u' w' => e = .returned (.tuple #[]) ∧ u' = .returning ∧ Below w.heap.size w w' := by
  refine callsD_of_wpS Tryd.func83 rfl fun c₀ cs hu => ?_
  apply wpS_seq
  apply wpS_region
  simp [wpOpsS, go_sem, recoverD, hu, Tryd.ntmps83, Exit.thenS, ta_nil, Oper.upon, Result.andThen, rep13]
  apply wpS_seq
  apply wpS_region
  simp [wpOpsS, go_sem, Exit.thenS]
  refine wpS_cond (t := false) (by simp [Act.eval]) ?_
  simp only [Bool.false_eq_true, if_false]
  refine wpS_of_wp (wp_skip ?_)
  cases c₀
  simp_all [bodyPostS, results, Tryd.results83]
  exact (Below.refl _ _).alloc (Nat.le_refl _) _
set_option maxHeartbeats 1000000 in
theorem catch_panic (n q : Nat) (x : Value) (w : World) (hn : w.cell? ⟨n, 0, none⟩ = some (ptr q)) (hc : w.cell? ⟨q, 333, none⟩ = some x) (hz : w.frozen? ⟨q, 333, none⟩ = false) (h1 : n < w.heap.size) (h2 : q < w.heap.size) : CallsD Tryd.prog 83 #[.pointer (some ⟨n, 0, none⟩)] (.panicking [{ v := .iface 133 (.agg #[.int .i64 101]), recovered := false }]) w fun e u' w' => e = .returned (.tuple #[]) ∧ u' = .panicking [{ v := .iface 133 (.agg #[.int .i64 101]), recovered := true }] ∧ w' = (w.setCell ⟨q, 333, none⟩ (.int .i64 101)).alloc (.cells #[.int .i64 101] 133) := by
  refine callsD_of_wpS Tryd.func83 rfl fun c₀ cs hu => ?_
  apply wpS_seq
  apply wpS_region
  simp [wpOpsS, go_sem, recoverD, hu, Tryd.ntmps83, Exit.thenS, ta_hit, Oper.upon, Result.andThen, rep13]
  refine wpS_of_wp ?_
  go_wp2_with fail
  simp [bodyPostS, results, Tryd.results83]
/-- The machine under way, with the box that the catcher reads. -/
structure Gs (w wr : World) (q : Nat) (ps : List Bk) (T T1 : Nat → Prop) (M1 : Ma) : Prop where
  mm : MM wr q ps T1 M1
  tn : Tn w T wr T1
  bx : wr.cell? ⟨w.heap.size, 0, none⟩ = some (ptr q)
  bl : w.heap.size < wr.heap.size
  bt : ¬ T1 w.heap.size
theorem Gs.go {w wr w2 : World} {q : Nat} {ps : List Bk} {T T1 T2 : Nat → Prop} {M1 M2 : Ma} (h : Gs w wr q ps T T1 M1) (hm : MM w2 q ps T2 M2) (htn : Tn wr T1 w2 T2) : Gs w w2 q ps T T2 M2 :=
  ⟨hm, h.tn.trans htn, (htn.f.cell h.bl h.bt 0).trans h.bx, Nat.lt_of_lt_of_le h.bl htn.f.size, fun h' => (htn.t _ h').elim h.bt fun h'' => by have := h.bl; omega⟩
theorem Gs.up {w wr w2 : World} {q : Nat} {ps : List Bk} {T T1 : Nat → Prop} {M1 : Ma} (h : Gs w wr q ps T T1 M1) (hb : Below wr.heap.size wr w2) : Gs w w2 q ps T T1 M1 := h.go (h.mm.up hb) (Tn.of hb)
theorem MR.mat' {w : World} {q : Nat} {ps : List Bk} {T : Nat → Prop} {M : Ma} (h : MR w q ps T M) : w.cell? ⟨q, 333, none⟩ = some (.int .i64 M.e) ∧ w.cell? ⟨q, 336, none⟩ = some (.int .i64 (M.s : Int)) ∧ (∀ j : Nat, w.frozen? ⟨q, j, none⟩ = false) ∧ q < w.heap.size := by
  obtain ⟨_, _, _, _, hA⟩ := h.mat
  exact ⟨hA.e, hA.s, hA.fz, hA.lt⟩
theorem MR.setS {w : World} {q : Nat} {ps : List Bk} {T : Nat → Prop} {N : Ma} (h : MR w q ps T N) (k : Nat) : MR (w.setCell ⟨q, 336, none⟩ (.int .i64 (k : Int))) q ps T { N with s := k } ∧ Tn w T (w.setCell ⟨q, 336, none⟩ (.int .i64 (k : Int))) T := by
  obtain ⟨ba, bc, po, pc, hM, hP, hR, hT⟩ := h.ex
  exact mr_one hP hR hT h.tq h.tl (M' := { N with s := k }) (hM.set_s k) ((Fr.refl (One q) w).setCell (.inr rfl) _ _) rfl
theorem MR.setE {w : World} {q : Nat} {ps : List Bk} {T : Nat → Prop} {N : Ma} (h : MR w q ps T N) (k : Int) : MR (w.setCell ⟨q, 333, none⟩ (.int .i64 k)) q ps T { N with e := k } ∧ Tn w T (w.setCell ⟨q, 333, none⟩ (.int .i64 k)) T := by
  obtain ⟨ba, bc, po, pc, hM, hP, hR, hT⟩ := h.ex
  exact mr_one hP hR hT h.tq h.tl (M' := { N with e := k }) (hM.set_e k) ((Fr.refl (One q) w).setCell (.inr rfl) _ _) rfl
theorem step_more {w : World} {q : Nat} {ps : List Bk} {T : Nat → Prop} {M : Ma} (h : MM w q ps T M) (ht : trapB ps M = false) (hl : M.pr.length < 1099511627776) : Calls Tryd.prog 84 #[ptr q, .bool true] w fun e w' => e = .returned (.bool true) ∧ ∃ T', MR w' q ps T' (nextM ps M) ∧ Tn w T w' T' := by
  rcases Nat.lt_or_ge M.o (listM ps M).length with h1 | h1
  · exact step_do h h1 ht hl
  · exact step_end h (Nat.le_antisymm h.inv.o h1)
theorem step_none {w : World} {q : Nat} {ps : List Bk} {T : Nat → Prop} {M : Ma} (h : MM w q ps T M) (ht : trapB ps M = false) : Calls Tryd.prog 84 #[ptr q, .bool false] w fun e w' => e = .returned (.bool false) ∧ Below w.heap.size w w' := by
  rcases Nat.lt_or_ge M.o (listM ps M).length with h1 | h1
  · exact step_wait h h1 ht
  · exact step_stay h (Nat.le_antisymm h.inv.o h1)
theorem next_s (ps : List Bk) (M : Ma) : (nextM ps M).s = M.s := by
  unfold nextM
  split
  · split
    · unfold opM landO; (repeat' split) <;> rfl
    · unfold endM toM; (repeat' split) <;> rfl
  · rfl
set_option maxHeartbeats 4000000 in
theorem goOn_any {w : World} {q : Nat} {ps : List Bk} {T : Nat → Prop} {M : Ma} (n : Nat) (h : MM w q ps T M) (hb : M.s + n ≤ 1000000000000) : Calls Tryd.prog 42 #[ptr q, .int .i64 (n : Int)] w fun e w' => e = .returned (.tuple #[]) ∧ ∃ T', MM w' q ps T' (runM ps n M) ∧ Tn w T w' T' := by
  have hmf : ∀ (fn : Fn) (first cap : Array Value) (w : World), (Instr.makeFunc fn first cap).run Tryd.prog w = .ok (.func fn first cap) w := fun _ _ _ _ => rfl
  have hq := h.mr.mat'.2.2.2
  have HG : Hid (Gs w (w.alloc (.cells #[ptr q] 41)) q ps T T M) := ⟨h.up ((Below.refl _ _).alloc (Nat.le_refl _) _), Tn.of ((Below.refl _ _).alloc (Nat.le_refl _) _), (Op.At.new w #[ptr q] 41).c 0 _ rfl, by simp, fun h' => Nat.lt_irrefl _ (h.mr.tl _ h')⟩
  clear h
  go_enter_defers Tryd.func42, Tryd.ntmps42
  go_wp2_with fail
  go_loopw [1] (fun i wr => ∃ (k : Nat) (T1 : Nat → Prop) (M1 : Ma), i = .int .i64 k ∧ Gs w wr q ps T T1 M1 ∧ runM ps k M1 = runM ps n M ∧ M1.s + k ≤ 1000000000000) (fun i _ => (intOf i).toNat)
  case atStart => exact ⟨n, T, M, rfl, HG.out, rfl, hb⟩
  case round =>
    rename_i wr
    obtain ⟨k, T1, M1, rfl, hg, hrun, hbd⟩ := hrel
    obtain ⟨me, ms, mf, mq⟩ := hg.mm.mr.mat'
    have bx := hg.bx
    have bl := hg.bl
    by_cases he : M1.e = 100
    · rw [he] at me
      cases ht : trapB ps M1
      · cases k with
        | zero =>
          have HN : Hid _ := step_none hg.mm ht
          have HW : Hid _ := hg
          have HF : Hid (runM ps 0 M1 = runM ps n M) := hrun
          have HZ : Hid (M1.e = 100 ∧ trapB ps M1 = false) := ⟨he, ht⟩
          clear hg hrun hbd HG he ht
          go_wp2_with (first | (go_at_call 84; refine Calls.mono HN.out ?_; rintro e w1 ⟨rfl, hb1⟩; have HY : Hid (Gs w w1 q ps T T1 M1) := HW.out.up hb1; clear hb1))
          refine leaves_cons (f := 83) (args := #[.pointer (some ⟨w.heap.size, 0, none⟩)]) (by simp) (by simp [go_sem]) ?_
          refine (catch_idle ⟨w.heap.size, 0, none⟩ _).mono ?_
          rintro e u' w'' ⟨rfl, rfl, hb2⟩
          have hy := HY.out.up hb2
          simp [Leaves, settle, results, Tryd.results42, go_sem]
          exact ⟨T1, by rw [← HF.out]; rw [show runM ps 0 M1 = M1 by simp [runM, HZ.out.1, HZ.out.2]]; exact hy.mm, hy.tn⟩
        | succ k =>
          have HN : Hid _ := step_more hg.mm ht (by have := hg.mm.inv.p; omega)
          have HW : Hid _ := hg
          have HF : Hid (runM ps k (stepM ps M1) = runM ps n M) := by
            have e : runM ps (k + 1) M1 = runM ps k (stepM ps M1) := by simp [runM, he, ht]
            show runM ps k (stepM ps M1) = runM ps n M
            rw [← e]; exact hrun
          have hs1 : (M1.s : Int) + (k : Int) ≤ 1000000000000 := by omega
          have HI : Hid (Inv ps (stepM ps M1) ∧ PsM ps ∧ M1.s + 1 + k ≤ 1000000000000) := ⟨inv_step hg.mm.ps hg.mm.inv, hg.mm.ps, by omega⟩
          have HS : Hid ((nextM ps M1).s = M1.s) := next_s ps M1
          have hk0 : (0 : Int) < ((k + 1 : Nat) : Int) := by omega
          have hkc : ((k + 1 : Nat) : Int) = (k : Int) + 1 := by omega
          clear hg hrun hbd HG he ht
          rw [hkc] at hk0 ⊢
          clear hkc
          go_wp2_with (first | (go_at_call 84; refine Calls.mono HN.out ?_; rintro e w1 ⟨rfl, T2, hm, htn⟩; have HY : Hid (MR w1 q ps T2 (nextM ps M1) ∧ Tn wr T1 w1 T2) := ⟨hm, htn⟩; have m1 := hm.mat'; rw [HS.out] at m1; obtain ⟨-, m2, m3, m4⟩ := m1; have bx2 := (htn.f.cell HW.out.bl HW.out.bt 0).trans HW.out.bx; clear hm htn bx))
          go_roundw
          case rel =>
            have hh := HY.out.1.setS (M1.s + 1)
            have hw : MM (w1.setCell ⟨q, 336, none⟩ (.int .i64 ((M1.s + 1 : Nat) : Int))) q ps T2 (stepM ps M1) := ⟨hh.1, HI.out.1, HI.out.2.1⟩
            refine ⟨k, T2, stepM ps M1, by go_num, HW.out.go (by simpa using hw) (by simpa using HY.out.2.trans hh.2), HF.out, HI.out.2.2⟩
          case measure => simp [intOf]
      · have HN : Hid (∀ may, Calls Tryd.prog 84 #[ptr q, .bool may] wr fun e w' => e = .panicked [{ v := .iface 133 (.agg #[.int .i64 101]), recovered := false }] ∧ Below wr.heap.size wr w') := fun may => step_trap hg.mm ht may
        have HW : Hid _ := hg
        have HF : Hid (runM ps k M1 = runM ps n M) := hrun
        have HZ : Hid (runM ps k M1 = { M1 with e := 101 }) := by show runM ps k M1 = { M1 with e := 101 }; cases k <;> simp [runM, he, ht]
        clear hg hrun hbd HG he ht
        go_wp2_with (first | (go_at_call 84; refine Calls.mono (HN.out _) ?_; rintro e w1 ⟨rfl, hb1⟩; have HY : Hid (Gs w w1 q ps T T1 M1) := HW.out.up hb1; clear hb1))
        all_goals
          have hy := HY.out
          obtain ⟨me2, ms2, mf2, mq2⟩ := hy.mm.mr.mat'
          refine leaves_cons (f := 83) (args := #[.pointer (some ⟨w.heap.size, 0, none⟩)]) (by simp) (by simp [go_sem]) ?_
          refine (catch_panic w.heap.size q _ _ hy.bx me2 (mf2 _) hy.bl mq2).mono ?_
          rintro e u' w'' ⟨rfl, rfl, rfl⟩
          simp [Leaves, settle, results, Tryd.results42, go_sem]
          have h5 := hy.mm.mr.setE 101
          have hbb := (Below.refl (w1.setCell ⟨q, 333, none⟩ (.int .i64 101)).heap.size (w1.setCell ⟨q, 333, none⟩ (.int .i64 101))).alloc (Nat.le_refl _) (.cells #[.int .i64 101] 133)
          refine ⟨T1, ?_, (hy.tn.trans h5.2).trans (Tn.of hbb)⟩
          rw [← HF.out, HZ.out]
          exact MM.up ⟨h5.1, inv_trap hy.mm.inv 101, hy.mm.ps⟩ hbb
    · have HW : Hid _ := hg
      have HF : Hid (runM ps k M1 = runM ps n M) := hrun
      have HZ : Hid (runM ps k M1 = M1) := run_over he k
      have he' : (M1.e == 100) = false := by simpa using he
      clear hg hrun hbd HG he
      go_wp2_with fail
      have HY : Hid (Gs w wr q ps T T1 M1) := HW.out
      refine leaves_cons (f := 83) (args := #[.pointer (some ⟨w.heap.size, 0, none⟩)]) (by simp) (by simp [go_sem]) ?_
      refine (catch_idle ⟨w.heap.size, 0, none⟩ _).mono ?_
      rintro e u' w'' ⟨rfl, rfl, hb2⟩
      have hy := HY.out.up hb2
      simp [Leaves, settle, results, Tryd.results42, go_sem]
      exact ⟨T1, by rw [← HF.out]; rw [HZ.out]; exact hy.mm, hy.tn⟩
end Go.Proofs.YtccakjijoadjkaaDoor.Sm
