/- What Run and State answer of the machine: read off the program by the walk. Conditions: the machine and its program lie in memory. -/
import Derived.Test.YtddcndlogoajkaaGreatDoorQNi
import Derived.Defers
import Derived.Recover
namespace Go.Proofs.YtddcndlogoajkaaGreatDoor.L8.Sm
open Go.ChangeShapes Go.WideShapes Go.ChangeAt Go.RowKit
open _root_.Go.Proofs.YtddcndlogoajkaaGreatDoor.L8.Op _root_.Go.Proofs.YtddcndlogoajkaaGreatDoor.L8.So
set_option maxRecDepth 20000
theorem ta_nil (w : World) : (Instr.typeAssert .nilIface 20 113 true).run Tryz.prog w = .ok (.tuple #[.agg #[.int .i64 0], .bool false]) w := by kernel_rfl
theorem ta_hit (w : World) : (Instr.typeAssert (.iface 113 (.agg #[.int .i64 101])) 20 113 true).run Tryz.prog w = .ok (.tuple #[.agg #[.int .i64 101], .bool true]) w := by kernel_rfl
theorem rep13 : Array.replicate 13 undef = #[undef, undef, undef, undef, undef, undef, undef, undef, undef, undef, undef, undef, undef] := rfl
set_option maxHeartbeats 1000000 in
theorem catch_idle (p : Addr) (w : World) : CallsD Tryz.prog 62 #[.pointer (some p)] .returning w fun e u' w' => e = .returned (.tuple #[]) ∧ u' = .returning ∧ Below w.heap.size w w' := by
  refine callsD_of_wpS Tryz.func62 rfl fun c₀ cs hu => ?_
  apply wpS_seq
  apply wpS_region
  simp [wpOpsS, go_sem, recoverD, hu, Tryz.ntmps62, Exit.thenS, ta_nil, Oper.upon, Result.andThen, rep13]
  apply wpS_seq
  apply wpS_region
  simp [wpOpsS, go_sem, Exit.thenS]
  refine wpS_cond (t := false) (by simp [Act.eval]) ?_
  simp only [Bool.false_eq_true, if_false]
  refine wpS_of_wp (wp_skip ?_)
  cases c₀
  simp_all [bodyPostS, results, Tryz.results62]
  exact (Below.refl _ _).alloc (Nat.le_refl _) _
set_option maxHeartbeats 1000000 in
theorem catch_panic (n q : Nat) (x : Value) (w : World) (hn : w.cell? ⟨n, 0, none⟩ = some (ptr q)) (hc : w.cell? ⟨q, 333, none⟩ = some x) (hz : w.frozen? ⟨q, 333, none⟩ = false) (h1 : n < w.heap.size) (h2 : q < w.heap.size) : CallsD Tryz.prog 62 #[.pointer (some ⟨n, 0, none⟩)] (.panicking [{ v := .iface 113 (.agg #[.int .i64 101]), recovered := false }]) w fun e u' w' => e = .returned (.tuple #[]) ∧ u' = .panicking [{ v := .iface 113 (.agg #[.int .i64 101]), recovered := true }] ∧ w' = (w.setCell ⟨q, 333, none⟩ (.int .i64 101)).alloc (.cells #[.int .i64 101] 113) := by
  refine callsD_of_wpS Tryz.func62 rfl fun c₀ cs hu => ?_
  apply wpS_seq
  apply wpS_region
  simp [wpOpsS, go_sem, recoverD, hu, Tryz.ntmps62, Exit.thenS, ta_hit, Oper.upon, Result.andThen, rep13]
  refine wpS_of_wp ?_
  go_wp2_with fail
  simp [bodyPostS, results, Tryz.results62]
/-- The machine under way, with the box that the catcher reads. -/
structure Gs (w wr : World) (q : Nat) (ps : List Bk) (T T1 : Nat → Prop) (M1 : Ma) : Prop where
  mm : MM wr q ps T1 M1
  tn : Tn w T wr T1
  bx : wr.cell? ⟨w.heap.size, 0, none⟩ = some (ptr q)
  bl : w.heap.size < wr.heap.size
  bt : ¬ T1 w.heap.size
theorem Gs.go {w wr w2 : World} {q : Nat} {ps : List Bk} {T T1 T2 : Nat → Prop} {M1 M2 : Ma} (h : Gs w wr q ps T T1 M1) (hm : MM w2 q ps T2 M2) (htn : Tn wr T1 w2 T2) : Gs w w2 q ps T T2 M2 :=
  ⟨hm, h.tn.trans htn, (htn.f.cell h.bl h.bt 0).trans h.bx, Nat.lt_of_lt_of_le h.bl htn.f.size, fun h' => (htn.t _ h').elim h.bt fun h'' => by have := h.bl; omega⟩
theorem Gs.up {w wr w2 : World} {q : Nat} {ps : List Bk} {T T1 : Nat → Prop} {M1 : Ma} (h : Gs w wr q ps T T1 M1) (hb : Below wr.heap.size wr w2) : Gs w w2 q ps T T1 M1 := h.go (h.mm.up hb) (Tn.of hb)
theorem MR.mat' {w : World} {q : Nat} {ps : List Bk} {T : Nat → Prop} {M : Ma} (h : MR w q ps T M) : w.cell? ⟨q, 333, none⟩ = some (.int .i64 M.e) ∧ w.cell? ⟨q, 336, none⟩ = some (.int .i64 (M.s : Int)) ∧ (∀ j : Nat, w.frozen? ⟨q, j, none⟩ = false) ∧ q < w.heap.size := by
  obtain ⟨_, _, _, _, hA⟩ := h.mat
  exact ⟨hA.e, hA.s, hA.fz, hA.lt⟩
theorem MR.setS {w : World} {q : Nat} {ps : List Bk} {T : Nat → Prop} {N : Ma} (h : MR w q ps T N) (k : Nat) : MR (w.setCell ⟨q, 336, none⟩ (.int .i64 (k : Int))) q ps T { N with s := k } ∧ Tn w T (w.setCell ⟨q, 336, none⟩ (.int .i64 (k : Int))) T := by
  obtain ⟨ba, bc, po, pc, hM, hP, hR, hT⟩ := h.ex
  exact mr_one hP hR hT h.tq h.tl (M' := { N with s := k }) (hM.set_s k) ((Fr.refl (One q) w).setCell (.inr rfl) _ _) rfl
theorem MR.setE {w : World} {q : Nat} {ps : List Bk} {T : Nat → Prop} {N : Ma} (h : MR w q ps T N) (k : Int) : MR (w.setCell ⟨q, 333, none⟩ (.int .i64 k)) q ps T { N with e := k } ∧ Tn w T (w.setCell ⟨q, 333, none⟩ (.int .i64 k)) T := by
  obtain ⟨ba, bc, po, pc, hM, hP, hR, hT⟩ := h.ex
  exact mr_one hP hR hT h.tq h.tl (M' := { N with e := k }) (hM.set_e k) ((Fr.refl (One q) w).setCell (.inr rfl) _ _) rfl
theorem step_more {w : World} {q : Nat} {ps : List Bk} {T : Nat → Prop} {M : Ma} (h : MM w q ps T M) (ht : trapB ps M = false) (hl : M.pr.length < 1099511627776) : Calls Tryz.prog 63 #[ptr q, .bool true] w fun e w' => e = .returned (.bool true) ∧ ∃ T', MR w' q ps T' (nextM ps M) ∧ Tn w T w' T' := by
  rcases Nat.lt_or_ge M.o (listM ps M).length with h1 | h1
  · exact step_do h h1 ht hl
  · exact step_end h (Nat.le_antisymm h.inv.o h1)
theorem step_none {w : World} {q : Nat} {ps : List Bk} {T : Nat → Prop} {M : Ma} (h : MM w q ps T M) (ht : trapB ps M = false) : Calls Tryz.prog 63 #[ptr q, .bool false] w fun e w' => e = .returned (.bool false) ∧ Below w.heap.size w w' := by
  rcases Nat.lt_or_ge M.o (listM ps M).length with h1 | h1
  · exact step_wait h h1 ht
  · exact step_stay h (Nat.le_antisymm h.inv.o h1)
theorem next_s (ps : List Bk) (M : Ma) : (nextM ps M).s = M.s := by
  unfold nextM
  split
  · split
    · unfold opM landO; (repeat' split) <;> rfl
    · unfold endM toM; (repeat' split) <;> rfl
  · rfl
set_option maxHeartbeats 4000000 in
theorem goOn_any {w : World} {q : Nat} {ps : List Bk} {T : Nat → Prop} {M : Ma} (n : Nat) (h : MM w q ps T M) (hb : M.s + n ≤ 1000000000000) : Calls Tryz.prog 31 #[ptr q, .int .i64 (n : Int)] w fun e w' => e = .returned (.tuple #[]) ∧ ∃ T', MM w' q ps T' (runM ps n M) ∧ Tn w T w' T' := by
  have hmf : ∀ (fn : Fn) (first cap : Array Value) (w : World), (Instr.makeFunc fn first cap).run Tryz.prog w = .ok (.func fn first cap) w := fun _ _ _ _ => rfl
  have hq := h.mr.mat'.2.2.2
  have HG : Hid (Gs w (w.alloc (.cells #[ptr q] 38)) q ps T T M) := ⟨h.up ((Below.refl _ _).alloc (Nat.le_refl _) _), Tn.of ((Below.refl _ _).alloc (Nat.le_refl _) _), (Op.At.new w #[ptr q] 38).c 0 _ rfl, by simp, fun h' => Nat.lt_irrefl _ (h.mr.tl _ h')⟩
  clear h
  go_enter_defers Tryz.func31, Tryz.ntmps31
  go_wp2_with fail
  go_loopw [1] (fun i wr => ∃ (k : Nat) (T1 : Nat → Prop) (M1 : Ma), i = .int .i64 k ∧ Gs w wr q ps T T1 M1 ∧ runM ps k M1 = runM ps n M ∧ M1.s + k ≤ 1000000000000) (fun i _ => (intOf i).toNat)
  case atStart => exact ⟨n, T, M, rfl, HG.out, rfl, hb⟩
  case round =>
    rename_i wr
    obtain ⟨k, T1, M1, rfl, hg, hrun, hbd⟩ := hrel
    obtain ⟨me, ms, mf, mq⟩ := hg.mm.mr.mat'
    have bx := hg.bx
    have bl := hg.bl
    by_cases he : M1.e = 100
    · rw [he] at me
      cases ht : trapB ps M1
      · cases k with
        | zero =>
          have HN : Hid _ := step_none hg.mm ht
          have HW : Hid _ := hg
          have HF : Hid (runM ps 0 M1 = runM ps n M) := hrun
          have HZ : Hid (M1.e = 100 ∧ trapB ps M1 = false) := ⟨he, ht⟩
          clear hg hrun hbd HG he ht
          go_wp2_with (first | (go_at_call 63; refine Calls.mono HN.out ?_; rintro e w1 ⟨rfl, hb1⟩; have HY : Hid (Gs w w1 q ps T T1 M1) := HW.out.up hb1; clear hb1))
          refine leaves_cons (f := 62) (args := #[.pointer (some ⟨w.heap.size, 0, none⟩)]) (by simp) (by simp [go_sem]) ?_
          refine (catch_idle ⟨w.heap.size, 0, none⟩ _).mono ?_
          rintro e u' w'' ⟨rfl, rfl, hb2⟩
          have hy := HY.out.up hb2
          simp [Leaves, settle, results, Tryz.results31, go_sem]
          exact ⟨T1, by rw [← HF.out]; rw [show runM ps 0 M1 = M1 by simp [runM, HZ.out.1, HZ.out.2]]; exact hy.mm, hy.tn⟩
        | succ k =>
          have HN : Hid _ := step_more hg.mm ht (by have := hg.mm.inv.p; omega)
          have HW : Hid _ := hg
          have HF : Hid (runM ps k (stepM ps M1) = runM ps n M) := by
            have e : runM ps (k + 1) M1 = runM ps k (stepM ps M1) := by simp [runM, he, ht]
            show runM ps k (stepM ps M1) = runM ps n M
            rw [← e]; exact hrun
          have hs1 : (M1.s : Int) + (k : Int) ≤ 1000000000000 := by omega
          have HI : Hid (Inv ps (stepM ps M1) ∧ PsM ps ∧ M1.s + 1 + k ≤ 1000000000000) := ⟨inv_step hg.mm.ps hg.mm.inv, hg.mm.ps, by omega⟩
          have HS : Hid ((nextM ps M1).s = M1.s) := next_s ps M1
          have hk0 : (0 : Int) < ((k + 1 : Nat) : Int) := by omega
          have hkc : ((k + 1 : Nat) : Int) = (k : Int) + 1 := by omega
          clear hg hrun hbd HG he ht
          rw [hkc] at hk0 ⊢
          clear hkc
          go_wp2_with (first | (go_at_call 63; refine Calls.mono HN.out ?_; rintro e w1 ⟨rfl, T2, hm, htn⟩; have HY : Hid (MR w1 q ps T2 (nextM ps M1) ∧ Tn wr T1 w1 T2) := ⟨hm, htn⟩; have m1 := hm.mat'; rw [HS.out] at m1; obtain ⟨-, m2, m3, m4⟩ := m1; have bx2 := (htn.f.cell HW.out.bl HW.out.bt 0).trans HW.out.bx; clear hm htn bx))
          go_roundw
          case rel =>
            have hh := HY.out.1.setS (M1.s + 1)
            have hw : MM (w1.setCell ⟨q, 336, none⟩ (.int .i64 ((M1.s + 1 : Nat) : Int))) q ps T2 (stepM ps M1) := ⟨hh.1, HI.out.1, HI.out.2.1⟩
            refine ⟨k, T2, stepM ps M1, by go_num, HW.out.go (by simpa using hw) (by simpa using HY.out.2.trans hh.2), HF.out, HI.out.2.2⟩
          case measure => simp [intOf]
      · have HN : Hid (∀ may, Calls Tryz.prog 63 #[ptr q, .bool may] wr fun e w' => e = .panicked [{ v := .iface 113 (.agg #[.int .i64 101]), recovered := false }] ∧ Below wr.heap.size wr w') := fun may => step_trap hg.mm ht may
        have HW : Hid _ := hg
        have HF : Hid (runM ps k M1 = runM ps n M) := hrun
        have HZ : Hid (runM ps k M1 = { M1 with e := 101 }) := by show runM ps k M1 = { M1 with e := 101 }; cases k <;> simp [runM, he, ht]
        clear hg hrun hbd HG he ht
        go_wp2_with (first | (go_at_call 63; refine Calls.mono (HN.out _) ?_; rintro e w1 ⟨rfl, hb1⟩; have HY : Hid (Gs w w1 q ps T T1 M1) := HW.out.up hb1; clear hb1))
        all_goals
          have hy := HY.out
          obtain ⟨me2, ms2, mf2, mq2⟩ := hy.mm.mr.mat'
          refine leaves_cons (f := 62) (args := #[.pointer (some ⟨w.heap.size, 0, none⟩)]) (by simp) (by simp [go_sem]) ?_
          refine (catch_panic w.heap.size q _ _ hy.bx me2 (mf2 _) hy.bl mq2).mono ?_
          rintro e u' w'' ⟨rfl, rfl, rfl⟩
          simp [Leaves, settle, results, Tryz.results31, go_sem]
          have h5 := hy.mm.mr.setE 101
          have hbb := (Below.refl (w1.setCell ⟨q, 333, none⟩ (.int .i64 101)).heap.size (w1.setCell ⟨q, 333, none⟩ (.int .i64 101))).alloc (Nat.le_refl _) (.cells #[.int .i64 101] 113)
          refine ⟨T1, ?_, (hy.tn.trans h5.2).trans (Tn.of hbb)⟩
          rw [← HF.out, HZ.out]
          exact MM.up ⟨h5.1, inv_trap hy.mm.inv 101, hy.mm.ps⟩ hbb
    · have HW : Hid _ := hg
      have HF : Hid (runM ps k M1 = runM ps n M) := hrun
      have HZ : Hid (runM ps k M1 = M1) := run_over he k
      have he' : (M1.e == 100) = false := by simpa using he
      clear hg hrun hbd HG he
      go_wp2_with fail
      have HY : Hid (Gs w wr q ps T T1 M1) := HW.out
      refine leaves_cons (f := 62) (args := #[.pointer (some ⟨w.heap.size, 0, none⟩)]) (by simp) (by simp [go_sem]) ?_
      refine (catch_idle ⟨w.heap.size, 0, none⟩ _).mono ?_
      rintro e u' w'' ⟨rfl, rfl, hb2⟩
      have hy := HY.out.up hb2
      simp [Leaves, settle, results, Tryz.results31, go_sem]
      exact ⟨T1, by rw [← HF.out]; rw [HZ.out]; exact hy.mm, hy.tn⟩
end Go.Proofs.YtddcndlogoajkaaGreatDoor.L8.Sm
namespace Go.Proofs.YtddcndlogoajkaaGreatDoor.L8.Sm
open Go.ChangeShapes Go.WideShapes Go.ChangeAt Go.RowKit
open _root_.Go.Proofs.YtddcndlogoajkaaGreatDoor.L8.Op _root_.Go.Proofs.YtddcndlogoajkaaGreatDoor.L8.So
set_option maxRecDepth 20000

/-- A list of numbers in memory. -/
structure NL (w : World) (ao : Option Addr) (l : List Int) : Prop where
  is : 0 < l.length → ∃ b f, ao = some ⟨b, f, none⟩ ∧ b < w.heap.size ∧ ∀ (i : Nat) (h : i < l.length), w.cell? ⟨b, f + i, none⟩ = some (.int .i64 l[i])
theorem NL.up {w w' : World} {ao : Option Addr} {l : List Int} (h : NL w ao l) (hb : Below w.heap.size w w') : NL w' ao l := by
  refine ⟨fun h0 => ?_⟩
  obtain ⟨b, f, e, z, hc⟩ := h.is h0
  exact ⟨b, f, e, Nat.lt_of_lt_of_le z hb.size, fun i hi => by rw [(bcell hb).1 _ _ z]; exact hc i hi⟩
theorem NL.fr {X : Nat → Prop} {w w' : World} {ao : Option Addr} {l : List Int} (h : NL w ao l) (g : Fr X w w') (hf : 0 < l.length → ∀ a, ao = some a → ¬ X a.block) : NL w' ao l := by
  refine ⟨fun h0 => ?_⟩
  obtain ⟨b, f, e, z, hc⟩ := h.is h0
  exact ⟨b, f, e, Nat.lt_of_lt_of_le z g.size, fun i hi => (g.cell z (hf h0 _ e) _).trans (hc i hi)⟩
theorem add_at' (b f j : Nat) : (⟨b, f, none⟩ : Addr).add j = ⟨b, f + j, none⟩ := by simp [Addr.add]
theorem nums_get (l : List Int) (i : Nat) (h : i < l.length) : (nums l)[i]? = some (.int .i64 l[i]) := by simp [nums, h]
theorem nums_len (l : List Int) : (nums l).length = l.length * 1 := by simp [nums]
theorem nums_one (l : List Int) : ∀ u, u ∈ nums l → u.oneCell' = true := fun u hu => by
  obtain ⟨x, _, rfl⟩ := List.mem_map.1 hu
  rfl
theorem nl_row {w : World} {B c : Nat} {a : Option Addr} {l : List Int} (h : w.ownsRow B 2 1 (.slice a l.length c) l.length (nums l)) : NL w a l := by
  refine ⟨fun h0 => ?_⟩
  rcases h.2 with ⟨_, h1⟩ | ⟨g, cap, cur, h1, h2, h3, h4⟩
  · omega
  · injection h1 with e1 e2 e3
    subst e1
    have hc := h.cells (g := g) rfl
    refine ⟨g, 0, rfl, (h.lt g rfl).2, fun i hi => ?_⟩
    have := hc i _ (nums_get l i hi)
    rw [add_at'] at this
    exact this
theorem nl_cells {w : World} {b f : Nat} {l : List Int} (hc : ∀ (i : Nat) (h : i < l.length), w.cell? ⟨b, f + i, none⟩ = some (.int .i64 l[i])) : ∀ j u, (nums l)[j]? = some u → w.cell? ((⟨b, f, none⟩ : Addr).add j) = some u := fun j u hu => by
  have hj : j < l.length := by
    rcases Nat.lt_or_ge j l.length with h | h
    · exact h
    · rw [List.getElem?_eq_none (by simp [nums]; omega)] at hu; cases hu
  rw [nums_get l j hj] at hu
  cases hu
  rw [add_at']
  exact hc j hj
/-- A row that is laid anew. -/
structure Cf (w w' : World) (E : TypeId) (z : Nat) (v : Value) (n : Nat) (cs : List Value) : Prop where
  r : w'.ownsRow w.heap.size E z v n cs
  b : Below w.heap.size w w'
theorem eq_nil25' (a : Addr) (n cap : Nat) (w : World) : (binOp .eql 33 (.slice (some a) n cap) (.slice none 0 0)).run Tryz.prog w = .ok (.bool false) w := by kernel_rfl
theorem eq_none25' (w : World) : (binOp .eql 33 (.slice none 0 0) (.slice none 0 0)).run Tryz.prog w = .ok (.bool true) w := by kernel_rfl
set_option maxHeartbeats 2000000 in
theorem cloneN_some (a : Addr) (n cap : Nat) (cs : List Value) (w : World) (hl : n ≤ 1000000000000) (hc : cs.length = n * 1) (h1 : ∀ u, u ∈ cs → u.oneCell' = true) (hn : ∀ j u, cs[j]? = some u → w.cell? (a.add j) = some u) :
    Calls Tryz.prog 33 #[.slice (some a) n cap] w fun e w' => ∃ r c, e = .returned (.slice r n c) ∧ w'.ownsRow w.heap.size 2 1 (.slice r n c) n cs ∧ Below w.heap.size w w' := by
  obtain ⟨i0, hi, hi2⟩ := Option.map_eq_some_iff.1 info2
  simp only [Prod.mk.injEq] at hi2
  obtain ⟨hz0, hz1, hz2⟩ := hi2
  have HI : Hid (Tryz.prog.info? 2 = some i0 ∧ i0.zero = some (.int .i64 0) ∧ i0.size = 1 ∧ i0.bytes = 8) := ⟨hi, hz0, hz1, hz2⟩
  clear hi hz0 hz1 hz2
  have HN : Hid _ := hn
  have H1 : Hid _ := h1
  clear hn h1
  have hnil := eq_nil25' a n cap
  go_enter Tryz.func33, Tryz.ntmps33
  go_wp2_with (first
    | (at_builtin; refine wpList_append_own _ rfl (.tmp 5) (.tmp 6) 33 rfl w.heap.size 2 i0 (.int .i64 0) 1 8 Tryz.underlying33 HI.out.1 HI.out.2.1 HI.out.2.2.1 HI.out.2.2.2 rfl (by decide) _ 0 [] rfl ?ho a n cap cs rfl hc ?hn H1.out (by unfold maxLen; omega) (by omega) (by simp) ?_; (case ho => exact World.ownsRow_made w #[] 0 (Nat.le_refl _) (by decide) rfl); (case hn => exact fun j u hj => (World.cell?_alloc_some _ _ _ (by rw [HN.out j u hj]; rfl)).trans (HN.out j u hj)); intro v' w2 hown2 hgrow2 hnil2; have HF : Hid (Cf w w2 2 1 v' n cs) := ⟨(by have := hown2; simp only [Nat.zero_add, List.nil_append] at this; exact this), ((Below.refl _ _).alloc (Nat.le_refl _) _).grown hgrow2 (by simp) (fun b hb => by cases hb; exact Nat.le_refl _)⟩; clear hown2 hgrow2 hnil2))
  go_ret
  obtain ⟨h1, hb⟩ := HF.out
  rcases h1.2 with ⟨rfl, h0⟩ | ⟨g, c, cur, rfl, _⟩
  · exact ⟨none, 0, by rw [h0]; rfl, by rw [h0] at h1 ⊢; exact h1, hb⟩
  · exact ⟨_, _, rfl, h1, hb⟩
theorem cloneN_none (w : World) : Calls Tryz.prog 33 #[.slice none 0 0] w fun e w' => e = .returned (.slice none 0 0) ∧ w' = w := by
  have hnil := eq_none25'
  go_enter Tryz.func33, Tryz.ntmps33
  go_wp2_with fail
  go_ret
  exact ⟨rfl, rfl⟩
theorem eq_nil54' (a : Addr) (n cap : Nat) (w : World) : (binOp .eql 46 (.slice (some a) n cap) (.slice none 0 0)).run Tryz.prog w = .ok (.bool false) w := by kernel_rfl
theorem info51 : (Tryz.prog.info? 51).map (fun i => (i.zero, i.size, i.bytes)) = some (some (.agg #[.int .i8 0, .int .u8 0, .int .u8 0, .int .u8 0, .int .i64 0]), 5, 16) := by kernel_rfl
set_option maxHeartbeats 2000000 in
theorem cloneO_some (a : Addr) (n cap : Nat) (cs : List Value) (w : World) (hl : n ≤ 1000000000000) (hc : cs.length = n * 5) (h1 : ∀ u, u ∈ cs → u.oneCell' = true) (hn : ∀ j u, cs[j]? = some u → w.cell? (a.add j) = some u) :
    Calls Tryz.prog 35 #[.slice (some a) n cap] w fun e w' => ∃ r c, e = .returned (.slice r n c) ∧ w'.ownsRow w.heap.size 51 5 (.slice r n c) n cs ∧ Below w.heap.size w w' := by
  obtain ⟨i0, hi, hi2⟩ := Option.map_eq_some_iff.1 info51
  simp only [Prod.mk.injEq] at hi2
  obtain ⟨hz0, hz1, hz2⟩ := hi2
  have HI : Hid (Tryz.prog.info? 51 = some i0 ∧ i0.zero = some (.agg #[.int .i8 0, .int .u8 0, .int .u8 0, .int .u8 0, .int .i64 0]) ∧ i0.size = 5 ∧ i0.bytes = 16) := ⟨hi, hz0, hz1, hz2⟩
  clear hi hz0 hz1 hz2
  have HN : Hid _ := hn
  have H1 : Hid _ := h1
  clear hn h1
  have hnil := eq_nil54' a n cap
  go_enter Tryz.func35, Tryz.ntmps35
  go_wp2_with (first
    | (at_builtin; refine wpList_append_own _ rfl (.tmp 5) (.tmp 6) 46 rfl w.heap.size 51 i0 (.agg #[.int .i8 0, .int .u8 0, .int .u8 0, .int .u8 0, .int .i64 0]) 5 16 Tryz.underlying46 HI.out.1 HI.out.2.1 HI.out.2.2.1 HI.out.2.2.2 rfl (by decide) _ 0 [] rfl ?ho a n cap cs rfl hc ?hn H1.out (by unfold maxLen; omega) (by omega) (by simp) ?_; (case ho => exact World.ownsRow_made w #[] 0 (Nat.le_refl _) (by decide) rfl); (case hn => exact fun j u hj => (World.cell?_alloc_some _ _ _ (by rw [HN.out j u hj]; rfl)).trans (HN.out j u hj)); intro v' w2 hown2 hgrow2 hnil2; have HF : Hid (Cf w w2 51 5 v' n cs) := ⟨(by have := hown2; simp only [Nat.zero_add, List.nil_append] at this; exact this), ((Below.refl _ _).alloc (Nat.le_refl _) _).grown hgrow2 (by simp) (fun b hb => by cases hb; exact Nat.le_refl _)⟩; clear hown2 hgrow2 hnil2))
  go_ret
  obtain ⟨h1, hb⟩ := HF.out
  rcases h1.2 with ⟨rfl, h0⟩ | ⟨g, c, cur, rfl, _⟩
  · exact ⟨none, 0, by rw [h0]; rfl, by rw [h0] at h1 ⊢; exact h1, hb⟩
  · exact ⟨_, _, rfl, h1, hb⟩
theorem eq_nil22' (a : Addr) (n cap : Nat) (w : World) : (binOp .eql 22 (.slice (some a) n cap) (.slice none 0 0)).run Tryz.prog w = .ok (.bool false) w := by kernel_rfl
theorem info49 : (Tryz.prog.info? 49).map (fun i => (i.zero, i.size, i.bytes)) = some (some (.agg #[.slice none 0 0, .int .i8 0, .int .u8 0, .slice none 0 0, .int .i64 0, .int .i64 0]), 6, 72) := by kernel_rfl
set_option maxHeartbeats 2000000 in
theorem cloneB_some (a : Addr) (n cap : Nat) (cs : List Value) (w : World) (hl : n ≤ 1000000000000) (hc : cs.length = n * 6) (h1 : ∀ u, u ∈ cs → u.oneCell' = true) (hn : ∀ j u, cs[j]? = some u → w.cell? (a.add j) = some u) :
    Calls Tryz.prog 34 #[.slice (some a) n cap] w fun e w' => ∃ r c, e = .returned (.slice r n c) ∧ w'.ownsRow w.heap.size 49 6 (.slice r n c) n cs ∧ Below w.heap.size w w' := by
  obtain ⟨i0, hi, hi2⟩ := Option.map_eq_some_iff.1 info49
  simp only [Prod.mk.injEq] at hi2
  obtain ⟨hz0, hz1, hz2⟩ := hi2
  have HI : Hid (Tryz.prog.info? 49 = some i0 ∧ i0.zero = some (.agg #[.slice none 0 0, .int .i8 0, .int .u8 0, .slice none 0 0, .int .i64 0, .int .i64 0]) ∧ i0.size = 6 ∧ i0.bytes = 72) := ⟨hi, hz0, hz1, hz2⟩
  clear hi hz0 hz1 hz2
  have HN : Hid _ := hn
  have H1 : Hid _ := h1
  clear hn h1
  have hnil := eq_nil22' a n cap
  go_enter Tryz.func34, Tryz.ntmps34
  go_wp2_with (first
    | (at_builtin; refine wpList_append_own _ rfl (.tmp 5) (.tmp 6) 22 rfl w.heap.size 49 i0 (.agg #[.slice none 0 0, .int .i8 0, .int .u8 0, .slice none 0 0, .int .i64 0, .int .i64 0]) 6 72 Tryz.underlying22 HI.out.1 HI.out.2.1 HI.out.2.2.1 HI.out.2.2.2 rfl (by decide) _ 0 [] rfl ?ho a n cap cs rfl hc ?hn H1.out (by unfold maxLen; omega) (by omega) (by simp) ?_; (case ho => exact World.ownsRow_made w #[] 0 (Nat.le_refl _) (by decide) rfl); (case hn => exact fun j u hj => (World.cell?_alloc_some _ _ _ (by rw [HN.out j u hj]; rfl)).trans (HN.out j u hj)); intro v' w2 hown2 hgrow2 hnil2; have HF : Hid (Cf w w2 49 6 v' n cs) := ⟨(by have := hown2; simp only [Nat.zero_add, List.nil_append] at this; exact this), ((Below.refl _ _).alloc (Nat.le_refl _) _).grown hgrow2 (by simp) (fun b hb => by cases hb; exact Nat.le_refl _)⟩; clear hown2 hgrow2 hnil2))
  go_ret
  obtain ⟨h1, hb⟩ := HF.out
  rcases h1.2 with ⟨rfl, h0⟩ | ⟨g, c, cur, rfl, _⟩
  · exact ⟨none, 0, by rw [h0]; rfl, by rw [h0] at h1 ⊢; exact h1, hb⟩
  · exact ⟨_, _, rfl, h1, hb⟩
/-- A fresh list of numbers. -/
structure Fresh (w w' : World) (a : Option Addr) (l : List Int) : Prop where
  nl : NL w' a l
  up : Below w.heap.size w w'
  new : 0 < l.length → ∀ x, a = some x → w.heap.size ≤ x.block
theorem fresh_of {w w' : World} {r : Option Addr} {c : Nat} {l : List Int} (h : w'.ownsRow w.heap.size 2 1 (.slice r l.length c) l.length (nums l)) (hb : Below w.heap.size w w') : Fresh w w' r l :=
  ⟨nl_row h, hb, fun _ x e => by subst e; exact (h.lt x.block rfl).1⟩
theorem cloneN_at (b f cap : Nat) (l : List Int) (w : World) (hl : l.length ≤ 1000000000000) (hc : ∀ (i : Nat) (h : i < l.length), w.cell? ⟨b, f + i, none⟩ = some (.int .i64 l[i])) :
    Calls Tryz.prog 33 #[.slice (some ⟨b, f, none⟩) l.length cap] w fun e w' => ∃ r c, e = .returned (.slice r l.length c) ∧ Fresh w w' r l :=
  (cloneN_some ⟨b, f, none⟩ l.length cap (nums l) w hl (nums_len l) (nums_one l) (nl_cells hc)).mono fun _ _ ⟨r, c, h1, h2, h3⟩ => ⟨r, c, h1, fresh_of h2 h3⟩
theorem row_cap {w' : World} {B : Nat} {r : Option Addr} {c n : Nat} {cs : List Value} (h : w'.ownsRow B 2 1 (.slice r n c) n cs) : n ≤ c := by
  rcases h.2 with ⟨h3, h4⟩ | ⟨g, cap', cur, h3, h5, _, h6, _⟩
  · omega
  · injection h3 with e1 e2 e3
    omega
theorem cloneN_row (po : Option Addr) (pc B : Nat) (l : List Int) (w : World) (hl : l.length ≤ 1000000000000) (h : w.ownsRow B 2 1 (.slice po l.length pc) l.length (nums l)) :
    Calls Tryz.prog 33 #[.slice po l.length pc] w fun e w' => ∃ r c, e = .returned (.slice r l.length c) ∧ Fresh w w' r l ∧ l.length ≤ c := by
  rcases h.2 with ⟨h1, h2⟩ | ⟨g, cap, cur, h1, h2, h3⟩
  · obtain rfl : l = [] := List.eq_nil_of_length_eq_zero h2
    injection h1 with e1 e2 e3
    subst e1 e3
    refine (cloneN_none w).mono ?_
    rintro e w' ⟨rfl, rfl⟩
    exact ⟨none, 0, rfl, ⟨⟨fun h => by simp at h⟩, Below.refl _ _, fun h => by simp at h⟩, Nat.le_refl _⟩
  · injection h1 with e1 e2 e3
    subst e1
    have hc := h.cells (g := g) rfl
    exact (cloneN_some ⟨g, 0, none⟩ l.length pc (nums l) w hl (nums_len l) (nums_one l) hc).mono fun _ _ ⟨r, c, k1, k2, k3⟩ => ⟨r, c, k1, fresh_of k2 k3, row_cap k2⟩
theorem brought_any (s m : Int) (w : World) : Calls Tryz.prog 32 #[.int .i64 s, .int .i64 m] w fun e w' => e = .returned (.int .i64 (min (max s 0) m)) ∧ w' = w := by
  by_cases h1 : s < 0
  · by_cases h2 : m < 0
    · rw [show min (max s 0) m = m by omega]
      go_enter Tryz.func32, Tryz.ntmps32
      go_wp2_with fail
      go_ret
      exact ⟨rfl, rfl⟩
    · rw [show min (max s 0) m = 0 by omega]
      go_enter Tryz.func32, Tryz.ntmps32
      go_wp2_with fail
      go_ret
      exact ⟨rfl, rfl⟩
  · by_cases h2 : m < s
    · rw [show min (max s 0) m = m by omega]
      go_enter Tryz.func32, Tryz.ntmps32
      go_wp2_with fail
      go_ret
      exact ⟨rfl, rfl⟩
    · rw [show min (max s 0) m = s by omega]
      go_enter Tryz.func32, Tryz.ntmps32
      go_wp2_with fail
      go_ret
      exact ⟨rfl, rfl⟩
end Go.Proofs.YtddcndlogoajkaaGreatDoor.L8.Sm
