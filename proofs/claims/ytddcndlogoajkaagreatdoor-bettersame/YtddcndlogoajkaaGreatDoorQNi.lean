/- What a step makes of the machine where an operation stands, or that it stops there: read off the program by the walk. Conditions: the machine and its program lie in memory. -/
import Derived.Test.YtddcndlogoajkaaGreatDoorQNh
namespace Go.Proofs.YtddcndlogoajkaaGreatDoor.L8.Sm
open Go.ChangeShapes Go.WideShapes Go.ChangeAt Go.RowKit
open _root_.Go.Proofs.YtddcndlogoajkaaGreatDoor.L8.Op _root_.Go.Proofs.YtddcndlogoajkaaGreatDoor.L8.So
set_option maxRecDepth 20000

section
variable {w : World} {q : Nat} {ps : List Bk} {T : Nat → Prop} {M : Ma}
set_option maxHeartbeats 4000000 in
theorem doOp_trap (o : O) (h : MM w q ps T M) (ho : OkM o) (ht : trapO o M = true) (may : Bool) : Calls Tryz.prog 81 #[ptr q, o.val, .bool may] w fun e w' => e = .panicked [{ v := .iface 113 (.agg #[.int .i64 101]), recovered := false }] ∧ Below w.heap.size w w' := by
  have HV : Hid (∀ W, Below w.heap.size w W → Calls Tryz.prog 61 #[ptr q, o.val] W fun e w' => e = .panicked [{ v := .iface 113 (.agg #[.int .i64 101]), recovered := false }] ∧ Below W.heap.size W w') := fun W hb => val_trap o (h.up hb) ho ht
  have HD := dz_new (W := (w.alloc (.cells #[.int .i8 o.op, .int .u8 o.d, .int .u8 o.a, .int .u8 o.b, .int .i64 o.im] 51)).drew) h.mr ho (drew_up _)
  rw [trap_val ht] at HD
  have hq := h.mr.tl q h.mr.tq
  have b0 := ho.op.1
  have b1 : o.op < 18 := by have := ho.op; omega
  have b2 : 0 ≤ o.op := by omega
  clear h ho ht
  generalize landN o.op.toNat = g at *
  obtain ⟨d0, -, c0, c1, c2, c3, c4⟩ := HD
  go_enter Tryz.func81, Tryz.ntmps81
  go_wp2_with fail
  refine wp_region_held_drew (S := fun w' => w' = (w.alloc (.cells #[.int .i8 o.op, .int .u8 o.d, .int .u8 o.a, .int .u8 o.b, .int .i64 o.im] 51)).drew) (by kernel_rfl) rfl (fun hHeld => ?_)
  refine wpAnyH_take (i := 0) (v := ptr q) rfl (by kernel_rfl) (by kernel_rfl) (by kernel_rfl) (fun _ _ _ h => h) (Or.inl ⟨by rfl, fun w' hSw => by (dsimp only at hSw; subst hSw; go_simp)⟩) hHeld ?_
  simp only [Act.put, List.setIfInBounds_toArray, List.set_cons_zero, List.set_cons_succ, List.getElem_cons_zero, List.getElem_toArray]
  refine wpAnyH_take (i := 1) (v := .pointer (some ⟨w.heap.size, 0, none⟩)) rfl (by kernel_rfl) (by kernel_rfl) (by kernel_rfl) (fun _ _ _ h => h) (Or.inl ⟨by rfl, fun w' hSw => by (dsimp only at hSw; subst hSw; go_simp)⟩) hHeld ?_
  simp only [Act.put, List.setIfInBounds_toArray, List.set_cons_zero, List.set_cons_succ, List.getElem_cons_zero, List.getElem_cons_succ, List.getElem_toArray]
  refine wpAnyH_take (i := 2) (v := .int .i8 o.op) rfl (by kernel_rfl) (by kernel_rfl) (by kernel_rfl) (fun _ _ _ h => h) (Or.inl ⟨by rfl, fun w' hSw => by (dsimp only at hSw; subst hSw; go_simp)⟩) hHeld ?_
  simp only [Act.put, List.setIfInBounds_toArray, List.set_cons_zero, List.set_cons_succ, List.getElem_cons_zero, List.getElem_cons_succ, List.getElem_toArray]
  refine wpAnyH_take (i := 3) (v := ptr q) rfl (by kernel_rfl) (by kernel_rfl) (by kernel_rfl) (fun _ _ _ h => h) (Or.inl ⟨by rfl, fun w' hSw => by (dsimp only at hSw; subst hSw; go_simp)⟩) hHeld ?_
  simp only [Act.put, List.setIfInBounds_toArray, List.set_cons_zero, List.set_cons_succ, List.getElem_cons_zero, List.getElem_cons_succ, List.getElem_toArray]
  refine wpAnyH_take (i := 4) (v := .pointer (some ⟨q, 1, none⟩)) rfl (by kernel_rfl) (by kernel_rfl) (by kernel_rfl) (fun _ _ _ h => h) (Or.inl ⟨by rfl, fun w' hSw => by (dsimp only at hSw; subst hSw; go_simp)⟩) hHeld ?_
  simp only [Act.put, List.setIfInBounds_toArray, List.set_cons_zero, List.set_cons_succ, List.getElem_cons_zero, List.getElem_cons_succ, List.getElem_toArray]
  refine wpAnyH_take (i := 5) (v := .pointer (some ⟨q, 1, none⟩)) rfl (by kernel_rfl) (by kernel_rfl) (by kernel_rfl) (fun _ _ _ h => h) (Or.inl ⟨by rfl, fun w' hSw => by (dsimp only at hSw; subst hSw; go_simp)⟩) hHeld ?_
  simp only [Act.put, List.setIfInBounds_toArray, List.set_cons_zero, List.set_cons_succ, List.getElem_cons_zero, List.getElem_cons_succ, List.getElem_toArray]
  refine wpAnyH_take (i := 6) (v := .pointer (some ⟨q, 1 + o.op.toNat * 2, none⟩)) rfl (by kernel_rfl) (by kernel_rfl) (by kernel_rfl) (fun _ _ _ h => h) (Or.inl ⟨by rfl, fun w' hSw => by (dsimp only at hSw; subst hSw; go_simp)⟩) hHeld ?_
  simp only [Act.put, List.setIfInBounds_toArray, List.set_cons_zero, List.set_cons_succ, List.getElem_cons_zero, List.getElem_cons_succ, List.getElem_toArray]
  refine wpAnyH_take (i := 7) (v := .pointer (some ⟨q, 1 + o.op.toNat * 2, none⟩)) rfl (by kernel_rfl) (by kernel_rfl) (by kernel_rfl) (fun _ _ _ h => h) (Or.inl ⟨by rfl, fun w' hSw => by (dsimp only at hSw; subst hSw; go_simp)⟩) hHeld ?_
  simp only [Act.put, List.setIfInBounds_toArray, List.set_cons_zero, List.set_cons_succ, List.getElem_cons_zero, List.getElem_cons_succ, List.getElem_toArray]
  refine wpAnyH_take (i := 8) (v := .func (.func 61) #[] #[]) rfl (by kernel_rfl) (by kernel_rfl) (by kernel_rfl) (fun _ _ _ h => h) (Or.inl ⟨by rfl, fun w' hSw => by (dsimp only at hSw; subst hSw; go_simp)⟩) hHeld ?_
  simp only [Act.put, List.setIfInBounds_toArray, List.set_cons_zero, List.set_cons_succ, List.getElem_cons_zero, List.getElem_cons_succ, List.getElem_toArray]
  refine wpAnyH_take (i := 9) (v := ptr q) rfl (by kernel_rfl) (by kernel_rfl) (by kernel_rfl) (fun _ _ _ h => h) (Or.inl ⟨by rfl, fun w' hSw => by (dsimp only at hSw; subst hSw; go_simp)⟩) hHeld ?_
  simp only [Act.put, List.setIfInBounds_toArray, List.set_cons_zero, List.set_cons_succ, List.getElem_cons_zero, List.getElem_cons_succ, List.getElem_toArray]
  refine wpAnyH_take (i := 10) (v := o.val) rfl (by kernel_rfl) (by kernel_rfl) (by kernel_rfl) (fun _ _ _ h => h) (Or.inl ⟨by rfl, fun w' hSw => by (dsimp only at hSw; subst hSw; go_simp)⟩) hHeld ?_
  simp only [Act.put, List.setIfInBounds_toArray, List.set_cons_zero, List.set_cons_succ, List.getElem_cons_zero, List.getElem_cons_succ, List.getElem_toArray]
  refine wpAnyH_ready (rs := [11]) (by kernel_rfl) (by simp) ?_
  refine AllReadyH.cons rfl (fun K hK => ?_) AllReadyH.nil
  go_simp
  refine Calls.mono (HV.out _ (below_ad _ _)) ?_
  rintro e w2 ⟨rfl, hb⟩
  exact ⟨rfl, rfl, (below_ad _ _).trans (hb.mono (below_ad _ _).size)⟩
set_option maxHeartbeats 8000000 in
theorem step_wait (h : MM w q ps T M) (hlt : M.o < (listM ps M).length) (ht : trapB ps M = false) : Calls Tryz.prog 63 #[ptr q, .bool false] w fun e w' => e = .returned (.bool false) ∧ Below w.heap.size w w' := by
  obtain ⟨b, f, bc, po, pc, x, p, hS⟩ := h.std
  have HL : Hid (∀ W, Below w.heap.size w W → Calls Tryz.prog 80 #[ptr q] W fun e w' => e = .returned (.agg #[.int .i64 (M.b : Int), .bool M.y, .int .i64 ((lst x M.y).length : Int)]) ∧ Below W.heap.size W w') := fun W hb => (hS.up hb).end_
  have HM : Hid (∀ W, Below w.heap.size w W → W.cell? ⟨q, 329, none⟩ = some (.int .i64 (M.b : Int)) ∧ W.cell? ⟨q, 330, none⟩ = some (.bool M.y) ∧ W.cell? ⟨q, 331, none⟩ = some (.int .i64 (M.o : Int))) := fun W hb' => ⟨(hS.up hb').at_.b, (hS.up hb').at_.y, (hS.up hb').at_.o⟩
  have hq := hS.at_.lt
  have hlt' : M.o < (lst x M.y).length := by rw [← hS.list]; omega
  obtain ⟨lb, lf, hla, hlz, hox⟩ := hS.ops.is (by omega)
  obtain ⟨o, ho⟩ : ∃ o, (lst x M.y)[M.o] = o := ⟨_, rfl⟩
  have hOk : OkM o := hS.xm.lst (y := M.y) (by rw [← ho]; exact List.getElem_mem hlt')
  have hOA : OAt w lb (lf + M.o * 5) o := by have := hox M.o hlt'; rw [ho] at this; exact this
  have hget : (listM ps M)[M.o]? = some o := by rw [hS.list, List.getElem?_eq_getElem hlt', ho]
  have hto : trapO o M = false := by unfold trapB at ht; rw [hget] at ht; exact ht
  have HP : Hid (∀ W, Below w.heap.size w W → Calls Tryz.prog 81 #[ptr q, o.val, .bool false] W fun e w' => e = .returned (.bool false) ∧ Below W.heap.size W w') := fun W hb => doOp_no o (h.up hb) hOk hto
  clear hto ht
  have HC : Hid (∀ W, Below w.heap.size w W → Calls Tryz.prog 82 #[ptr q] W fun e w' => e = .returned (.slice (some ⟨lb, lf, none⟩) (lst x M.y).length (lC p M.y)) ∧ ∃ m, w' = W.drewN m) := fun W hb => by
    have := list_any (hS.up hb).at_ (hS.up hb).bk hS.lt
    rw [hla] at this; exact this
  have HO : Hid (∀ W, Below w.heap.size w W → OAt W lb (lf + M.o * 5) o) := fun W hb => hOA.below hb hlz
  have hne : ¬ (M.o : Int) = ((lst x M.y).length : Int) := by omega
  have hlen : ((lst x M.y).length : Int) ≤ 8796093022208 := by have := hS.ops.len; omega
  clear h hlt hS hla hox ho hOk hOA hget
  generalize (lst x M.y).length = ll at *
  generalize lC p M.y = lc at *
  generalize M.b = mb at *
  generalize M.y = my at *
  generalize M.o = mo at *
  go_enter Tryz.func63, Tryz.ntmps63
  go_wp2_with fail
  have e0 : ∀ z : Wd (Below w.heap.size w), z.w.cell? ⟨q, 329, none⟩ = some (.int .i64 (mb : Int)) := fun z => (HM.out z.w z.ok).1
  have e1 : ∀ z : Wd (Below w.heap.size w), z.w.cell? ⟨q, 330, none⟩ = some (.bool my) := fun z => (HM.out z.w z.ok).2.1
  have e2 : ∀ z : Wd (Below w.heap.size w), z.w.cell? ⟨q, 331, none⟩ = some (.int .i64 (mo : Int)) := fun z => (HM.out z.w z.ok).2.2
  haveI inst : Nonempty (Wd (Below w.heap.size w)) := ⟨⟨w, Below.refl _ _⟩⟩
  have HX : Hid (∀ z : Wd (Below w.heap.size w), Below w.heap.size w z.w) := fun z => z.ok
  refine wp_region_in (Below w.heap.size w) (by kernel_rfl) (by kernel_rfl) ((Below.refl _ _).drew) ?_
  repeat (first | go_big_quiet_step ((go_at_call 80; exact calls_in (Nat.le_refl _) _ (HL.out _ (HX.out _)))))
  refine wpQuiet_nil ?_
  rintro _ ⟨z, rfl⟩
  have hx := z.ok
  clear e0 e1 e2
  have hb1 : Below w.heap.size w z.w := hx
  go_wp2_with fail
  generalize z.w = X at *
  have e0 : ∀ y : Wd (Below X.heap.size X), y.w.cell? ⟨q, 331, none⟩ = some (.int .i64 (mo : Int)) := fun y => (HM.out y.w (hb1.trans (y.ok.mono hb1.size))).2.2
  have k0 : ∀ y : Wd (Below X.heap.size X), y.w.cell? ⟨lb, lf + mo * 5, none⟩ = some (.int .i8 o.op) := fun y => (HO.out y.w (hb1.trans (y.ok.mono hb1.size))).c0
  have k1 : ∀ y : Wd (Below X.heap.size X), y.w.cell? ⟨lb, lf + mo * 5 + 1, none⟩ = some (.int .u8 o.d) := fun y => (HO.out y.w (hb1.trans (y.ok.mono hb1.size))).c1
  have k2 : ∀ y : Wd (Below X.heap.size X), y.w.cell? ⟨lb, lf + mo * 5 + 2, none⟩ = some (.int .u8 o.a) := fun y => (HO.out y.w (hb1.trans (y.ok.mono hb1.size))).c2
  have k3 : ∀ y : Wd (Below X.heap.size X), y.w.cell? ⟨lb, lf + mo * 5 + 3, none⟩ = some (.int .u8 o.b) := fun y => (HO.out y.w (hb1.trans (y.ok.mono hb1.size))).c3
  have k4 : ∀ y : Wd (Below X.heap.size X), y.w.cell? ⟨lb, lf + mo * 5 + 4, none⟩ = some (.int .i64 o.im) := fun y => (HO.out y.w (hb1.trans (y.ok.mono hb1.size))).c4
  have HY : Hid (∀ y : Wd (Below X.heap.size X), Below w.heap.size w y.w) := fun y => hb1.trans (y.ok.mono hb1.size)
  haveI inst2 : Nonempty (Wd (Below X.heap.size X)) := ⟨⟨X, Below.refl _ _⟩⟩
  have HC2 : Hid (∀ W, Below w.heap.size w W → Calls Tryz.prog 82 #[ptr q] W fun e w' => e = .returned (.slice (some ⟨lb, lf, none⟩) ll lc) ∧ Below W.heap.size W w') := fun W hb => (HC.out W hb).mono fun e w' h' => ⟨h'.1, by obtain ⟨m, hm⟩ := h'.2; rw [hm]; exact drewN_up _ _⟩
  refine wp_region_in (Below X.heap.size X) (by kernel_rfl) (by kernel_rfl) ((Below.refl _ _).drew) ?_
  repeat (first | go_big_quiet_step ((first | (go_at_call 82; exact calls_in (Nat.le_refl _) _ (HC2.out _ (HY.out _))) | (go_at_call 81; exact calls_in (Nat.le_refl _) _ (HP.out _ (HY.out _))))))
  refine wpQuiet_nil ?_
  rintro _ ⟨y, rfl⟩
  have hy := HY.out y
  clear e0 k0 k1 k2 k3 k4
  go_wp2_with fail
  go_ret
  exact ⟨rfl, hy⟩
set_option maxHeartbeats 8000000 in
theorem step_do (h : MM w q ps T M) (hlt : M.o < (listM ps M).length) (ht : trapB ps M = false) (hl : M.pr.length < 1099511627776) : Calls Tryz.prog 63 #[ptr q, .bool true] w fun e w' => e = .returned (.bool true) ∧ ∃ T', MR w' q ps T' (nextM ps M) ∧ Tn w T w' T' := by
  obtain ⟨b, f, bc, po, pc, x, p, hS⟩ := h.std
  have HL : Hid (∀ W, Below w.heap.size w W → Calls Tryz.prog 80 #[ptr q] W fun e w' => e = .returned (.agg #[.int .i64 (M.b : Int), .bool M.y, .int .i64 ((lst x M.y).length : Int)]) ∧ Below W.heap.size W w') := fun W hb => (hS.up hb).end_
  have HM : Hid (∀ W, Below w.heap.size w W → W.cell? ⟨q, 329, none⟩ = some (.int .i64 (M.b : Int)) ∧ W.cell? ⟨q, 330, none⟩ = some (.bool M.y) ∧ W.cell? ⟨q, 331, none⟩ = some (.int .i64 (M.o : Int))) := fun W hb' => ⟨(hS.up hb').at_.b, (hS.up hb').at_.y, (hS.up hb').at_.o⟩
  have hq := hS.at_.lt
  have hlt' : M.o < (lst x M.y).length := by rw [← hS.list]; omega
  obtain ⟨lb, lf, hla, hlz, hox⟩ := hS.ops.is (by omega)
  obtain ⟨o, ho⟩ : ∃ o, (lst x M.y)[M.o] = o := ⟨_, rfl⟩
  have hOk : OkM o := hS.xm.lst (y := M.y) (by rw [← ho]; exact List.getElem_mem hlt')
  have hOA : OAt w lb (lf + M.o * 5) o := by have := hox M.o hlt'; rw [ho] at this; exact this
  have hget : (listM ps M)[M.o]? = some o := by rw [hS.list, List.getElem?_eq_getElem hlt', ho]
  have hto : trapO o M = false := by unfold trapB at ht; rw [hget] at ht; exact ht
  have HP : Hid (∀ W, Below w.heap.size w W → Calls Tryz.prog 81 #[ptr q, o.val, .bool true] W fun e w' => e = .returned (.bool true) ∧ ∃ T', MR w' q ps T' (opM o M) ∧ Tn W T w' T') := fun W hb => doOp_yes o (h.up hb) hOk hto hl
  have hn : nextM ps M = opM o M := next_op hS.lt (by rw [hS.get, List.getElem?_eq_getElem hlt', ho])
  rw [hn]
  clear hto ht hl hn
  generalize opM o M = M2 at *
  have HC : Hid (∀ W, Below w.heap.size w W → Calls Tryz.prog 82 #[ptr q] W fun e w' => e = .returned (.slice (some ⟨lb, lf, none⟩) (lst x M.y).length (lC p M.y)) ∧ ∃ m, w' = W.drewN m) := fun W hb => by
    have := list_any (hS.up hb).at_ (hS.up hb).bk hS.lt
    rw [hla] at this; exact this
  have HO : Hid (∀ W, Below w.heap.size w W → OAt W lb (lf + M.o * 5) o) := fun W hb => hOA.below hb hlz
  have hne : ¬ (M.o : Int) = ((lst x M.y).length : Int) := by omega
  have hlen : ((lst x M.y).length : Int) ≤ 8796093022208 := by have := hS.ops.len; omega
  clear h hlt hS hla hox ho hOk hOA hget
  generalize (lst x M.y).length = ll at *
  generalize lC p M.y = lc at *
  generalize M.b = mb at *
  generalize M.y = my at *
  generalize M.o = mo at *
  go_enter Tryz.func63, Tryz.ntmps63
  go_wp2_with fail
  have e0 : ∀ z : Wd (Below w.heap.size w), z.w.cell? ⟨q, 329, none⟩ = some (.int .i64 (mb : Int)) := fun z => (HM.out z.w z.ok).1
  have e1 : ∀ z : Wd (Below w.heap.size w), z.w.cell? ⟨q, 330, none⟩ = some (.bool my) := fun z => (HM.out z.w z.ok).2.1
  have e2 : ∀ z : Wd (Below w.heap.size w), z.w.cell? ⟨q, 331, none⟩ = some (.int .i64 (mo : Int)) := fun z => (HM.out z.w z.ok).2.2
  haveI inst : Nonempty (Wd (Below w.heap.size w)) := ⟨⟨w, Below.refl _ _⟩⟩
  have HX : Hid (∀ z : Wd (Below w.heap.size w), Below w.heap.size w z.w) := fun z => z.ok
  refine wp_region_in (Below w.heap.size w) (by kernel_rfl) (by kernel_rfl) ((Below.refl _ _).drew) ?_
  repeat (first | go_big_quiet_step ((go_at_call 80; exact calls_in (Nat.le_refl _) _ (HL.out _ (HX.out _)))))
  refine wpQuiet_nil ?_
  rintro _ ⟨z, rfl⟩
  have hx := z.ok
  clear e0 e1 e2
  have hb1 : Below w.heap.size w z.w := hx
  go_wp2_with fail
  generalize z.w = X at *
  have HF : Hid (∀ n, Below w.heap.size w (X.drew.drewN n)) := fun n => drewN_below (hb1.trans ((drew_up X).mono hb1.size)) n
  have e0 := (HM.out X hb1).2.2
  have q1 : q < X.heap.size := Nat.lt_of_lt_of_le hq hb1.size
  have l1 : lb < X.heap.size := Nat.lt_of_lt_of_le hlz hb1.size
  obtain ⟨k0, k1, k2, k3, k4⟩ := HO.out X hb1
  have HE : Hid (Below w.heap.size w X) := hb1
  clear HL HM HO hx hb1 HX
  go_region_with (first
    | (go_at_call 82; refine Calls.mono (HC.out _ (HE.out.trans ((drew_up X).mono HE.out.size))) ?_; rintro e w2 ⟨rfl, m, hm⟩; subst hm)
    | (go_at_call 81; refine Calls.mono (HP.out _ (drewN_below HE.out _)) ?_; rintro e w3 ⟨rfl, T', hm, htn⟩; have HR : Hid (MR w3 q ps T' M2 ∧ Tn w T w3 T') := ⟨hm, (Tn.of (drewN_below HE.out _)).trans htn⟩; clear hm htn))
  all_goals
    go_wp2_with fail
    go_ret
    exact ⟨rfl, T', HR.out⟩
set_option maxHeartbeats 8000000 in
theorem step_trap (h : MM w q ps T M) (ht : trapB ps M = true) (may : Bool) : Calls Tryz.prog 63 #[ptr q, .bool may] w fun e w' => e = .panicked [{ v := .iface 113 (.agg #[.int .i64 101]), recovered := false }] ∧ Below w.heap.size w w' := by
  have hlt : M.o < (listM ps M).length := by
    rcases Nat.lt_or_ge M.o (listM ps M).length with h' | h'
    · exact h'
    · unfold trapB at ht; rw [List.getElem?_eq_none h'] at ht; cases ht
  obtain ⟨b, f, bc, po, pc, x, p, hS⟩ := h.std
  have HL : Hid (∀ W, Below w.heap.size w W → Calls Tryz.prog 80 #[ptr q] W fun e w' => e = .returned (.agg #[.int .i64 (M.b : Int), .bool M.y, .int .i64 ((lst x M.y).length : Int)]) ∧ Below W.heap.size W w') := fun W hb => (hS.up hb).end_
  have HM : Hid (∀ W, Below w.heap.size w W → W.cell? ⟨q, 329, none⟩ = some (.int .i64 (M.b : Int)) ∧ W.cell? ⟨q, 330, none⟩ = some (.bool M.y) ∧ W.cell? ⟨q, 331, none⟩ = some (.int .i64 (M.o : Int))) := fun W hb' => ⟨(hS.up hb').at_.b, (hS.up hb').at_.y, (hS.up hb').at_.o⟩
  have hq := hS.at_.lt
  have hlt' : M.o < (lst x M.y).length := by rw [← hS.list]; omega
  obtain ⟨lb, lf, hla, hlz, hox⟩ := hS.ops.is (by omega)
  obtain ⟨o, ho⟩ : ∃ o, (lst x M.y)[M.o] = o := ⟨_, rfl⟩
  have hOk : OkM o := hS.xm.lst (y := M.y) (by rw [← ho]; exact List.getElem_mem hlt')
  have hOA : OAt w lb (lf + M.o * 5) o := by have := hox M.o hlt'; rw [ho] at this; exact this
  have hget : (listM ps M)[M.o]? = some o := by rw [hS.list, List.getElem?_eq_getElem hlt', ho]
  have hto : trapO o M = true := by unfold trapB at ht; rw [hget] at ht; exact ht
  have HP : Hid (∀ W, Below w.heap.size w W → Calls Tryz.prog 81 #[ptr q, o.val, .bool may] W fun e w' => e = .panicked [{ v := .iface 113 (.agg #[.int .i64 101]), recovered := false }] ∧ Below W.heap.size W w') := fun W hb => doOp_trap o (h.up hb) hOk hto may
  clear hto ht
  have HC : Hid (∀ W, Below w.heap.size w W → Calls Tryz.prog 82 #[ptr q] W fun e w' => e = .returned (.slice (some ⟨lb, lf, none⟩) (lst x M.y).length (lC p M.y)) ∧ ∃ m, w' = W.drewN m) := fun W hb => by
    have := list_any (hS.up hb).at_ (hS.up hb).bk hS.lt
    rw [hla] at this; exact this
  have HO : Hid (∀ W, Below w.heap.size w W → OAt W lb (lf + M.o * 5) o) := fun W hb => hOA.below hb hlz
  have hne : ¬ (M.o : Int) = ((lst x M.y).length : Int) := by omega
  have hlen : ((lst x M.y).length : Int) ≤ 8796093022208 := by have := hS.ops.len; omega
  clear h hlt hS hla hox ho hOk hOA hget
  generalize (lst x M.y).length = ll at *
  generalize lC p M.y = lc at *
  generalize M.b = mb at *
  generalize M.y = my at *
  generalize M.o = mo at *
  go_enter Tryz.func63, Tryz.ntmps63
  go_wp2_with fail
  have e0 : ∀ z : Wd (Below w.heap.size w), z.w.cell? ⟨q, 329, none⟩ = some (.int .i64 (mb : Int)) := fun z => (HM.out z.w z.ok).1
  have e1 : ∀ z : Wd (Below w.heap.size w), z.w.cell? ⟨q, 330, none⟩ = some (.bool my) := fun z => (HM.out z.w z.ok).2.1
  have e2 : ∀ z : Wd (Below w.heap.size w), z.w.cell? ⟨q, 331, none⟩ = some (.int .i64 (mo : Int)) := fun z => (HM.out z.w z.ok).2.2
  haveI inst : Nonempty (Wd (Below w.heap.size w)) := ⟨⟨w, Below.refl _ _⟩⟩
  have HX : Hid (∀ z : Wd (Below w.heap.size w), Below w.heap.size w z.w) := fun z => z.ok
  refine wp_region_in (Below w.heap.size w) (by kernel_rfl) (by kernel_rfl) ((Below.refl _ _).drew) ?_
  repeat (first | go_big_quiet_step ((go_at_call 80; exact calls_in (Nat.le_refl _) _ (HL.out _ (HX.out _)))))
  refine wpQuiet_nil ?_
  rintro _ ⟨z, rfl⟩
  have hx := z.ok
  clear e0 e1 e2
  have hb1 : Below w.heap.size w z.w := hx
  go_wp2_with fail
  generalize z.w = X at *
  have HE : Hid (Below w.heap.size w X.drew) := hb1.trans ((drew_up X).mono hb1.size)
  have HS : Hid (∀ W, Below w.heap.size w W → W.cell? ⟨q, 331, none⟩ = some (.int .i64 (mo : Int)) ∧ W.cell? ⟨lb, lf + mo * 5, none⟩ = some (.int .i8 o.op) ∧ W.cell? ⟨lb, lf + mo * 5 + 1, none⟩ = some (.int .u8 o.d) ∧ W.cell? ⟨lb, lf + mo * 5 + 2, none⟩ = some (.int .u8 o.a) ∧ W.cell? ⟨lb, lf + mo * 5 + 3, none⟩ = some (.int .u8 o.b) ∧ W.cell? ⟨lb, lf + mo * 5 + 4, none⟩ = some (.int .i64 o.im)) := fun W hb => ⟨(HM.out W hb).2.2, (HO.out W hb).c0, (HO.out W hb).c1, (HO.out W hb).c2, (HO.out W hb).c3, (HO.out W hb).c4⟩
  clear HL HM HO hx hb1 HX
  refine wp_region_held_drew (S := fun W => W.cell? ⟨q, 331, none⟩ = some (.int .i64 (mo : Int)) ∧ W.cell? ⟨lb, lf + mo * 5, none⟩ = some (.int .i8 o.op) ∧ W.cell? ⟨lb, lf + mo * 5 + 1, none⟩ = some (.int .u8 o.d) ∧ W.cell? ⟨lb, lf + mo * 5 + 2, none⟩ = some (.int .u8 o.a) ∧ W.cell? ⟨lb, lf + mo * 5 + 3, none⟩ = some (.int .u8 o.b) ∧ W.cell? ⟨lb, lf + mo * 5 + 4, none⟩ = some (.int .i64 o.im)) (by kernel_rfl) (HS.out _ HE.out) (fun hHeld => ?_)
  refine wpAnyH_take (i := 0) (v := ptr q) rfl (by kernel_rfl) (by kernel_rfl) (by kernel_rfl) (fun _ _ _ h => h) (Or.inl ⟨by rfl, fun w' hSw => by (dsimp only at hSw; obtain ⟨s0, s1, s2, s3, s4, s5⟩ := hSw; go_simp)⟩) hHeld ?_
  simp only [Act.put, List.setIfInBounds_toArray, List.set_cons_zero, List.set_cons_succ, List.getElem_cons_zero, List.getElem_toArray]
  refine wpAnyH_take (i := 1) (v := ptr q) rfl (by kernel_rfl) (by kernel_rfl) (by kernel_rfl) (fun _ _ _ h => h) (Or.inl ⟨by rfl, fun w' hSw => by (dsimp only at hSw; obtain ⟨s0, s1, s2, s3, s4, s5⟩ := hSw; go_simp)⟩) hHeld ?_
  simp only [Act.put, List.setIfInBounds_toArray, List.set_cons_zero, List.set_cons_succ, List.getElem_cons_zero, List.getElem_cons_succ, List.getElem_toArray]
  refine wpAnyH_take (i := 3) (v := ptr q) rfl (by kernel_rfl) (by kernel_rfl) (by kernel_rfl) (fun _ _ _ h => h) (Or.inl ⟨by rfl, fun w' hSw => by (dsimp only at hSw; obtain ⟨s0, s1, s2, s3, s4, s5⟩ := hSw; go_simp)⟩) hHeld ?_
  simp only [Act.put, List.setIfInBounds_toArray, List.set_cons_zero, List.set_cons_succ, List.getElem_cons_zero, List.getElem_cons_succ, List.getElem_toArray]
  refine wpAnyH_take (i := 4) (v := ptr q) rfl (by kernel_rfl) (by kernel_rfl) (by kernel_rfl) (fun _ _ _ h => h) (Or.inl ⟨by rfl, fun w' hSw => by (dsimp only at hSw; obtain ⟨s0, s1, s2, s3, s4, s5⟩ := hSw; go_simp)⟩) hHeld ?_
  simp only [Act.put, List.setIfInBounds_toArray, List.set_cons_zero, List.set_cons_succ, List.getElem_cons_zero, List.getElem_cons_succ, List.getElem_toArray]
  refine wpAnyH_take (i := 5) (v := .pointer (some ⟨q, 329, none⟩)) rfl (by kernel_rfl) (by kernel_rfl) (by kernel_rfl) (fun _ _ _ h => h) (Or.inl ⟨by rfl, fun w' hSw => by (dsimp only at hSw; obtain ⟨s0, s1, s2, s3, s4, s5⟩ := hSw; go_simp)⟩) hHeld ?_
  simp only [Act.put, List.setIfInBounds_toArray, List.set_cons_zero, List.set_cons_succ, List.getElem_cons_zero, List.getElem_cons_succ, List.getElem_toArray]
  refine wpAnyH_take (i := 6) (v := .pointer (some ⟨q, 331, none⟩)) rfl (by kernel_rfl) (by kernel_rfl) (by kernel_rfl) (fun _ _ _ h => h) (Or.inl ⟨by rfl, fun w' hSw => by (dsimp only at hSw; obtain ⟨s0, s1, s2, s3, s4, s5⟩ := hSw; go_simp)⟩) hHeld ?_
  simp only [Act.put, List.setIfInBounds_toArray, List.set_cons_zero, List.set_cons_succ, List.getElem_cons_zero, List.getElem_cons_succ, List.getElem_toArray]
  refine wpAnyH_take (i := 7) (v := .int .i64 (mo : Int)) rfl (by kernel_rfl) (by kernel_rfl) (by kernel_rfl) (fun _ _ _ h => h) (Or.inl ⟨by rfl, fun w' hSw => by (dsimp only at hSw; obtain ⟨s0, s1, s2, s3, s4, s5⟩ := hSw; go_simp)⟩) hHeld ?_
  simp only [Act.put, List.setIfInBounds_toArray, List.set_cons_zero, List.set_cons_succ, List.getElem_cons_zero, List.getElem_cons_succ, List.getElem_toArray]
  refine wpAnyH_take (i := 10) (v := .bool may) rfl (by kernel_rfl) (by kernel_rfl) (by kernel_rfl) (fun _ _ _ h => h) (Or.inl ⟨by rfl, fun w' hSw => by (dsimp only at hSw; obtain ⟨s0, s1, s2, s3, s4, s5⟩ := hSw; go_simp)⟩) hHeld ?_
  simp only [Act.put, List.setIfInBounds_toArray, List.set_cons_zero, List.set_cons_succ, List.getElem_cons_zero, List.getElem_cons_succ, List.getElem_toArray]
  refine wpAnyH_ready (rs := [2]) (by kernel_rfl) (by simp) ?_
  refine AllReadyH.cons rfl (fun K hK => ?_) AllReadyH.nil
  go_simp
  refine Calls.mono (HC.out _ HE.out) ?_
  rintro e w2 ⟨rfl, m, hm⟩
  have HE2 : Hid (Below w.heap.size w w2) := by rw [hm]; exact drewN_below HE.out _
  clear hm
  refine hK.out _ _ (HS.out _ HE2.out) (fun hHeld => ?_)
  clear hK K
  refine wpAnyH_take (i := 8) (v := .pointer (some ⟨lb, lf + mo * 5, none⟩)) rfl (by kernel_rfl) (by kernel_rfl) (by kernel_rfl) (fun _ _ _ h => h) (Or.inl ⟨by rfl, fun w' hSw => by (dsimp only at hSw; obtain ⟨s0, s1, s2, s3, s4, s5⟩ := hSw; go_simp)⟩) hHeld ?_
  simp only [Act.put, List.setIfInBounds_toArray, List.set_cons_zero, List.set_cons_succ, List.getElem_cons_zero, List.getElem_cons_succ, List.getElem_toArray]
  refine wpAnyH_take (i := 9) (v := o.val) rfl (by kernel_rfl) (by kernel_rfl) (by kernel_rfl) (fun _ _ _ h => h) (Or.inl ⟨by rfl, fun w' hSw => by (dsimp only at hSw; obtain ⟨s0, s1, s2, s3, s4, s5⟩ := hSw; go_simp)⟩) hHeld ?_
  simp only [Act.put, List.setIfInBounds_toArray, List.set_cons_zero, List.set_cons_succ, List.getElem_cons_zero, List.getElem_cons_succ, List.getElem_toArray]
  refine wpAnyH_ready (rs := [11]) (by kernel_rfl) (by simp) ?_
  refine AllReadyH.cons rfl (fun K hK => ?_) AllReadyH.nil
  go_simp
  refine Calls.mono (HP.out _ HE2.out) ?_
  rintro e w3 ⟨rfl, hb⟩
  exact ⟨rfl, rfl, HE2.out.trans (hb.mono HE2.out.size)⟩
end
end Go.Proofs.YtddcndlogoajkaaGreatDoor.L8.Sm
