/- The document's own operation of a word, read off the program by the walk. Conditions: the word is one of 64 bits. -/
import Derived.Test.YtckjioiijmmopaaDoorWq
namespace Go.Proofs.YtckjioiijmmopaaDoor.Bu
open Go.ChangeShapes Go.WideShapes Go.ChangeAt Go.RowKit
open _root_.Go.Proofs.YtckjioiijmmopaaDoor.Op
open _root_.Go.Proofs.YtckjioiijmmopaaDoor.Tb (Tab TabAt Bnds four tabAt_new ckR)
open _root_.Go.Proofs.YtckjioiijmmopaaDoor.So
set_option maxRecDepth 20000

theorem sg32 {x : Int} : sgI (x / 2097152 % 4294967296) 32 = (x / 2097152 + 2147483648) % 4294967296 - 2147483648 := by
  unfold sgI sg
  rw [show (cl 32).toNat = 32 from rfl]
  simp
theorem At.v5 {w : World} {b : Nat} {o : O} (h : At w b o.cells) : w.cell? ⟨b, 0, none⟩ = some (.int .i8 o.op) ∧ w.cell? ⟨b, 1, none⟩ = some (.int .u8 o.d) ∧ w.cell? ⟨b, 2, none⟩ = some (.int .u8 o.a) ∧ w.cell? ⟨b, 3, none⟩ = some (.int .u8 o.b) ∧ w.cell? ⟨b, 4, none⟩ = some (.int .i64 o.im) := h.o5
set_option maxHeartbeats 1000000 in
theorem rop_any (x : Int) (w : World) (x0 : 0 ≤ x) (x1 : x < 18446744073709551616) :
    Calls Tryd.prog 33 #[.int .u64 x] w fun e w' => e = .returned (.tuple #[(opW x).val, .bool (decide (x < 9007199254740992) && okO (opW x))]) ∧ Below w.heap.size w w' := by
  have H0 : Hid (∀ w, Calls Tryd.prog 39 #[.int .u64 x, .int .i64 0, .int .i64 6] w fun e w' => e = .returned (.int .u64 (x % 64)) ∧ w' = w) := fun w => by rw [← get0 x0]; exact rget_any x 0 6 w x0 x1
  have H6 : Hid (∀ w, Calls Tryd.prog 39 #[.int .u64 x, .int .i64 6, .int .i64 5] w fun e w' => e = .returned (.int .u64 (x / 64 % 32)) ∧ w' = w) := fun w => by rw [← get6 x0]; exact rget_any x 6 5 w x0 x1
  have H11 : Hid (∀ w, Calls Tryd.prog 39 #[.int .u64 x, .int .i64 11, .int .i64 5] w fun e w' => e = .returned (.int .u64 (x / 2048 % 32)) ∧ w' = w) := fun w => by rw [← get11 x0]; exact rget_any x 11 5 w x0 x1
  have H16 : Hid (∀ w, Calls Tryd.prog 39 #[.int .u64 x, .int .i64 16, .int .i64 5] w fun e w' => e = .returned (.int .u64 (x / 65536 % 32)) ∧ w' = w) := fun w => by rw [← get16 x0]; exact rget_any x 16 5 w x0 x1
  have H21 : Hid (∀ w, Calls Tryd.prog 39 #[.int .u64 x, .int .i64 21, .int .i64 32] w fun e w' => e = .returned (.int .u64 (x / 2097152 % 4294967296)) ∧ w' = w) := fun w => by rw [← get21 x0]; exact rget_any x 21 32 w x0 x1
  have H53 : Hid (∀ w, Calls Tryd.prog 39 #[.int .u64 x, .int .i64 53, .int .i64 11] w fun e w' => e = .returned (.int .u64 (x / 9007199254740992 % 2048)) ∧ w' = w) := fun w => by rw [← get53 x0]; exact rget_any x 53 11 w x0 x1
  have HSg : Hid (∀ w, Calls Tryd.prog 40 #[.int .u64 (x / 2097152 % 4294967296), .int .i64 32] w fun e w' => e = .returned (.int .i64 ((x / 2097152 + 2147483648) % 4294967296 - 2147483648)) ∧ w' = w) := fun w => by rw [← sg32]; exact rsigned_mid _ 32 w (by omega) (by omega) (by omega) (by omega)
  have HCk : Hid (∀ W, Calls Tryd.prog 27 #[(opW x).val] W fun e w' => e = .returned (.int .i64 (ckE (opW x))) ∧ Below W.heap.size W w') := fun W => refCheck_any (opW x) W (opW_ok x)
  have HE : Hid ((ckE (opW x) == 0) = okO (opW x)) := ckE0 _
  have HV : Hid ((opW x).val = .agg #[.int .i8 (x % 64), .int .u8 (x / 64 % 32), .int .u8 (x / 2048 % 32), .int .u8 (x / 65536 % 32), .int .i64 ((x / 2097152 + 2147483648) % 4294967296 - 2147483648)]) := rfl
  go_enter Tryd.func33, Tryd.ntmps33
  go_upto_region 2 with (first
    | (have hh := H0.out; go_at_call 39; refine Calls.mono (H0.out _) ?_; rintro e w1 ⟨rfl, hw1⟩; subst w1; clear H0 hh)
    | (have hh := H6.out; go_at_call 39; refine Calls.mono (H6.out _) ?_; rintro e w1 ⟨rfl, hw1⟩; subst w1; clear H6 hh)
    | (have hh := H11.out; go_at_call 39; refine Calls.mono (H11.out _) ?_; rintro e w1 ⟨rfl, hw1⟩; subst w1; clear H11 hh)
    | (have hh := H16.out; go_at_call 39; refine Calls.mono (H16.out _) ?_; rintro e w1 ⟨rfl, hw1⟩; subst w1; clear H16 hh)
    | (have hh := H21.out; go_at_call 39; refine Calls.mono (H21.out _) ?_; rintro e w1 ⟨rfl, hw1⟩; subst w1; clear H21 hh)
    | (go_at_call 40; refine Calls.mono (HSg.out _) ?_; rintro e w1 ⟨rfl, hw1⟩; subst w1; clear HSg))
  have HS : Hid (At ((w.alloc (.cells #[.int .i8 0, .int .u8 0, .int .u8 0, .int .u8 0, .int .i64 0] 53)).alloc (.cells #[.int .i8 (x % 64), .int .u8 (x / 64 % 32), .int .u8 (x / 2048 % 32), .int .u8 (x / 65536 % 32), .int .i64 ((x / 2097152 + 2147483648) % 4294967296 - 2147483648)] 53)).drew (w.heap.size + 1) (opW x).cells ∧ At ((w.alloc (.cells #[.int .i8 0, .int .u8 0, .int .u8 0, .int .u8 0, .int .i64 0] 53)).alloc (.cells #[.int .i8 (x % 64), .int .u8 (x / 64 % 32), .int .u8 (x / 2048 % 32), .int .u8 (x / 65536 % 32), .int .i64 ((x / 2097152 + 2147483648) % 4294967296 - 2147483648)] 53)).drew w.heap.size #[.int .i8 0, .int .u8 0, .int .u8 0, .int .u8 0, .int .i64 0] ∧ Below w.heap.size w ((w.alloc (.cells #[.int .i8 0, .int .u8 0, .int .u8 0, .int .u8 0, .int .i64 0] 53)).alloc (.cells #[.int .i8 (x % 64), .int .u8 (x / 64 % 32), .int .u8 (x / 2048 % 32), .int .u8 (x / 65536 % 32), .int .i64 ((x / 2097152 + 2147483648) % 4294967296 - 2147483648)] 53)).drew) := by
    obtain ⟨a1, a2, a3, -, -⟩ := two_new w #[.int .i8 0, .int .u8 0, .int .u8 0, .int .u8 0, .int .i64 0] #[.int .i8 (x % 64), .int .u8 (x / 64 % 32), .int .u8 (x / 2048 % 32), .int .u8 (x / 65536 % 32), .int .i64 ((x / 2097152 + 2147483648) % 4294967296 - 2147483648)] 53 53 (Below.refl _ _).drew
    exact ⟨a2, a1, a3⟩
  generalize ((w.alloc (.cells #[.int .i8 0, .int .u8 0, .int .u8 0, .int .u8 0, .int .i64 0] 53)).alloc (.cells #[.int .i8 (x % 64), .int .u8 (x / 64 % 32), .int .u8 (x / 2048 % 32), .int .u8 (x / 65536 % 32), .int .i64 ((x / 2097152 + 2147483648) % 4294967296 - 2147483648)] 53)) = X at *
  by_cases h53 : x < 9007199254740992
  · have hz : (x / 9007199254740992 % 2048 == 0) = true := by simp; omega
    have HR : Hid ((decide (x < 9007199254740992) && okO (opW x)) = (ckE (opW x) == 0)) := (by rw [HE.out, decide_eq_true h53]; rfl : (decide (x < 9007199254740992) && okO (opW x)) = (ckE (opW x) == 0))
    refine wp_region_held_drew (S := fun W' => At W' (w.heap.size + 1) (opW x).cells) (by kernel_rfl) HS.out.1 (fun hHeld => ?_)
    generalize X.drew = XD at *
    refine wpAnyH_take (i := 0) (v := (opW x).val) rfl (by kernel_rfl) (by kernel_rfl) (by kernel_rfl) (fun _ _ _ h => h) (Or.inl ⟨by rfl, fun w' hSw => by (have a0 := hSw; have l0 := a0.lt; obtain ⟨m0, m1, m2, m3, m4⟩ := At.v5 a0; clear a0; go_simp)⟩) hHeld ?_
    simp only [Act.put, List.setIfInBounds_toArray, List.set_cons_zero, List.set_cons_succ, List.getElem_cons_zero, List.getElem_toArray]
    refine wpAnyH_take (i := 1) (v := .int .u64 x) rfl (by kernel_rfl) (by kernel_rfl) (by kernel_rfl) (fun _ _ _ h => h) (Or.inl ⟨by rfl, fun w' hSw => by (go_simp)⟩) hHeld ?_
    simp only [Act.put, List.setIfInBounds_toArray, List.set_cons_zero, List.set_cons_succ, List.getElem_cons_zero, List.getElem_cons_succ, List.getElem_toArray]
    refine wpAnyH_ready (rs := [2]) (by kernel_rfl) (by simp) ?_
    refine AllReadyH.cons rfl (fun K hK => ?_) AllReadyH.nil
    go_simp
    refine Calls.mono (H53.out _) ?_
    rintro e w1 ⟨rfl, hw1⟩
    subst w1
    refine hK.out _ _ HS.out.1 (fun hHeld => ?_)
    clear hK K
    refine wpAnyH_take (i := 3) (v := .bool true) rfl (by kernel_rfl) (by kernel_rfl) (by kernel_rfl) (fun _ _ _ h => h) (Or.inl ⟨by rfl, fun w' hSw => by (go_simp)⟩) hHeld ?_
    simp only [Act.put, List.setIfInBounds_toArray, List.set_cons_zero, List.set_cons_succ, List.getElem_cons_zero, List.getElem_cons_succ, List.getElem_toArray]
    refine wpAnyH_take (i := 4) (v := .bool true) rfl (by kernel_rfl) (by kernel_rfl) (by kernel_rfl) (fun _ _ _ h => h) (Or.inl ⟨by rfl, fun w' hSw => by (go_simp)⟩) hHeld ?_
    simp only [Act.put, List.setIfInBounds_toArray, List.set_cons_zero, List.set_cons_succ, List.getElem_cons_zero, List.getElem_cons_succ, List.getElem_toArray]
    refine wpAnyH_take (i := 5) (v := (opW x).val) rfl (by kernel_rfl) (by kernel_rfl) (by kernel_rfl) (fun _ _ _ h => h) (Or.inl ⟨by rfl, fun w' hSw => by (have a0 := hSw; have l0 := a0.lt; obtain ⟨m0, m1, m2, m3, m4⟩ := At.v5 a0; clear a0; go_simp)⟩) hHeld ?_
    simp only [Act.put, List.setIfInBounds_toArray, List.set_cons_zero, List.set_cons_succ, List.getElem_cons_zero, List.getElem_cons_succ, List.getElem_toArray]
    refine wpAnyH_ready (rs := [6]) (by kernel_rfl) (by simp) ?_
    refine AllReadyH.cons rfl (fun K hK => ?_) AllReadyH.nil
    go_simp
    refine Calls.mono (HCk.out _) ?_
    rintro e w2 ⟨rfl, hb2⟩
    have HS2 : Hid (At w2 (w.heap.size + 1) (opW x).cells ∧ At w2 w.heap.size #[.int .i8 0, .int .u8 0, .int .u8 0, .int .u8 0, .int .i64 0] ∧ Below w.heap.size w w2) := ⟨HS.out.1.below hb2 HS.out.1.lt, HS.out.2.1.below hb2 HS.out.2.1.lt, HS.out.2.2.trans (hb2.mono HS.out.2.2.size)⟩
    clear hb2
    refine hK.out _ _ HS2.out.1 (fun hHeld => ?_)
    clear hK K
    refine wpAnyH_take (i := 7) (v := .bool (ckE (opW x) == 0)) rfl (by kernel_rfl) (by kernel_rfl) (by kernel_rfl) (fun _ _ _ h => h) (Or.inl ⟨by rfl, fun w' hSw => by (go_simp)⟩) hHeld ?_
    simp only [Act.put, List.setIfInBounds_toArray, List.set_cons_zero, List.set_cons_succ, List.getElem_cons_zero, List.getElem_cons_succ, List.getElem_toArray]
    refine wpAnyH_take (i := 8) (v := .bool (ckE (opW x) == 0)) rfl (by kernel_rfl) (by kernel_rfl) (by kernel_rfl) (fun _ _ _ h => h) (Or.inl ⟨by rfl, fun w' hSw => by (go_simp)⟩) hHeld ?_
    simp only [Act.put, List.setIfInBounds_toArray, List.set_cons_zero, List.set_cons_succ, List.getElem_cons_zero, List.getElem_cons_succ, List.getElem_toArray]
    refine wpAnyH_ready (rs := [9]) (by kernel_rfl) (by simp) ?_
    refine AllReadyH.cons rfl (fun K hK => ?_) AllReadyH.nil
    obtain ⟨m0, m1, m2, m3, m4⟩ := HS2.out.2.1.o5
    have f0 := HS2.out.2.1.f 0
    have f1 := HS2.out.2.1.f 1
    have f2 := HS2.out.2.1.f 2
    have f3 := HS2.out.2.1.f 3
    have f4 := HS2.out.2.1.f 4
    have fl := HS2.out.2.1.lt
    go_simp
    refine hK.out _ _ (At.frb HS2.out.1 ((((((Fr.refl (One w.heap.size) _).setCell (.inr rfl) _ _).setCell (.inr rfl) _ _).setCell (.inr rfl) _ _).setCell (.inr rfl) _ _).setCell (.inr rfl) _ _) (by show ¬ _ = _; omega)) (fun hHeld => ?_)
    clear hK K
    refine wpAnyH_take (i := 10) (v := .bool (ckE (opW x) == 0)) rfl (by kernel_rfl) (by kernel_rfl) (by kernel_rfl) (fun _ _ _ h => h) (Or.inl ⟨by rfl, fun w' hSw => by (go_simp)⟩) hHeld ?_
    simp only [Act.put, List.setIfInBounds_toArray, List.set_cons_zero, List.set_cons_succ, List.getElem_cons_zero, List.getElem_cons_succ, List.getElem_toArray]
    refine wpAnyH_done (by kernel_rfl) ?_ _
    clear hHeld
    go_wp2_with fail
    refine bodyPost_ret (v := .tuple #[(opW x).val, .bool (ckE (opW x) == 0)]) (by simp [results, Tryd.results33, go_sem, m0, m1, m2, m3, m4]) rfl ⟨by rw [HR.out], HS2.out.2.2.trans ?_⟩
    go_grown
  · have hz : (x / 9007199254740992 % 2048 == 0) = false := by simp; omega
    have HR : Hid ((decide (x < 9007199254740992) && okO (opW x)) = false) := (by rw [decide_eq_false h53]; rfl : (decide (x < 9007199254740992) && okO (opW x)) = false)
    refine wp_region_held_drew (S := fun W' => At W' (w.heap.size + 1) (opW x).cells) (by kernel_rfl) HS.out.1 (fun hHeld => ?_)
    generalize X.drew = XD at *
    refine wpAnyH_take (i := 0) (v := (opW x).val) rfl (by kernel_rfl) (by kernel_rfl) (by kernel_rfl) (fun _ _ _ h => h) (Or.inl ⟨by rfl, fun w' hSw => by (have a0 := hSw; have l0 := a0.lt; obtain ⟨m0, m1, m2, m3, m4⟩ := At.v5 a0; clear a0; go_simp)⟩) hHeld ?_
    simp only [Act.put, List.setIfInBounds_toArray, List.set_cons_zero, List.set_cons_succ, List.getElem_cons_zero, List.getElem_toArray]
    refine wpAnyH_take (i := 1) (v := .int .u64 x) rfl (by kernel_rfl) (by kernel_rfl) (by kernel_rfl) (fun _ _ _ h => h) (Or.inl ⟨by rfl, fun w' hSw => by (go_simp)⟩) hHeld ?_
    simp only [Act.put, List.setIfInBounds_toArray, List.set_cons_zero, List.set_cons_succ, List.getElem_cons_zero, List.getElem_cons_succ, List.getElem_toArray]
    refine wpAnyH_ready (rs := [2]) (by kernel_rfl) (by simp) ?_
    refine AllReadyH.cons rfl (fun K hK => ?_) AllReadyH.nil
    go_simp
    refine Calls.mono (H53.out _) ?_
    rintro e w1 ⟨rfl, hw1⟩
    subst w1
    refine hK.out _ _ HS.out.1 (fun hHeld => ?_)
    clear hK K
    refine wpAnyH_take (i := 3) (v := .bool false) rfl (by kernel_rfl) (by kernel_rfl) (by kernel_rfl) (fun _ _ _ h => h) (Or.inl ⟨by rfl, fun w' hSw => by (go_simp)⟩) hHeld ?_
    simp only [Act.put, List.setIfInBounds_toArray, List.set_cons_zero, List.set_cons_succ, List.getElem_cons_zero, List.getElem_cons_succ, List.getElem_toArray]
    refine wpAnyH_take (i := 4) (v := .bool false) rfl (by kernel_rfl) (by kernel_rfl) (by kernel_rfl) (fun _ _ _ h => h) (Or.inl ⟨by rfl, fun w' hSw => by (go_simp)⟩) hHeld ?_
    simp only [Act.put, List.setIfInBounds_toArray, List.set_cons_zero, List.set_cons_succ, List.getElem_cons_zero, List.getElem_cons_succ, List.getElem_toArray]
    refine wpAnyH_take (i := 5) (v := undef) rfl (by kernel_rfl) (by kernel_rfl) (by kernel_rfl) (fun _ _ _ h => h) (Or.inr ⟨by rfl, rfl⟩) hHeld ?_
    simp only [Act.put, List.setIfInBounds_toArray, List.set_cons_zero, List.set_cons_succ, List.getElem_cons_zero, List.getElem_cons_succ, List.getElem_toArray]
    refine wpAnyH_take (i := 6) (v := undef) rfl (by kernel_rfl) (by kernel_rfl) (by kernel_rfl) (fun _ _ _ h => h) (Or.inr ⟨by rfl, rfl⟩) hHeld ?_
    simp only [Act.put, List.setIfInBounds_toArray, List.set_cons_zero, List.set_cons_succ, List.getElem_cons_zero, List.getElem_cons_succ, List.getElem_toArray]
    refine wpAnyH_take (i := 7) (v := undef) rfl (by kernel_rfl) (by kernel_rfl) (by kernel_rfl) (fun _ _ _ h => h) (Or.inr ⟨by rfl, rfl⟩) hHeld ?_
    simp only [Act.put, List.setIfInBounds_toArray, List.set_cons_zero, List.set_cons_succ, List.getElem_cons_zero, List.getElem_cons_succ, List.getElem_toArray]
    refine wpAnyH_take (i := 8) (v := .bool false) rfl (by kernel_rfl) (by kernel_rfl) (by kernel_rfl) (fun _ _ _ h => h) (Or.inl ⟨by rfl, fun w' hSw => by (go_simp)⟩) hHeld ?_
    simp only [Act.put, List.setIfInBounds_toArray, List.set_cons_zero, List.set_cons_succ, List.getElem_cons_zero, List.getElem_cons_succ, List.getElem_toArray]
    have HS2 : Hid (At XD (w.heap.size + 1) (opW x).cells ∧ At XD w.heap.size #[.int .i8 0, .int .u8 0, .int .u8 0, .int .u8 0, .int .i64 0] ∧ Below w.heap.size w XD) := HS.out
    refine wpAnyH_ready (rs := [9]) (by kernel_rfl) (by simp) ?_
    refine AllReadyH.cons rfl (fun K hK => ?_) AllReadyH.nil
    obtain ⟨m0, m1, m2, m3, m4⟩ := HS2.out.2.1.o5
    have f0 := HS2.out.2.1.f 0
    have f1 := HS2.out.2.1.f 1
    have f2 := HS2.out.2.1.f 2
    have f3 := HS2.out.2.1.f 3
    have f4 := HS2.out.2.1.f 4
    have fl := HS2.out.2.1.lt
    go_simp
    refine hK.out _ _ (At.frb HS2.out.1 ((((((Fr.refl (One w.heap.size) _).setCell (.inr rfl) _ _).setCell (.inr rfl) _ _).setCell (.inr rfl) _ _).setCell (.inr rfl) _ _).setCell (.inr rfl) _ _) (by show ¬ _ = _; omega)) (fun hHeld => ?_)
    clear hK K
    refine wpAnyH_take (i := 10) (v := .bool false) rfl (by kernel_rfl) (by kernel_rfl) (by kernel_rfl) (fun _ _ _ h => h) (Or.inl ⟨by rfl, fun w' hSw => by (go_simp)⟩) hHeld ?_
    simp only [Act.put, List.setIfInBounds_toArray, List.set_cons_zero, List.set_cons_succ, List.getElem_cons_zero, List.getElem_cons_succ, List.getElem_toArray]
    refine wpAnyH_done (by kernel_rfl) ?_ _
    clear hHeld
    go_wp2_with fail
    refine bodyPost_ret (v := .tuple #[(opW x).val, .bool false]) (by simp [results, Tryd.results33, go_sem, m0, m1, m2, m3, m4]) rfl ⟨by rw [HR.out], HS2.out.2.2.trans ?_⟩
    go_grown
end Go.Proofs.YtckjioiijmmopaaDoor.Bu
