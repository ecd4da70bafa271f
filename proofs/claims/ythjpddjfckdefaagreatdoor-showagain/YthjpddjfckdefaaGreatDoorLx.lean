/- What package parse's line answers of its next word (isEmpty, first, take, refuse, close, exactly): read off the program by the walk. Conditions: the line lies in memory. -/
import Derived.Test.YthjpddjfckdefaaGreatDoorMm
namespace Go.Proofs.YthjpddjfckdefaaGreatDoor.Pr
open Go.ChangeShapes Go.WideShapes Go.ChangeAt Go.RowKit
open _root_.Go.Proofs.YthjpddjfckdefaaGreatDoor.Op
set_option maxRecDepth 20000

theorem isEmpty_any (q : Nat) (l : Ln) (w : World) (h : LIn w q l) : Calls Tryz.prog 43 #[.pointer (some ⟨q, 0, none⟩)] w fun e w' => e = .returned (.bool l.ws.isEmpty) ∧ w' = w := by
  obtain ⟨ao, cap, h⟩ := h
  have c0 := h.c0
  have hl := h.ws.len
  obtain ⟨ws, en⟩ := l
  simp only at *
  clear h
  cases ws with
  | nil =>
    simp only [List.length_nil] at c0
    go_enter Tryz.func43, Tryz.ntmps43
    go_wp2
    go_ret
    exact ⟨rfl, rfl⟩
  | cons x r =>
    simp only [List.length_cons] at c0
    go_enter Tryz.func43, Tryz.ntmps43
    go_wp2
    go_ret
    exact ⟨ret_bool (by simp; omega), rfl⟩

theorem first_any (q : Nat) (l : Ln) (w : World) (h : LIn w q l) : Calls Tryz.prog 67 #[.pointer (some ⟨q, 0, none⟩)] w fun e w' => e = .returned (.string ⟨(firstL l).toArray⟩) ∧ w' = w := by
  have HE : Hid _ := isEmpty_any q l w h
  obtain ⟨ao, cap, h⟩ := h
  have c0 := h.c0
  obtain ⟨ws, en⟩ := l
  simp only at *
  cases ws with
  | nil =>
    clear h
    go_enter Tryz.func67, Tryz.ntmps67
    go_wp2_with (first | (go_at_call 43; refine Calls.mono HE.out ?_; rintro e _ ⟨rfl, rfl⟩))
    go_ret
    exact ⟨rfl, rfl⟩
  | cons x r =>
    obtain ⟨b, f, rfl, z, hne, -, hx⟩ := h.ws.is (by simp)
    have hx0 := (hx 0 (by simp)).2
    simp only [List.length_cons, List.getElem_cons_zero, Nat.zero_mul, Nat.add_zero] at c0 hx0
    clear h hx
    go_enter Tryz.func67, Tryz.ntmps67
    go_wp2_with (first | (go_at_call 43; refine Calls.mono HE.out ?_; rintro e _ ⟨rfl, rfl⟩))
    go_ret
    exact ⟨rfl, rfl⟩

set_option maxHeartbeats 1000000 in
theorem take_no (q en : Nat) (w : World) (h : LIn w q ⟨[], en⟩) : Calls Tryz.prog 54 #[.pointer (some ⟨q, 0, none⟩)] w fun e w' => Pan Non (en, []) w e w' := by
  have HE : Hid (∀ w1, Below w.heap.size w w1 → Calls Tryz.prog 43 #[.pointer (some ⟨q, 0, none⟩)] w1 fun e w' => e = .returned (.bool true) ∧ w' = w1) := fun w1 hb => isEmpty_any q ⟨[], en⟩ w1 (h.up hb)
  obtain ⟨ao, cap, h⟩ := h
  have c1 := h.c1
  have hz := h.c.lt
  simp only at c1
  clear h
  go_enter Tryz.func54, Tryz.ntmps54
  go_wp2_with (first | (go_at_call 43; refine Calls.mono (HE.out _ (by go_grown)) ?_; rintro e _ ⟨rfl, rfl⟩))
  exact ⟨rfl, w.heap.size + 1, rfl, (by have hh := heap_alloc_new (w.alloc (.cells #[.int .i64 0, .string ⟨#[]⟩] 108)) (.cells #[.int .i64 60, .int .i64 (en : Int), .string ⟨#[]⟩] 49); simpa [FaultAt] using hh), by omega, ((Fr.refl _ _).alloc _).alloc _⟩

set_option maxHeartbeats 1000000 in
theorem take_ok (q en : Nat) (x : Wd') (r : List Wd') (w : World) (h : LIn w q ⟨x :: r, en⟩) : Calls Tryz.prog 54 #[.pointer (some ⟨q, 0, none⟩)] w fun e w' => e = .returned (.agg #[.int .i64 (x.1 : Int), .string ⟨x.2.toArray⟩]) ∧ LIn w' q ⟨r, en⟩ ∧ Fr (One q) w w' := by
  have HE : Hid (∀ w1, Below w.heap.size w w1 → Calls Tryz.prog 43 #[.pointer (some ⟨q, 0, none⟩)] w1 fun e w' => e = .returned (.bool false) ∧ w' = w1) := fun w1 hb => isEmpty_any q ⟨x :: r, en⟩ w1 (h.up hb)
  obtain ⟨ao, cap, h⟩ := h
  obtain ⟨b, f, rfl, z, hne, -, hx⟩ := h.ws.is (by simp)
  have hx0 := hx 0 (by simp)
  have c0 := h.c0
  have cf := h.c.f 0
  have hz := h.c.lt
  have hcap := h.cap
  have hlen := h.ws.len
  have HL : Hid _ := h
  simp only [List.length_cons, List.getElem_cons_zero, Nat.zero_mul, Nat.add_zero] at c0 hx0 hcap hlen
  obtain ⟨d0, d1⟩ := hx0
  clear h hx
  by_cases hc1 : cap = 1
  · obtain rfl : r = [] := List.eq_nil_of_length_eq_zero (by omega)
    subst hc1
    simp only [List.length_nil] at c0
    go_enter Tryz.func54, Tryz.ntmps54
    go_wp2_with (first | (go_at_call 43; refine Calls.mono (HE.out _ (by go_grown)) ?_; rintro e _ ⟨rfl, rfl⟩))
    refine bodyPost_ret (v := .agg #[.int .i64 (x.1 : Int), .string ⟨x.2.toArray⟩]) (by simp [results, Tryz.results54, go_sem]) rfl ⟨rfl, ⟨_, _, ((HL.out.tail0 _ _).up ((Below.refl _ _).alloc (Nat.le_refl _) _)).up ((Below.refl _ _).alloc (Nat.le_refl _) _)⟩, (((Fr.refl (One q) _).setCell (.inr rfl) _ _).alloc _).alloc _⟩
  · go_enter Tryz.func54, Tryz.ntmps54
    go_wp2_with (first | (go_at_call 43; refine Calls.mono (HE.out _ (by go_grown)) ?_; rintro e _ ⟨rfl, rfl⟩))
    refine bodyPost_ret (v := .agg #[.int .i64 (x.1 : Int), .string ⟨x.2.toArray⟩]) (by simp [results, Tryz.results54, go_sem]) rfl ⟨rfl, ⟨_, _, (HL.out.tail.up ((Below.refl _ _).alloc (Nat.le_refl _) _)).up ((Below.refl _ _).alloc (Nat.le_refl _) _)⟩, (((Fr.refl (One q) _).setCell (.inr rfl) _ _).alloc _).alloc _⟩

theorem clone_any (s : ByteArray) (w : World) (hs : s.size ≤ 200000) : Calls Tryz.prog 73 #[.string s] w fun e w' => e = .returned (.string s) ∧ Below w.heap.size w w' := by
  have HC : Hid _ := Tryz.stringslite_Clone s w (by omega)
  go_enter Tryz.func73, Tryz.ntmps73
  go_wp2_with (first | (go_at_call 92; refine Calls.mono HC.out ?_; rintro e w1 ⟨rfl, hb⟩))
  go_ret
  exact ⟨rfl, hb⟩
set_option maxHeartbeats 1000000 in
theorem refuse_any (x : Wd') (w : World) (hx : x.2.length ≤ 65536) : Calls Tryz.prog 58 #[.agg #[.int .i64 (x.1 : Int), .string ⟨x.2.toArray⟩]] w fun e w' => Pan Non x w e w' := by
  have hs : (⟨x.2.toArray⟩ : ByteArray).size ≤ 200000 := by show x.2.toArray.size ≤ _; simp; omega
  go_enter Tryz.func58, Tryz.ntmps58
  go_wp2
  refine wp_region_held_drew (S := fun w' => w'.cell? ⟨w.heap.size, 0, none⟩ = some (.int .i64 (x.1 : Int)) ∧ w'.cell? ⟨w.heap.size, 1, none⟩ = some (.string ⟨x.2.toArray⟩)) (by kernel_rfl) ⟨by simp, by simp⟩ (fun hHeld => ?_)
  refine wpAnyH_take (i := 0) (v := .pointer (some ⟨w.heap.size, 0, none⟩)) rfl (by kernel_rfl) (by kernel_rfl) (by kernel_rfl) (fun _ _ _ h => h) (Or.inl ⟨by rfl, fun w hSw => by go_simp⟩) hHeld ?_
  simp only [Act.put, List.setIfInBounds_toArray, List.set_cons_zero, List.set_cons_succ, List.getElem_cons_zero, List.getElem_toArray]
  refine wpAnyH_take (i := 2) (v := .pointer (some ⟨w.heap.size, 1, none⟩)) rfl (by kernel_rfl) (by kernel_rfl) (by kernel_rfl) (fun _ _ _ h => h) (Or.inl ⟨by rfl, fun w hSw => by go_simp⟩) hHeld ?_
  simp only [Act.put, List.setIfInBounds_toArray, List.set_cons_zero, List.set_cons_succ, List.getElem_cons_zero, List.getElem_cons_succ, List.getElem_toArray]
  refine wpAnyH_take (i := 1) (v := .int .i64 (x.1 : Int)) rfl (by kernel_rfl) (by kernel_rfl) (by kernel_rfl) (fun _ _ _ h => h) (Or.inl ⟨by rfl, fun w hSw => by (obtain ⟨h0, h1⟩ := hSw; go_simp)⟩) hHeld ?_
  simp only [Act.put, List.setIfInBounds_toArray, List.set_cons_zero, List.set_cons_succ, List.getElem_cons_zero, List.getElem_cons_succ, List.getElem_toArray]
  refine wpAnyH_take (i := 3) (v := .string ⟨x.2.toArray⟩) rfl (by kernel_rfl) (by kernel_rfl) (by kernel_rfl) (fun _ _ _ h => h) (Or.inl ⟨by rfl, fun w hSw => by (obtain ⟨h0, h1⟩ := hSw; go_simp)⟩) hHeld ?_
  simp only [Act.put, List.setIfInBounds_toArray, List.set_cons_zero, List.set_cons_succ, List.getElem_cons_zero, List.getElem_cons_succ, List.getElem_toArray]
  refine wpAnyH_ready (rs := [4]) (by kernel_rfl) (by simp) ?_
  refine AllReadyH.cons rfl (fun K hK => ?_) AllReadyH.nil
  go_simp
  refine (clone_any _ _ hs).mono ?_
  rintro e w2 ⟨rfl, hb2⟩
  have hz2 := hb2.size
  simp at hz2
  refine hK.out _ _ ⟨((bcell hb2).1 _ _ (by simp)).trans (by simp), ((bcell hb2).1 _ _ (by simp)).trans (by simp)⟩ (fun hHeld => ?_)
  clear hK
  refine wpAnyH_take (i := 5) (v := .agg #[.int .i64 60, .int .i64 (x.1 : Int), .string ⟨x.2.toArray⟩]) rfl (by kernel_rfl) (by kernel_rfl) (by kernel_rfl) (fun _ _ _ h => h) (Or.inl ⟨by rfl, fun w hSw => by go_simp⟩) hHeld ?_
  simp only [Act.put, List.setIfInBounds_toArray, List.set_cons_zero, List.set_cons_succ, List.getElem_cons_zero, List.getElem_cons_succ, List.getElem_toArray]
  refine wpAnyH_ready (rs := [6]) (by kernel_rfl) (by simp) ?_
  refine AllReadyH.cons rfl (fun K hK => ?_) AllReadyH.nil
  go_simp
  refine hK.out _ _ ⟨(World.cell?_alloc_lt _ _ ⟨w.heap.size, 0, none⟩ (by show w.heap.size < w2.heap.size; omega)).trans hHeld.1, (World.cell?_alloc_lt _ _ ⟨w.heap.size, 1, none⟩ (by show w.heap.size < w2.heap.size; omega)).trans hHeld.2⟩ (fun hHeld => ?_)
  clear hK
  refine wpAnyH_take (i := 7) (v := .iface 47 (.pointer (some ⟨w2.heap.size, 0, none⟩))) rfl (by kernel_rfl) (by kernel_rfl) (by kernel_rfl) (fun _ _ _ h => h) (Or.inl ⟨by rfl, fun w hSw => by go_simp⟩) hHeld ?_
  simp only [Act.put, List.setIfInBounds_toArray, List.set_cons_zero, List.set_cons_succ, List.getElem_cons_zero, List.getElem_cons_succ, List.getElem_toArray]
  refine wpAnyH_ready (rs := [8]) (by kernel_rfl) (by simp) ?_
  refine AllReadyH.cons rfl (fun K hK => ?_) AllReadyH.nil
  go_simp
  exact ⟨rfl, w2.heap.size, rfl, heap_alloc_new w2 _, by omega, (((Fr.refl Non w).alloc _).then (Below.trans (b := (w.alloc (.cells #[.int .i64 (x.1 : Int), .string ⟨x.2.toArray⟩] 108)).drew) ⟨rfl, rfl, rfl, Nat.le_refl _, fun _ _ => rfl⟩ hb2)).alloc _⟩

theorem takeR_nil (en : Nat) : takeR ⟨[], en⟩ = .no (en, []) := rfl
theorem takeR_cons (x : Wd') (r : List Wd') (en : Nat) : takeR ⟨x :: r, en⟩ = .ok (x, ⟨r, en⟩) := rfl
theorem LIn.ok {w : World} {q : Nat} {x : Wd'} {r : List Wd'} {en : Nat} (h : LIn w q ⟨x :: r, en⟩) : x.1 ≤ 65536 ∧ x.2.length ≤ 65536 := by
  obtain ⟨_, _, h⟩ := h
  exact h.ws.ok x (List.mem_cons_self ..)

set_option maxHeartbeats 1000000 in
theorem close_any (q : Nat) (l : Ln) (w : World) (h : LIn w q l) : Calls Tryz.prog 52 #[.pointer (some ⟨q, 0, none⟩)] w (Does (One q) (closeR l) (fun _ e w' => e = .returned (.tuple #[]) ∧ w' = w) w) := by
  have HE : Hid _ := isEmpty_any q l w h
  have hnot : ∀ (x : Bool) (w : World), (Op.unary .not (.bool x)).run Tryz.prog w = .ok (.bool (!x)) w := fun _ _ => rfl
  obtain ⟨ws, en⟩ := l
  cases ws with
  | nil =>
    simp only [closeR]
    go_enter Tryz.func52, Tryz.ntmps52
    go_wp2_with (first | (go_at_call 43; refine Calls.mono HE.out ?_; rintro e w' ⟨rfl, hw⟩; subst w'))
    go_end0
    exact ⟨rfl, rfl⟩
  | cons x r =>
    simp only [closeR]
    have HT : Hid _ := take_ok q en x r w h
    have HF : Hid _ := fun w' => refuse_any x w' h.ok.2
    clear h
    go_enter Tryz.func52, Tryz.ntmps52
    go_wp2_with (first
      | (go_at_call 43; refine Calls.mono HE.out ?_; rintro e w' ⟨rfl, hw⟩; subst w')
      | (go_at_call 54; refine Calls.mono HT.out ?_; rintro e w1 ⟨rfl, hL, hF⟩; have HX : Hid (Fr (One q) w w1) := hF; clear hL hF)
      | (go_at_call 58; refine Calls.mono (HF.out _) ?_; rintro e w2 hp; have HP : Hid _ := hp.after HX.out fun _ _ hk => hk.elim; obtain ⟨fq, rfl, hp⟩ := hp; clear hp))
    exact ⟨rfl, HP.out⟩

set_option maxHeartbeats 1000000 in
theorem exactly_any (q : Nat) (s : List UInt8) (l : Ln) (w : World) (h : LIn w q l) : Calls Tryz.prog 51 #[.pointer (some ⟨q, 0, none⟩), .string ⟨s.toArray⟩] w (Does (One q) (exactR s l) (fun l' e w' => e = .returned (.tuple #[]) ∧ LIn w' q l' ∧ Fr (One q) w w') w) := by
  obtain ⟨ws, en⟩ := l
  cases ws with
  | nil =>
    have HT : Hid _ := take_no q en w h
    simp only [exactR, takeR_nil, R.bind_no]
    go_enter Tryz.func51, Tryz.ntmps51
    go_wp2_with (first
      | (go_at_call 54; refine Calls.mono HT.out ?_; rintro e w1 hp; have HP : Hid _ := hp.after (X := One q) (Fr.refl _ _) fun _ _ hk => hk.elim; obtain ⟨fq, rfl, hp⟩ := hp; clear hp))
    exact ⟨rfl, HP.out⟩
  | cons x r =>
    have HT : Hid _ := take_ok q en x r w h
    have HF : Hid _ := fun w' => refuse_any x w' h.ok.2
    simp only [exactR, takeR_cons, R.bind_ok]
    clear h
    by_cases hs : x.2 = s
    · subst hs
      simp only [if_true]
      go_enter Tryz.func51, Tryz.ntmps51
      go_wp2_with (first
        | (go_at_call 54; refine Calls.mono HT.out ?_; rintro e w1 ⟨rfl, hL, hF⟩; have HX : Hid (LIn w1 q ⟨r, en⟩ ∧ Fr (One q) w w1) := ⟨hL, hF⟩; clear hL hF))
      go_end0
      exact ⟨rfl, HX.out.1.up ((Below.refl _ _).alloc (Nat.le_refl _) _), HX.out.2.alloc _⟩
    · simp only [hs, if_false]
      have hne : (x.2 == s) = false := by simpa using hs
      clear hs
      go_enter Tryz.func51, Tryz.ntmps51
      go_wp2_with (first
        | (go_at_call 54; refine Calls.mono HT.out ?_; rintro e w1 ⟨rfl, hL, hF⟩; have HX : Hid (Fr (One q) w w1) := hF; clear hL hF)
        | (go_at_call 58; refine Calls.mono (HF.out _) ?_; rintro e w2 hp; have HP : Hid _ := hp.after (HX.out.alloc _) fun _ _ hk => hk.elim; obtain ⟨fq, rfl, hp⟩ := hp; clear hp))
      exact ⟨rfl, HP.out⟩
end Go.Proofs.YthjpddjfckdefaaGreatDoor.Pr
