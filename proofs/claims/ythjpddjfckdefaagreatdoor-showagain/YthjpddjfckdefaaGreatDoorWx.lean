/- The words of an operation, as package ops lays them (words), read off the program by the walk. Conditions: the table of powers lies in memory; the fields are numbers of their own width. -/
import Derived.Test.YthjpddjfckdefaaGreatDoorTx
namespace Go.Proofs.YthjpddjfckdefaaGreatDoor.Op
open Go.ChangeShapes Go.WideShapes Go.ChangeAt Go.RowKit
set_option maxRecDepth 20000

def WordsPost (k : K) (o : O) (w : World) (e : Ending) (w' : World) : Prop :=
  ∃ g cap : Nat, e = .returned (.slice (some ⟨g, 0, none⟩) (wordsS k o).length cap) ∧ (wordsS k o).length ≤ cap ∧ (∀ (j : Nat) x, (wordsS k o)[j]? = some x → w'.cell? ⟨g, j, none⟩ = some (.string x)) ∧ g < w'.heap.size ∧ Below w.heap.size w w'
theorem Ws.done {w0 : World} {k : K} {o : O} {w : World} {v : Value} {xs : List ByteArray} (h : Ws w0 k o w v xs) (hx : xs = wordsS k o) : WordsPost k o w0 (.returned v) w := by
  subst hx
  have hpos : 0 < (wordsS k o).length := by simp [wordsS]
  have hown := h.own
  obtain ⟨g, cap, rfl, hg, hlt⟩ := hown.form hpos
  refine ⟨g, cap, rfl, ?_, fun j x hj => ?_, hlt, h.bel⟩
  · rcases hown.2 with ⟨h', _⟩ | ⟨g', cap', cur, h', _, _, hc, _⟩
    · simp at h'
    · simp only [Value.slice.injEq, Option.some.injEq, Addr.mk.injEq, and_true, true_and] at h'
      obtain ⟨rfl, rfl⟩ := h'
      exact hc
  · have hjl : j < (wordsS k o).length := by
      obtain ⟨hh, _⟩ := List.getElem?_eq_some_iff.1 hj
      exact hh
    rw [hown.cellAt j (by omega)]
    simp [strs, hj]

set_option maxHeartbeats 2000000 in
theorem words_00B0 (k : K) (o : O) (w : World) (hE : Pow w) (ho : o.Ok) (hD : k.D = false) (hA : k.A = false) (hB : k.B = true) (hI : k.I = false) : Calls Tryz.prog 48 #[k.val, o.val] w (WordsPost k o w) := by
  have HX : Hid ([k.s] ++ [regS o.b] = wordsS k o) := by show _ = _; simp [wordsS, hD, hA, hB, hI]
  obtain ⟨-, -, d0, d1, a0, a1, b0, b1, i0', i1⟩ := ho
  have HD : Hid _ := fun w => cnt_D k w
  have HA : Hid _ := fun w => cnt_A k w
  have HB : Hid _ := fun w => cnt_B k w
  have HJ : Hid _ := fun w => cnt_I k w
  rw [hD] at HD
  rw [hA] at HA
  rw [hB] at HB
  rw [hI] at HJ
  clear hD hA hB hI
  have HE : Hid (Pow w) := hE
  clear hE
  obtain ⟨i0, hi, hi2⟩ := Option.map_eq_some_iff.1 info9
  simp only [Prod.mk.injEq] at hi2
  obtain ⟨hz0, hz1, hz2⟩ := hi2
  have HI : Hid (Tryz.prog.info? 9 = some i0 ∧ i0.zero = some (.string ⟨#[]⟩) ∧ i0.size = 1 ∧ i0.bytes = 16) := ⟨hi, hz0, hz1, hz2⟩
  clear hi hz0 hz1 hz2
  go_enter Tryz.func48, Tryz.ntmps48
  go_wp2_with (first | (go_at_call_of 63 (Value.int IntKind.u8 1); refine Calls.mono (HD.out _) ?_; rintro e w1 ⟨rfl, hb⟩; have HS : Hid (Ws w k o w1 _ _) := (Ws.begin w k o k.s).on hb; have hz := HS.out.kAt.lt; have hz1 := HS.out.oAt.lt; obtain ⟨k0, k1, k2⟩ := HS.out.kAt.k3; obtain ⟨o0, o1, o2, o3, o4⟩ := HS.out.oAt.o5; clear hb) | (go_at_call_of 63 (Value.int IntKind.u8 2); refine Calls.mono (HA.out _) ?_; rintro e w1 ⟨rfl, hb⟩; have HS : Hid (Ws w k o w1 _ _) := HS.out.on hb; have hz := HS.out.kAt.lt; have hz1 := HS.out.oAt.lt; obtain ⟨k0, k1, k2⟩ := HS.out.kAt.k3; obtain ⟨o0, o1, o2, o3, o4⟩ := HS.out.oAt.o5; clear hb) | (go_at_call_of 63 (Value.int IntKind.u8 4); refine Calls.mono (HB.out _) ?_; rintro e w1 ⟨rfl, hb⟩; have HS : Hid (Ws w k o w1 _ _) := HS.out.on hb; have hz := HS.out.kAt.lt; have hz1 := HS.out.oAt.lt; obtain ⟨k0, k1, k2⟩ := HS.out.kAt.k3; obtain ⟨o0, o1, o2, o3, o4⟩ := HS.out.oAt.o5; clear hb) | (go_at_call_of 63 (Value.int IntKind.u8 8); refine Calls.mono (HJ.out _) ?_; rintro e w1 ⟨rfl, hb⟩; have HS : Hid (Ws w k o w1 _ _) := HS.out.on hb; have hz := HS.out.kAt.lt; have hz1 := HS.out.oAt.lt; obtain ⟨k0, k1, k2⟩ := HS.out.kAt.k3; obtain ⟨o0, o1, o2, o3, o4⟩ := HS.out.oAt.o5; clear hb) | (go_at_call 64; refine Calls.mono (register_any _ _ (HE.out.bl HS.out.bel) (by assumption) (by assumption)) ?_; rintro e w1 ⟨rfl, hb⟩; have HS : Hid (Ws w k o w1 _ _) := HS.out.on hb; have hz := HS.out.kAt.lt; have hz1 := HS.out.oAt.lt; obtain ⟨k0, k1, k2⟩ := HS.out.kAt.k3; obtain ⟨o0, o1, o2, o3, o4⟩ := HS.out.oAt.o5; clear hb) | (go_at_call 65; refine Calls.mono (digits_any _ _ (HE.out.bl HS.out.bel) (by first | assumption | omega) (by first | assumption | omega)) ?_; rintro e w1 ⟨rfl, hb⟩; have HS : Hid (Ws w k o w1 _ _) := HS.out.on hb; have hz := HS.out.kAt.lt; have hz1 := HS.out.oAt.lt; obtain ⟨k0, k1, k2⟩ := HS.out.kAt.k3; obtain ⟨o0, o1, o2, o3, o4⟩ := HS.out.oAt.o5; clear hb) | (at_builtin; refine wpList_append_lies _ rfl _ _ 57 rfl (w.heap.size + 2) 9 i0 (.string ⟨#[]⟩) 1 16 Tryz.underlying57 HI.out.1 HI.out.2.1 HI.out.2.2.1 HI.out.2.2.2 rfl (by decide) _ _ _ rfl (HS.out.own.alloc _) ⟨w1.heap.size, 0, none⟩ 1 1 [.string _] rfl rfl (World.news_of_block (heap_alloc_new w1 _)) (by simp [Value.oneCell']) (by decide) (by unfold maxLen; simp) (by simp) (by have := HS.out.oAt.lt; simp; omega) (w1.heap.size + 1) (by simp) ?_; intro g cap w1 hown1 hgrow hat hlt3; have HS : Hid (Ws w k o w1 _ _) := HS.out.put hown1 hgrow; have hz := HS.out.kAt.lt; have hz1 := HS.out.oAt.lt; obtain ⟨k0, k1, k2⟩ := HS.out.kAt.k3; obtain ⟨o0, o1, o2, o3, o4⟩ := HS.out.oAt.o5; clear hown1 hgrow hat hlt3))
  go_ret
  exact HS.out.done HX.out
set_option maxHeartbeats 2000000 in
theorem words_00B1 (k : K) (o : O) (w : World) (hE : Pow w) (ho : o.Ok) (hD : k.D = false) (hA : k.A = false) (hB : k.B = true) (hI : k.I = true) : Calls Tryz.prog 48 #[k.val, o.val] w (WordsPost k o w) := by
  have HX : Hid ([k.s] ++ [regS o.b] ++ [itS o.im] = wordsS k o) := by show _ = _; simp [wordsS, hD, hA, hB, hI]
  obtain ⟨-, -, d0, d1, a0, a1, b0, b1, i0', i1⟩ := ho
  have HD : Hid _ := fun w => cnt_D k w
  have HA : Hid _ := fun w => cnt_A k w
  have HB : Hid _ := fun w => cnt_B k w
  have HJ : Hid _ := fun w => cnt_I k w
  rw [hD] at HD
  rw [hA] at HA
  rw [hB] at HB
  rw [hI] at HJ
  clear hD hA hB hI
  have HE : Hid (Pow w) := hE
  clear hE
  obtain ⟨i0, hi, hi2⟩ := Option.map_eq_some_iff.1 info9
  simp only [Prod.mk.injEq] at hi2
  obtain ⟨hz0, hz1, hz2⟩ := hi2
  have HI : Hid (Tryz.prog.info? 9 = some i0 ∧ i0.zero = some (.string ⟨#[]⟩) ∧ i0.size = 1 ∧ i0.bytes = 16) := ⟨hi, hz0, hz1, hz2⟩
  clear hi hz0 hz1 hz2
  go_enter Tryz.func48, Tryz.ntmps48
  go_wp2_with (first | (go_at_call_of 63 (Value.int IntKind.u8 1); refine Calls.mono (HD.out _) ?_; rintro e w1 ⟨rfl, hb⟩; have HS : Hid (Ws w k o w1 _ _) := (Ws.begin w k o k.s).on hb; have hz := HS.out.kAt.lt; have hz1 := HS.out.oAt.lt; obtain ⟨k0, k1, k2⟩ := HS.out.kAt.k3; obtain ⟨o0, o1, o2, o3, o4⟩ := HS.out.oAt.o5; clear hb) | (go_at_call_of 63 (Value.int IntKind.u8 2); refine Calls.mono (HA.out _) ?_; rintro e w1 ⟨rfl, hb⟩; have HS : Hid (Ws w k o w1 _ _) := HS.out.on hb; have hz := HS.out.kAt.lt; have hz1 := HS.out.oAt.lt; obtain ⟨k0, k1, k2⟩ := HS.out.kAt.k3; obtain ⟨o0, o1, o2, o3, o4⟩ := HS.out.oAt.o5; clear hb) | (go_at_call_of 63 (Value.int IntKind.u8 4); refine Calls.mono (HB.out _) ?_; rintro e w1 ⟨rfl, hb⟩; have HS : Hid (Ws w k o w1 _ _) := HS.out.on hb; have hz := HS.out.kAt.lt; have hz1 := HS.out.oAt.lt; obtain ⟨k0, k1, k2⟩ := HS.out.kAt.k3; obtain ⟨o0, o1, o2, o3, o4⟩ := HS.out.oAt.o5; clear hb) | (go_at_call_of 63 (Value.int IntKind.u8 8); refine Calls.mono (HJ.out _) ?_; rintro e w1 ⟨rfl, hb⟩; have HS : Hid (Ws w k o w1 _ _) := HS.out.on hb; have hz := HS.out.kAt.lt; have hz1 := HS.out.oAt.lt; obtain ⟨k0, k1, k2⟩ := HS.out.kAt.k3; obtain ⟨o0, o1, o2, o3, o4⟩ := HS.out.oAt.o5; clear hb) | (go_at_call 64; refine Calls.mono (register_any _ _ (HE.out.bl HS.out.bel) (by assumption) (by assumption)) ?_; rintro e w1 ⟨rfl, hb⟩; have HS : Hid (Ws w k o w1 _ _) := HS.out.on hb; have hz := HS.out.kAt.lt; have hz1 := HS.out.oAt.lt; obtain ⟨k0, k1, k2⟩ := HS.out.kAt.k3; obtain ⟨o0, o1, o2, o3, o4⟩ := HS.out.oAt.o5; clear hb) | (go_at_call 65; refine Calls.mono (digits_any _ _ (HE.out.bl HS.out.bel) (by first | assumption | omega) (by first | assumption | omega)) ?_; rintro e w1 ⟨rfl, hb⟩; have HS : Hid (Ws w k o w1 _ _) := HS.out.on hb; have hz := HS.out.kAt.lt; have hz1 := HS.out.oAt.lt; obtain ⟨k0, k1, k2⟩ := HS.out.kAt.k3; obtain ⟨o0, o1, o2, o3, o4⟩ := HS.out.oAt.o5; clear hb) | (at_builtin; refine wpList_append_lies _ rfl _ _ 57 rfl (w.heap.size + 2) 9 i0 (.string ⟨#[]⟩) 1 16 Tryz.underlying57 HI.out.1 HI.out.2.1 HI.out.2.2.1 HI.out.2.2.2 rfl (by decide) _ _ _ rfl (HS.out.own.alloc _) ⟨w1.heap.size, 0, none⟩ 1 1 [.string _] rfl rfl (World.news_of_block (heap_alloc_new w1 _)) (by simp [Value.oneCell']) (by decide) (by unfold maxLen; simp) (by simp) (by have := HS.out.oAt.lt; simp; omega) (w1.heap.size + 1) (by simp) ?_; intro g cap w1 hown1 hgrow hat hlt3; have HS : Hid (Ws w k o w1 _ _) := HS.out.put hown1 hgrow; have hz := HS.out.kAt.lt; have hz1 := HS.out.oAt.lt; obtain ⟨k0, k1, k2⟩ := HS.out.kAt.k3; obtain ⟨o0, o1, o2, o3, o4⟩ := HS.out.oAt.o5; clear hown1 hgrow hat hlt3))
  go_ret
  exact HS.out.done HX.out
set_option maxHeartbeats 2000000 in
theorem words_00N0 (k : K) (o : O) (w : World) (hE : Pow w) (ho : o.Ok) (hD : k.D = false) (hA : k.A = false) (hB : k.B = false) (hN : k.N = true) (hI : k.I = false) : Calls Tryz.prog 48 #[k.val, o.val] w (WordsPost k o w) := by
  have HX : Hid ([k.s] ++ [itS o.b] = wordsS k o) := by show _ = _; simp [wordsS, hD, hA, hB, hN, hI]
  obtain ⟨-, -, d0, d1, a0, a1, b0, b1, i0', i1⟩ := ho
  have HD : Hid _ := fun w => cnt_D k w
  have HA : Hid _ := fun w => cnt_A k w
  have HB : Hid _ := fun w => cnt_B k w
  have HN : Hid _ := fun w => cnt_N k w
  have HJ : Hid _ := fun w => cnt_I k w
  rw [hD] at HD
  rw [hA] at HA
  rw [hB] at HB
  rw [hN] at HN
  rw [hI] at HJ
  clear hD hA hB hN hI
  have HE : Hid (Pow w) := hE
  clear hE
  obtain ⟨i0, hi, hi2⟩ := Option.map_eq_some_iff.1 info9
  simp only [Prod.mk.injEq] at hi2
  obtain ⟨hz0, hz1, hz2⟩ := hi2
  have HI : Hid (Tryz.prog.info? 9 = some i0 ∧ i0.zero = some (.string ⟨#[]⟩) ∧ i0.size = 1 ∧ i0.bytes = 16) := ⟨hi, hz0, hz1, hz2⟩
  clear hi hz0 hz1 hz2
  go_enter Tryz.func48, Tryz.ntmps48
  go_wp2_with (first | (go_at_call_of 63 (Value.int IntKind.u8 1); refine Calls.mono (HD.out _) ?_; rintro e w1 ⟨rfl, hb⟩; have HS : Hid (Ws w k o w1 _ _) := (Ws.begin w k o k.s).on hb; have hz := HS.out.kAt.lt; have hz1 := HS.out.oAt.lt; obtain ⟨k0, k1, k2⟩ := HS.out.kAt.k3; obtain ⟨o0, o1, o2, o3, o4⟩ := HS.out.oAt.o5; clear hb) | (go_at_call_of 63 (Value.int IntKind.u8 2); refine Calls.mono (HA.out _) ?_; rintro e w1 ⟨rfl, hb⟩; have HS : Hid (Ws w k o w1 _ _) := HS.out.on hb; have hz := HS.out.kAt.lt; have hz1 := HS.out.oAt.lt; obtain ⟨k0, k1, k2⟩ := HS.out.kAt.k3; obtain ⟨o0, o1, o2, o3, o4⟩ := HS.out.oAt.o5; clear hb) | (go_at_call_of 63 (Value.int IntKind.u8 4); refine Calls.mono (HB.out _) ?_; rintro e w1 ⟨rfl, hb⟩; have HS : Hid (Ws w k o w1 _ _) := HS.out.on hb; have hz := HS.out.kAt.lt; have hz1 := HS.out.oAt.lt; obtain ⟨k0, k1, k2⟩ := HS.out.kAt.k3; obtain ⟨o0, o1, o2, o3, o4⟩ := HS.out.oAt.o5; clear hb) | (go_at_call_of 63 (Value.int IntKind.u8 16); refine Calls.mono (HN.out _) ?_; rintro e w1 ⟨rfl, hb⟩; have HS : Hid (Ws w k o w1 _ _) := HS.out.on hb; have hz := HS.out.kAt.lt; have hz1 := HS.out.oAt.lt; obtain ⟨k0, k1, k2⟩ := HS.out.kAt.k3; obtain ⟨o0, o1, o2, o3, o4⟩ := HS.out.oAt.o5; clear hb) | (go_at_call_of 63 (Value.int IntKind.u8 8); refine Calls.mono (HJ.out _) ?_; rintro e w1 ⟨rfl, hb⟩; have HS : Hid (Ws w k o w1 _ _) := HS.out.on hb; have hz := HS.out.kAt.lt; have hz1 := HS.out.oAt.lt; obtain ⟨k0, k1, k2⟩ := HS.out.kAt.k3; obtain ⟨o0, o1, o2, o3, o4⟩ := HS.out.oAt.o5; clear hb) | (go_at_call 64; refine Calls.mono (register_any _ _ (HE.out.bl HS.out.bel) (by assumption) (by assumption)) ?_; rintro e w1 ⟨rfl, hb⟩; have HS : Hid (Ws w k o w1 _ _) := HS.out.on hb; have hz := HS.out.kAt.lt; have hz1 := HS.out.oAt.lt; obtain ⟨k0, k1, k2⟩ := HS.out.kAt.k3; obtain ⟨o0, o1, o2, o3, o4⟩ := HS.out.oAt.o5; clear hb) | (go_at_call 65; refine Calls.mono (digits_any _ _ (HE.out.bl HS.out.bel) (by first | assumption | omega) (by first | assumption | omega)) ?_; rintro e w1 ⟨rfl, hb⟩; have HS : Hid (Ws w k o w1 _ _) := HS.out.on hb; have hz := HS.out.kAt.lt; have hz1 := HS.out.oAt.lt; obtain ⟨k0, k1, k2⟩ := HS.out.kAt.k3; obtain ⟨o0, o1, o2, o3, o4⟩ := HS.out.oAt.o5; clear hb) | (at_builtin; refine wpList_append_lies _ rfl _ _ 57 rfl (w.heap.size + 2) 9 i0 (.string ⟨#[]⟩) 1 16 Tryz.underlying57 HI.out.1 HI.out.2.1 HI.out.2.2.1 HI.out.2.2.2 rfl (by decide) _ _ _ rfl (HS.out.own.alloc _) ⟨w1.heap.size, 0, none⟩ 1 1 [.string _] rfl rfl (World.news_of_block (heap_alloc_new w1 _)) (by simp [Value.oneCell']) (by decide) (by unfold maxLen; simp) (by simp) (by have := HS.out.oAt.lt; simp; omega) (w1.heap.size + 1) (by simp) ?_; intro g cap w1 hown1 hgrow hat hlt3; have HS : Hid (Ws w k o w1 _ _) := HS.out.put hown1 hgrow; have hz := HS.out.kAt.lt; have hz1 := HS.out.oAt.lt; obtain ⟨k0, k1, k2⟩ := HS.out.kAt.k3; obtain ⟨o0, o1, o2, o3, o4⟩ := HS.out.oAt.o5; clear hown1 hgrow hat hlt3))
  go_ret
  exact HS.out.done HX.out
set_option maxHeartbeats 2000000 in
theorem words_00N1 (k : K) (o : O) (w : World) (hE : Pow w) (ho : o.Ok) (hD : k.D = false) (hA : k.A = false) (hB : k.B = false) (hN : k.N = true) (hI : k.I = true) : Calls Tryz.prog 48 #[k.val, o.val] w (WordsPost k o w) := by
  have HX : Hid ([k.s] ++ [itS o.b] ++ [itS o.im] = wordsS k o) := by show _ = _; simp [wordsS, hD, hA, hB, hN, hI]
  obtain ⟨-, -, d0, d1, a0, a1, b0, b1, i0', i1⟩ := ho
  have HD : Hid _ := fun w => cnt_D k w
  have HA : Hid _ := fun w => cnt_A k w
  have HB : Hid _ := fun w => cnt_B k w
  have HN : Hid _ := fun w => cnt_N k w
  have HJ : Hid _ := fun w => cnt_I k w
  rw [hD] at HD
  rw [hA] at HA
  rw [hB] at HB
  rw [hN] at HN
  rw [hI] at HJ
  clear hD hA hB hN hI
  have HE : Hid (Pow w) := hE
  clear hE
  obtain ⟨i0, hi, hi2⟩ := Option.map_eq_some_iff.1 info9
  simp only [Prod.mk.injEq] at hi2
  obtain ⟨hz0, hz1, hz2⟩ := hi2
  have HI : Hid (Tryz.prog.info? 9 = some i0 ∧ i0.zero = some (.string ⟨#[]⟩) ∧ i0.size = 1 ∧ i0.bytes = 16) := ⟨hi, hz0, hz1, hz2⟩
  clear hi hz0 hz1 hz2
  go_enter Tryz.func48, Tryz.ntmps48
  go_wp2_with (first | (go_at_call_of 63 (Value.int IntKind.u8 1); refine Calls.mono (HD.out _) ?_; rintro e w1 ⟨rfl, hb⟩; have HS : Hid (Ws w k o w1 _ _) := (Ws.begin w k o k.s).on hb; have hz := HS.out.kAt.lt; have hz1 := HS.out.oAt.lt; obtain ⟨k0, k1, k2⟩ := HS.out.kAt.k3; obtain ⟨o0, o1, o2, o3, o4⟩ := HS.out.oAt.o5; clear hb) | (go_at_call_of 63 (Value.int IntKind.u8 2); refine Calls.mono (HA.out _) ?_; rintro e w1 ⟨rfl, hb⟩; have HS : Hid (Ws w k o w1 _ _) := HS.out.on hb; have hz := HS.out.kAt.lt; have hz1 := HS.out.oAt.lt; obtain ⟨k0, k1, k2⟩ := HS.out.kAt.k3; obtain ⟨o0, o1, o2, o3, o4⟩ := HS.out.oAt.o5; clear hb) | (go_at_call_of 63 (Value.int IntKind.u8 4); refine Calls.mono (HB.out _) ?_; rintro e w1 ⟨rfl, hb⟩; have HS : Hid (Ws w k o w1 _ _) := HS.out.on hb; have hz := HS.out.kAt.lt; have hz1 := HS.out.oAt.lt; obtain ⟨k0, k1, k2⟩ := HS.out.kAt.k3; obtain ⟨o0, o1, o2, o3, o4⟩ := HS.out.oAt.o5; clear hb) | (go_at_call_of 63 (Value.int IntKind.u8 16); refine Calls.mono (HN.out _) ?_; rintro e w1 ⟨rfl, hb⟩; have HS : Hid (Ws w k o w1 _ _) := HS.out.on hb; have hz := HS.out.kAt.lt; have hz1 := HS.out.oAt.lt; obtain ⟨k0, k1, k2⟩ := HS.out.kAt.k3; obtain ⟨o0, o1, o2, o3, o4⟩ := HS.out.oAt.o5; clear hb) | (go_at_call_of 63 (Value.int IntKind.u8 8); refine Calls.mono (HJ.out _) ?_; rintro e w1 ⟨rfl, hb⟩; have HS : Hid (Ws w k o w1 _ _) := HS.out.on hb; have hz := HS.out.kAt.lt; have hz1 := HS.out.oAt.lt; obtain ⟨k0, k1, k2⟩ := HS.out.kAt.k3; obtain ⟨o0, o1, o2, o3, o4⟩ := HS.out.oAt.o5; clear hb) | (go_at_call 64; refine Calls.mono (register_any _ _ (HE.out.bl HS.out.bel) (by assumption) (by assumption)) ?_; rintro e w1 ⟨rfl, hb⟩; have HS : Hid (Ws w k o w1 _ _) := HS.out.on hb; have hz := HS.out.kAt.lt; have hz1 := HS.out.oAt.lt; obtain ⟨k0, k1, k2⟩ := HS.out.kAt.k3; obtain ⟨o0, o1, o2, o3, o4⟩ := HS.out.oAt.o5; clear hb) | (go_at_call 65; refine Calls.mono (digits_any _ _ (HE.out.bl HS.out.bel) (by first | assumption | omega) (by first | assumption | omega)) ?_; rintro e w1 ⟨rfl, hb⟩; have HS : Hid (Ws w k o w1 _ _) := HS.out.on hb; have hz := HS.out.kAt.lt; have hz1 := HS.out.oAt.lt; obtain ⟨k0, k1, k2⟩ := HS.out.kAt.k3; obtain ⟨o0, o1, o2, o3, o4⟩ := HS.out.oAt.o5; clear hb) | (at_builtin; refine wpList_append_lies _ rfl _ _ 57 rfl (w.heap.size + 2) 9 i0 (.string ⟨#[]⟩) 1 16 Tryz.underlying57 HI.out.1 HI.out.2.1 HI.out.2.2.1 HI.out.2.2.2 rfl (by decide) _ _ _ rfl (HS.out.own.alloc _) ⟨w1.heap.size, 0, none⟩ 1 1 [.string _] rfl rfl (World.news_of_block (heap_alloc_new w1 _)) (by simp [Value.oneCell']) (by decide) (by unfold maxLen; simp) (by simp) (by have := HS.out.oAt.lt; simp; omega) (w1.heap.size + 1) (by simp) ?_; intro g cap w1 hown1 hgrow hat hlt3; have HS : Hid (Ws w k o w1 _ _) := HS.out.put hown1 hgrow; have hz := HS.out.kAt.lt; have hz1 := HS.out.oAt.lt; obtain ⟨k0, k1, k2⟩ := HS.out.kAt.k3; obtain ⟨o0, o1, o2, o3, o4⟩ := HS.out.oAt.o5; clear hown1 hgrow hat hlt3))
  go_ret
  exact HS.out.done HX.out
set_option maxHeartbeats 2000000 in
theorem words_0000 (k : K) (o : O) (w : World) (hE : Pow w) (ho : o.Ok) (hD : k.D = false) (hA : k.A = false) (hB : k.B = false) (hN : k.N = false) (hI : k.I = false) : Calls Tryz.prog 48 #[k.val, o.val] w (WordsPost k o w) := by
  have HX : Hid ([k.s] = wordsS k o) := by show _ = _; simp [wordsS, hD, hA, hB, hN, hI]
  obtain ⟨-, -, d0, d1, a0, a1, b0, b1, i0', i1⟩ := ho
  have HD : Hid _ := fun w => cnt_D k w
  have HA : Hid _ := fun w => cnt_A k w
  have HB : Hid _ := fun w => cnt_B k w
  have HN : Hid _ := fun w => cnt_N k w
  have HJ : Hid _ := fun w => cnt_I k w
  rw [hD] at HD
  rw [hA] at HA
  rw [hB] at HB
  rw [hN] at HN
  rw [hI] at HJ
  clear hD hA hB hN hI
  have HE : Hid (Pow w) := hE
  clear hE
  obtain ⟨i0, hi, hi2⟩ := Option.map_eq_some_iff.1 info9
  simp only [Prod.mk.injEq] at hi2
  obtain ⟨hz0, hz1, hz2⟩ := hi2
  have HI : Hid (Tryz.prog.info? 9 = some i0 ∧ i0.zero = some (.string ⟨#[]⟩) ∧ i0.size = 1 ∧ i0.bytes = 16) := ⟨hi, hz0, hz1, hz2⟩
  clear hi hz0 hz1 hz2
  go_enter Tryz.func48, Tryz.ntmps48
  go_wp2_with (first | (go_at_call_of 63 (Value.int IntKind.u8 1); refine Calls.mono (HD.out _) ?_; rintro e w1 ⟨rfl, hb⟩; have HS : Hid (Ws w k o w1 _ _) := (Ws.begin w k o k.s).on hb; have hz := HS.out.kAt.lt; have hz1 := HS.out.oAt.lt; obtain ⟨k0, k1, k2⟩ := HS.out.kAt.k3; obtain ⟨o0, o1, o2, o3, o4⟩ := HS.out.oAt.o5; clear hb) | (go_at_call_of 63 (Value.int IntKind.u8 2); refine Calls.mono (HA.out _) ?_; rintro e w1 ⟨rfl, hb⟩; have HS : Hid (Ws w k o w1 _ _) := HS.out.on hb; have hz := HS.out.kAt.lt; have hz1 := HS.out.oAt.lt; obtain ⟨k0, k1, k2⟩ := HS.out.kAt.k3; obtain ⟨o0, o1, o2, o3, o4⟩ := HS.out.oAt.o5; clear hb) | (go_at_call_of 63 (Value.int IntKind.u8 4); refine Calls.mono (HB.out _) ?_; rintro e w1 ⟨rfl, hb⟩; have HS : Hid (Ws w k o w1 _ _) := HS.out.on hb; have hz := HS.out.kAt.lt; have hz1 := HS.out.oAt.lt; obtain ⟨k0, k1, k2⟩ := HS.out.kAt.k3; obtain ⟨o0, o1, o2, o3, o4⟩ := HS.out.oAt.o5; clear hb) | (go_at_call_of 63 (Value.int IntKind.u8 16); refine Calls.mono (HN.out _) ?_; rintro e w1 ⟨rfl, hb⟩; have HS : Hid (Ws w k o w1 _ _) := HS.out.on hb; have hz := HS.out.kAt.lt; have hz1 := HS.out.oAt.lt; obtain ⟨k0, k1, k2⟩ := HS.out.kAt.k3; obtain ⟨o0, o1, o2, o3, o4⟩ := HS.out.oAt.o5; clear hb) | (go_at_call_of 63 (Value.int IntKind.u8 8); refine Calls.mono (HJ.out _) ?_; rintro e w1 ⟨rfl, hb⟩; have HS : Hid (Ws w k o w1 _ _) := HS.out.on hb; have hz := HS.out.kAt.lt; have hz1 := HS.out.oAt.lt; obtain ⟨k0, k1, k2⟩ := HS.out.kAt.k3; obtain ⟨o0, o1, o2, o3, o4⟩ := HS.out.oAt.o5; clear hb) | (go_at_call 64; refine Calls.mono (register_any _ _ (HE.out.bl HS.out.bel) (by assumption) (by assumption)) ?_; rintro e w1 ⟨rfl, hb⟩; have HS : Hid (Ws w k o w1 _ _) := HS.out.on hb; have hz := HS.out.kAt.lt; have hz1 := HS.out.oAt.lt; obtain ⟨k0, k1, k2⟩ := HS.out.kAt.k3; obtain ⟨o0, o1, o2, o3, o4⟩ := HS.out.oAt.o5; clear hb) | (go_at_call 65; refine Calls.mono (digits_any _ _ (HE.out.bl HS.out.bel) (by first | assumption | omega) (by first | assumption | omega)) ?_; rintro e w1 ⟨rfl, hb⟩; have HS : Hid (Ws w k o w1 _ _) := HS.out.on hb; have hz := HS.out.kAt.lt; have hz1 := HS.out.oAt.lt; obtain ⟨k0, k1, k2⟩ := HS.out.kAt.k3; obtain ⟨o0, o1, o2, o3, o4⟩ := HS.out.oAt.o5; clear hb) | (at_builtin; refine wpList_append_lies _ rfl _ _ 57 rfl (w.heap.size + 2) 9 i0 (.string ⟨#[]⟩) 1 16 Tryz.underlying57 HI.out.1 HI.out.2.1 HI.out.2.2.1 HI.out.2.2.2 rfl (by decide) _ _ _ rfl (HS.out.own.alloc _) ⟨w1.heap.size, 0, none⟩ 1 1 [.string _] rfl rfl (World.news_of_block (heap_alloc_new w1 _)) (by simp [Value.oneCell']) (by decide) (by unfold maxLen; simp) (by simp) (by have := HS.out.oAt.lt; simp; omega) (w1.heap.size + 1) (by simp) ?_; intro g cap w1 hown1 hgrow hat hlt3; have HS : Hid (Ws w k o w1 _ _) := HS.out.put hown1 hgrow; have hz := HS.out.kAt.lt; have hz1 := HS.out.oAt.lt; obtain ⟨k0, k1, k2⟩ := HS.out.kAt.k3; obtain ⟨o0, o1, o2, o3, o4⟩ := HS.out.oAt.o5; clear hown1 hgrow hat hlt3))
  go_ret
  exact HS.out.done HX.out
set_option maxHeartbeats 2000000 in
theorem words_0001 (k : K) (o : O) (w : World) (hE : Pow w) (ho : o.Ok) (hD : k.D = false) (hA : k.A = false) (hB : k.B = false) (hN : k.N = false) (hI : k.I = true) : Calls Tryz.prog 48 #[k.val, o.val] w (WordsPost k o w) := by
  have HX : Hid ([k.s] ++ [itS o.im] = wordsS k o) := by show _ = _; simp [wordsS, hD, hA, hB, hN, hI]
  obtain ⟨-, -, d0, d1, a0, a1, b0, b1, i0', i1⟩ := ho
  have HD : Hid _ := fun w => cnt_D k w
  have HA : Hid _ := fun w => cnt_A k w
  have HB : Hid _ := fun w => cnt_B k w
  have HN : Hid _ := fun w => cnt_N k w
  have HJ : Hid _ := fun w => cnt_I k w
  rw [hD] at HD
  rw [hA] at HA
  rw [hB] at HB
  rw [hN] at HN
  rw [hI] at HJ
  clear hD hA hB hN hI
  have HE : Hid (Pow w) := hE
  clear hE
  obtain ⟨i0, hi, hi2⟩ := Option.map_eq_some_iff.1 info9
  simp only [Prod.mk.injEq] at hi2
  obtain ⟨hz0, hz1, hz2⟩ := hi2
  have HI : Hid (Tryz.prog.info? 9 = some i0 ∧ i0.zero = some (.string ⟨#[]⟩) ∧ i0.size = 1 ∧ i0.bytes = 16) := ⟨hi, hz0, hz1, hz2⟩
  clear hi hz0 hz1 hz2
  go_enter Tryz.func48, Tryz.ntmps48
  go_wp2_with (first | (go_at_call_of 63 (Value.int IntKind.u8 1); refine Calls.mono (HD.out _) ?_; rintro e w1 ⟨rfl, hb⟩; have HS : Hid (Ws w k o w1 _ _) := (Ws.begin w k o k.s).on hb; have hz := HS.out.kAt.lt; have hz1 := HS.out.oAt.lt; obtain ⟨k0, k1, k2⟩ := HS.out.kAt.k3; obtain ⟨o0, o1, o2, o3, o4⟩ := HS.out.oAt.o5; clear hb) | (go_at_call_of 63 (Value.int IntKind.u8 2); refine Calls.mono (HA.out _) ?_; rintro e w1 ⟨rfl, hb⟩; have HS : Hid (Ws w k o w1 _ _) := HS.out.on hb; have hz := HS.out.kAt.lt; have hz1 := HS.out.oAt.lt; obtain ⟨k0, k1, k2⟩ := HS.out.kAt.k3; obtain ⟨o0, o1, o2, o3, o4⟩ := HS.out.oAt.o5; clear hb) | (go_at_call_of 63 (Value.int IntKind.u8 4); refine Calls.mono (HB.out _) ?_; rintro e w1 ⟨rfl, hb⟩; have HS : Hid (Ws w k o w1 _ _) := HS.out.on hb; have hz := HS.out.kAt.lt; have hz1 := HS.out.oAt.lt; obtain ⟨k0, k1, k2⟩ := HS.out.kAt.k3; obtain ⟨o0, o1, o2, o3, o4⟩ := HS.out.oAt.o5; clear hb) | (go_at_call_of 63 (Value.int IntKind.u8 16); refine Calls.mono (HN.out _) ?_; rintro e w1 ⟨rfl, hb⟩; have HS : Hid (Ws w k o w1 _ _) := HS.out.on hb; have hz := HS.out.kAt.lt; have hz1 := HS.out.oAt.lt; obtain ⟨k0, k1, k2⟩ := HS.out.kAt.k3; obtain ⟨o0, o1, o2, o3, o4⟩ := HS.out.oAt.o5; clear hb) | (go_at_call_of 63 (Value.int IntKind.u8 8); refine Calls.mono (HJ.out _) ?_; rintro e w1 ⟨rfl, hb⟩; have HS : Hid (Ws w k o w1 _ _) := HS.out.on hb; have hz := HS.out.kAt.lt; have hz1 := HS.out.oAt.lt; obtain ⟨k0, k1, k2⟩ := HS.out.kAt.k3; obtain ⟨o0, o1, o2, o3, o4⟩ := HS.out.oAt.o5; clear hb) | (go_at_call 64; refine Calls.mono (register_any _ _ (HE.out.bl HS.out.bel) (by assumption) (by assumption)) ?_; rintro e w1 ⟨rfl, hb⟩; have HS : Hid (Ws w k o w1 _ _) := HS.out.on hb; have hz := HS.out.kAt.lt; have hz1 := HS.out.oAt.lt; obtain ⟨k0, k1, k2⟩ := HS.out.kAt.k3; obtain ⟨o0, o1, o2, o3, o4⟩ := HS.out.oAt.o5; clear hb) | (go_at_call 65; refine Calls.mono (digits_any _ _ (HE.out.bl HS.out.bel) (by first | assumption | omega) (by first | assumption | omega)) ?_; rintro e w1 ⟨rfl, hb⟩; have HS : Hid (Ws w k o w1 _ _) := HS.out.on hb; have hz := HS.out.kAt.lt; have hz1 := HS.out.oAt.lt; obtain ⟨k0, k1, k2⟩ := HS.out.kAt.k3; obtain ⟨o0, o1, o2, o3, o4⟩ := HS.out.oAt.o5; clear hb) | (at_builtin; refine wpList_append_lies _ rfl _ _ 57 rfl (w.heap.size + 2) 9 i0 (.string ⟨#[]⟩) 1 16 Tryz.underlying57 HI.out.1 HI.out.2.1 HI.out.2.2.1 HI.out.2.2.2 rfl (by decide) _ _ _ rfl (HS.out.own.alloc _) ⟨w1.heap.size, 0, none⟩ 1 1 [.string _] rfl rfl (World.news_of_block (heap_alloc_new w1 _)) (by simp [Value.oneCell']) (by decide) (by unfold maxLen; simp) (by simp) (by have := HS.out.oAt.lt; simp; omega) (w1.heap.size + 1) (by simp) ?_; intro g cap w1 hown1 hgrow hat hlt3; have HS : Hid (Ws w k o w1 _ _) := HS.out.put hown1 hgrow; have hz := HS.out.kAt.lt; have hz1 := HS.out.oAt.lt; obtain ⟨k0, k1, k2⟩ := HS.out.kAt.k3; obtain ⟨o0, o1, o2, o3, o4⟩ := HS.out.oAt.o5; clear hown1 hgrow hat hlt3))
  go_ret
  exact HS.out.done HX.out
set_option maxHeartbeats 2000000 in
theorem words_01B0 (k : K) (o : O) (w : World) (hE : Pow w) (ho : o.Ok) (hD : k.D = false) (hA : k.A = true) (hB : k.B = true) (hI : k.I = false) : Calls Tryz.prog 48 #[k.val, o.val] w (WordsPost k o w) := by
  have HX : Hid ([k.s] ++ [regS o.a] ++ [regS o.b] = wordsS k o) := by show _ = _; simp [wordsS, hD, hA, hB, hI]
  obtain ⟨-, -, d0, d1, a0, a1, b0, b1, i0', i1⟩ := ho
  have HD : Hid _ := fun w => cnt_D k w
  have HA : Hid _ := fun w => cnt_A k w
  have HB : Hid _ := fun w => cnt_B k w
  have HJ : Hid _ := fun w => cnt_I k w
  rw [hD] at HD
  rw [hA] at HA
  rw [hB] at HB
  rw [hI] at HJ
  clear hD hA hB hI
  have HE : Hid (Pow w) := hE
  clear hE
  obtain ⟨i0, hi, hi2⟩ := Option.map_eq_some_iff.1 info9
  simp only [Prod.mk.injEq] at hi2
  obtain ⟨hz0, hz1, hz2⟩ := hi2
  have HI : Hid (Tryz.prog.info? 9 = some i0 ∧ i0.zero = some (.string ⟨#[]⟩) ∧ i0.size = 1 ∧ i0.bytes = 16) := ⟨hi, hz0, hz1, hz2⟩
  clear hi hz0 hz1 hz2
  go_enter Tryz.func48, Tryz.ntmps48
  go_wp2_with (first | (go_at_call_of 63 (Value.int IntKind.u8 1); refine Calls.mono (HD.out _) ?_; rintro e w1 ⟨rfl, hb⟩; have HS : Hid (Ws w k o w1 _ _) := (Ws.begin w k o k.s).on hb; have hz := HS.out.kAt.lt; have hz1 := HS.out.oAt.lt; obtain ⟨k0, k1, k2⟩ := HS.out.kAt.k3; obtain ⟨o0, o1, o2, o3, o4⟩ := HS.out.oAt.o5; clear hb) | (go_at_call_of 63 (Value.int IntKind.u8 2); refine Calls.mono (HA.out _) ?_; rintro e w1 ⟨rfl, hb⟩; have HS : Hid (Ws w k o w1 _ _) := HS.out.on hb; have hz := HS.out.kAt.lt; have hz1 := HS.out.oAt.lt; obtain ⟨k0, k1, k2⟩ := HS.out.kAt.k3; obtain ⟨o0, o1, o2, o3, o4⟩ := HS.out.oAt.o5; clear hb) | (go_at_call_of 63 (Value.int IntKind.u8 4); refine Calls.mono (HB.out _) ?_; rintro e w1 ⟨rfl, hb⟩; have HS : Hid (Ws w k o w1 _ _) := HS.out.on hb; have hz := HS.out.kAt.lt; have hz1 := HS.out.oAt.lt; obtain ⟨k0, k1, k2⟩ := HS.out.kAt.k3; obtain ⟨o0, o1, o2, o3, o4⟩ := HS.out.oAt.o5; clear hb) | (go_at_call_of 63 (Value.int IntKind.u8 8); refine Calls.mono (HJ.out _) ?_; rintro e w1 ⟨rfl, hb⟩; have HS : Hid (Ws w k o w1 _ _) := HS.out.on hb; have hz := HS.out.kAt.lt; have hz1 := HS.out.oAt.lt; obtain ⟨k0, k1, k2⟩ := HS.out.kAt.k3; obtain ⟨o0, o1, o2, o3, o4⟩ := HS.out.oAt.o5; clear hb) | (go_at_call 64; refine Calls.mono (register_any _ _ (HE.out.bl HS.out.bel) (by assumption) (by assumption)) ?_; rintro e w1 ⟨rfl, hb⟩; have HS : Hid (Ws w k o w1 _ _) := HS.out.on hb; have hz := HS.out.kAt.lt; have hz1 := HS.out.oAt.lt; obtain ⟨k0, k1, k2⟩ := HS.out.kAt.k3; obtain ⟨o0, o1, o2, o3, o4⟩ := HS.out.oAt.o5; clear hb) | (go_at_call 65; refine Calls.mono (digits_any _ _ (HE.out.bl HS.out.bel) (by first | assumption | omega) (by first | assumption | omega)) ?_; rintro e w1 ⟨rfl, hb⟩; have HS : Hid (Ws w k o w1 _ _) := HS.out.on hb; have hz := HS.out.kAt.lt; have hz1 := HS.out.oAt.lt; obtain ⟨k0, k1, k2⟩ := HS.out.kAt.k3; obtain ⟨o0, o1, o2, o3, o4⟩ := HS.out.oAt.o5; clear hb) | (at_builtin; refine wpList_append_lies _ rfl _ _ 57 rfl (w.heap.size + 2) 9 i0 (.string ⟨#[]⟩) 1 16 Tryz.underlying57 HI.out.1 HI.out.2.1 HI.out.2.2.1 HI.out.2.2.2 rfl (by decide) _ _ _ rfl (HS.out.own.alloc _) ⟨w1.heap.size, 0, none⟩ 1 1 [.string _] rfl rfl (World.news_of_block (heap_alloc_new w1 _)) (by simp [Value.oneCell']) (by decide) (by unfold maxLen; simp) (by simp) (by have := HS.out.oAt.lt; simp; omega) (w1.heap.size + 1) (by simp) ?_; intro g cap w1 hown1 hgrow hat hlt3; have HS : Hid (Ws w k o w1 _ _) := HS.out.put hown1 hgrow; have hz := HS.out.kAt.lt; have hz1 := HS.out.oAt.lt; obtain ⟨k0, k1, k2⟩ := HS.out.kAt.k3; obtain ⟨o0, o1, o2, o3, o4⟩ := HS.out.oAt.o5; clear hown1 hgrow hat hlt3))
  go_ret
  exact HS.out.done HX.out
set_option maxHeartbeats 2000000 in
theorem words_01B1 (k : K) (o : O) (w : World) (hE : Pow w) (ho : o.Ok) (hD : k.D = false) (hA : k.A = true) (hB : k.B = true) (hI : k.I = true) : Calls Tryz.prog 48 #[k.val, o.val] w (WordsPost k o w) := by
  have HX : Hid ([k.s] ++ [regS o.a] ++ [regS o.b] ++ [itS o.im] = wordsS k o) := by show _ = _; simp [wordsS, hD, hA, hB, hI]
  obtain ⟨-, -, d0, d1, a0, a1, b0, b1, i0', i1⟩ := ho
  have HD : Hid _ := fun w => cnt_D k w
  have HA : Hid _ := fun w => cnt_A k w
  have HB : Hid _ := fun w => cnt_B k w
  have HJ : Hid _ := fun w => cnt_I k w
  rw [hD] at HD
  rw [hA] at HA
  rw [hB] at HB
  rw [hI] at HJ
  clear hD hA hB hI
  have HE : Hid (Pow w) := hE
  clear hE
  obtain ⟨i0, hi, hi2⟩ := Option.map_eq_some_iff.1 info9
  simp only [Prod.mk.injEq] at hi2
  obtain ⟨hz0, hz1, hz2⟩ := hi2
  have HI : Hid (Tryz.prog.info? 9 = some i0 ∧ i0.zero = some (.string ⟨#[]⟩) ∧ i0.size = 1 ∧ i0.bytes = 16) := ⟨hi, hz0, hz1, hz2⟩
  clear hi hz0 hz1 hz2
  go_enter Tryz.func48, Tryz.ntmps48
  go_wp2_with (first | (go_at_call_of 63 (Value.int IntKind.u8 1); refine Calls.mono (HD.out _) ?_; rintro e w1 ⟨rfl, hb⟩; have HS : Hid (Ws w k o w1 _ _) := (Ws.begin w k o k.s).on hb; have hz := HS.out.kAt.lt; have hz1 := HS.out.oAt.lt; obtain ⟨k0, k1, k2⟩ := HS.out.kAt.k3; obtain ⟨o0, o1, o2, o3, o4⟩ := HS.out.oAt.o5; clear hb) | (go_at_call_of 63 (Value.int IntKind.u8 2); refine Calls.mono (HA.out _) ?_; rintro e w1 ⟨rfl, hb⟩; have HS : Hid (Ws w k o w1 _ _) := HS.out.on hb; have hz := HS.out.kAt.lt; have hz1 := HS.out.oAt.lt; obtain ⟨k0, k1, k2⟩ := HS.out.kAt.k3; obtain ⟨o0, o1, o2, o3, o4⟩ := HS.out.oAt.o5; clear hb) | (go_at_call_of 63 (Value.int IntKind.u8 4); refine Calls.mono (HB.out _) ?_; rintro e w1 ⟨rfl, hb⟩; have HS : Hid (Ws w k o w1 _ _) := HS.out.on hb; have hz := HS.out.kAt.lt; have hz1 := HS.out.oAt.lt; obtain ⟨k0, k1, k2⟩ := HS.out.kAt.k3; obtain ⟨o0, o1, o2, o3, o4⟩ := HS.out.oAt.o5; clear hb) | (go_at_call_of 63 (Value.int IntKind.u8 8); refine Calls.mono (HJ.out _) ?_; rintro e w1 ⟨rfl, hb⟩; have HS : Hid (Ws w k o w1 _ _) := HS.out.on hb; have hz := HS.out.kAt.lt; have hz1 := HS.out.oAt.lt; obtain ⟨k0, k1, k2⟩ := HS.out.kAt.k3; obtain ⟨o0, o1, o2, o3, o4⟩ := HS.out.oAt.o5; clear hb) | (go_at_call 64; refine Calls.mono (register_any _ _ (HE.out.bl HS.out.bel) (by assumption) (by assumption)) ?_; rintro e w1 ⟨rfl, hb⟩; have HS : Hid (Ws w k o w1 _ _) := HS.out.on hb; have hz := HS.out.kAt.lt; have hz1 := HS.out.oAt.lt; obtain ⟨k0, k1, k2⟩ := HS.out.kAt.k3; obtain ⟨o0, o1, o2, o3, o4⟩ := HS.out.oAt.o5; clear hb) | (go_at_call 65; refine Calls.mono (digits_any _ _ (HE.out.bl HS.out.bel) (by first | assumption | omega) (by first | assumption | omega)) ?_; rintro e w1 ⟨rfl, hb⟩; have HS : Hid (Ws w k o w1 _ _) := HS.out.on hb; have hz := HS.out.kAt.lt; have hz1 := HS.out.oAt.lt; obtain ⟨k0, k1, k2⟩ := HS.out.kAt.k3; obtain ⟨o0, o1, o2, o3, o4⟩ := HS.out.oAt.o5; clear hb) | (at_builtin; refine wpList_append_lies _ rfl _ _ 57 rfl (w.heap.size + 2) 9 i0 (.string ⟨#[]⟩) 1 16 Tryz.underlying57 HI.out.1 HI.out.2.1 HI.out.2.2.1 HI.out.2.2.2 rfl (by decide) _ _ _ rfl (HS.out.own.alloc _) ⟨w1.heap.size, 0, none⟩ 1 1 [.string _] rfl rfl (World.news_of_block (heap_alloc_new w1 _)) (by simp [Value.oneCell']) (by decide) (by unfold maxLen; simp) (by simp) (by have := HS.out.oAt.lt; simp; omega) (w1.heap.size + 1) (by simp) ?_; intro g cap w1 hown1 hgrow hat hlt3; have HS : Hid (Ws w k o w1 _ _) := HS.out.put hown1 hgrow; have hz := HS.out.kAt.lt; have hz1 := HS.out.oAt.lt; obtain ⟨k0, k1, k2⟩ := HS.out.kAt.k3; obtain ⟨o0, o1, o2, o3, o4⟩ := HS.out.oAt.o5; clear hown1 hgrow hat hlt3))
  go_ret
  exact HS.out.done HX.out
set_option maxHeartbeats 2000000 in
theorem words_01N0 (k : K) (o : O) (w : World) (hE : Pow w) (ho : o.Ok) (hD : k.D = false) (hA : k.A = true) (hB : k.B = false) (hN : k.N = true) (hI : k.I = false) : Calls Tryz.prog 48 #[k.val, o.val] w (WordsPost k o w) := by
  have HX : Hid ([k.s] ++ [regS o.a] ++ [itS o.b] = wordsS k o) := by show _ = _; simp [wordsS, hD, hA, hB, hN, hI]
  obtain ⟨-, -, d0, d1, a0, a1, b0, b1, i0', i1⟩ := ho
  have HD : Hid _ := fun w => cnt_D k w
  have HA : Hid _ := fun w => cnt_A k w
  have HB : Hid _ := fun w => cnt_B k w
  have HN : Hid _ := fun w => cnt_N k w
  have HJ : Hid _ := fun w => cnt_I k w
  rw [hD] at HD
  rw [hA] at HA
  rw [hB] at HB
  rw [hN] at HN
  rw [hI] at HJ
  clear hD hA hB hN hI
  have HE : Hid (Pow w) := hE
  clear hE
  obtain ⟨i0, hi, hi2⟩ := Option.map_eq_some_iff.1 info9
  simp only [Prod.mk.injEq] at hi2
  obtain ⟨hz0, hz1, hz2⟩ := hi2
  have HI : Hid (Tryz.prog.info? 9 = some i0 ∧ i0.zero = some (.string ⟨#[]⟩) ∧ i0.size = 1 ∧ i0.bytes = 16) := ⟨hi, hz0, hz1, hz2⟩
  clear hi hz0 hz1 hz2
  go_enter Tryz.func48, Tryz.ntmps48
  go_wp2_with (first | (go_at_call_of 63 (Value.int IntKind.u8 1); refine Calls.mono (HD.out _) ?_; rintro e w1 ⟨rfl, hb⟩; have HS : Hid (Ws w k o w1 _ _) := (Ws.begin w k o k.s).on hb; have hz := HS.out.kAt.lt; have hz1 := HS.out.oAt.lt; obtain ⟨k0, k1, k2⟩ := HS.out.kAt.k3; obtain ⟨o0, o1, o2, o3, o4⟩ := HS.out.oAt.o5; clear hb) | (go_at_call_of 63 (Value.int IntKind.u8 2); refine Calls.mono (HA.out _) ?_; rintro e w1 ⟨rfl, hb⟩; have HS : Hid (Ws w k o w1 _ _) := HS.out.on hb; have hz := HS.out.kAt.lt; have hz1 := HS.out.oAt.lt; obtain ⟨k0, k1, k2⟩ := HS.out.kAt.k3; obtain ⟨o0, o1, o2, o3, o4⟩ := HS.out.oAt.o5; clear hb) | (go_at_call_of 63 (Value.int IntKind.u8 4); refine Calls.mono (HB.out _) ?_; rintro e w1 ⟨rfl, hb⟩; have HS : Hid (Ws w k o w1 _ _) := HS.out.on hb; have hz := HS.out.kAt.lt; have hz1 := HS.out.oAt.lt; obtain ⟨k0, k1, k2⟩ := HS.out.kAt.k3; obtain ⟨o0, o1, o2, o3, o4⟩ := HS.out.oAt.o5; clear hb) | (go_at_call_of 63 (Value.int IntKind.u8 16); refine Calls.mono (HN.out _) ?_; rintro e w1 ⟨rfl, hb⟩; have HS : Hid (Ws w k o w1 _ _) := HS.out.on hb; have hz := HS.out.kAt.lt; have hz1 := HS.out.oAt.lt; obtain ⟨k0, k1, k2⟩ := HS.out.kAt.k3; obtain ⟨o0, o1, o2, o3, o4⟩ := HS.out.oAt.o5; clear hb) | (go_at_call_of 63 (Value.int IntKind.u8 8); refine Calls.mono (HJ.out _) ?_; rintro e w1 ⟨rfl, hb⟩; have HS : Hid (Ws w k o w1 _ _) := HS.out.on hb; have hz := HS.out.kAt.lt; have hz1 := HS.out.oAt.lt; obtain ⟨k0, k1, k2⟩ := HS.out.kAt.k3; obtain ⟨o0, o1, o2, o3, o4⟩ := HS.out.oAt.o5; clear hb) | (go_at_call 64; refine Calls.mono (register_any _ _ (HE.out.bl HS.out.bel) (by assumption) (by assumption)) ?_; rintro e w1 ⟨rfl, hb⟩; have HS : Hid (Ws w k o w1 _ _) := HS.out.on hb; have hz := HS.out.kAt.lt; have hz1 := HS.out.oAt.lt; obtain ⟨k0, k1, k2⟩ := HS.out.kAt.k3; obtain ⟨o0, o1, o2, o3, o4⟩ := HS.out.oAt.o5; clear hb) | (go_at_call 65; refine Calls.mono (digits_any _ _ (HE.out.bl HS.out.bel) (by first | assumption | omega) (by first | assumption | omega)) ?_; rintro e w1 ⟨rfl, hb⟩; have HS : Hid (Ws w k o w1 _ _) := HS.out.on hb; have hz := HS.out.kAt.lt; have hz1 := HS.out.oAt.lt; obtain ⟨k0, k1, k2⟩ := HS.out.kAt.k3; obtain ⟨o0, o1, o2, o3, o4⟩ := HS.out.oAt.o5; clear hb) | (at_builtin; refine wpList_append_lies _ rfl _ _ 57 rfl (w.heap.size + 2) 9 i0 (.string ⟨#[]⟩) 1 16 Tryz.underlying57 HI.out.1 HI.out.2.1 HI.out.2.2.1 HI.out.2.2.2 rfl (by decide) _ _ _ rfl (HS.out.own.alloc _) ⟨w1.heap.size, 0, none⟩ 1 1 [.string _] rfl rfl (World.news_of_block (heap_alloc_new w1 _)) (by simp [Value.oneCell']) (by decide) (by unfold maxLen; simp) (by simp) (by have := HS.out.oAt.lt; simp; omega) (w1.heap.size + 1) (by simp) ?_; intro g cap w1 hown1 hgrow hat hlt3; have HS : Hid (Ws w k o w1 _ _) := HS.out.put hown1 hgrow; have hz := HS.out.kAt.lt; have hz1 := HS.out.oAt.lt; obtain ⟨k0, k1, k2⟩ := HS.out.kAt.k3; obtain ⟨o0, o1, o2, o3, o4⟩ := HS.out.oAt.o5; clear hown1 hgrow hat hlt3))
  go_ret
  exact HS.out.done HX.out
set_option maxHeartbeats 2000000 in
theorem words_01N1 (k : K) (o : O) (w : World) (hE : Pow w) (ho : o.Ok) (hD : k.D = false) (hA : k.A = true) (hB : k.B = false) (hN : k.N = true) (hI : k.I = true) : Calls Tryz.prog 48 #[k.val, o.val] w (WordsPost k o w) := by
  have HX : Hid ([k.s] ++ [regS o.a] ++ [itS o.b] ++ [itS o.im] = wordsS k o) := by show _ = _; simp [wordsS, hD, hA, hB, hN, hI]
  obtain ⟨-, -, d0, d1, a0, a1, b0, b1, i0', i1⟩ := ho
  have HD : Hid _ := fun w => cnt_D k w
  have HA : Hid _ := fun w => cnt_A k w
  have HB : Hid _ := fun w => cnt_B k w
  have HN : Hid _ := fun w => cnt_N k w
  have HJ : Hid _ := fun w => cnt_I k w
  rw [hD] at HD
  rw [hA] at HA
  rw [hB] at HB
  rw [hN] at HN
  rw [hI] at HJ
  clear hD hA hB hN hI
  have HE : Hid (Pow w) := hE
  clear hE
  obtain ⟨i0, hi, hi2⟩ := Option.map_eq_some_iff.1 info9
  simp only [Prod.mk.injEq] at hi2
  obtain ⟨hz0, hz1, hz2⟩ := hi2
  have HI : Hid (Tryz.prog.info? 9 = some i0 ∧ i0.zero = some (.string ⟨#[]⟩) ∧ i0.size = 1 ∧ i0.bytes = 16) := ⟨hi, hz0, hz1, hz2⟩
  clear hi hz0 hz1 hz2
  go_enter Tryz.func48, Tryz.ntmps48
  go_wp2_with (first | (go_at_call_of 63 (Value.int IntKind.u8 1); refine Calls.mono (HD.out _) ?_; rintro e w1 ⟨rfl, hb⟩; have HS : Hid (Ws w k o w1 _ _) := (Ws.begin w k o k.s).on hb; have hz := HS.out.kAt.lt; have hz1 := HS.out.oAt.lt; obtain ⟨k0, k1, k2⟩ := HS.out.kAt.k3; obtain ⟨o0, o1, o2, o3, o4⟩ := HS.out.oAt.o5; clear hb) | (go_at_call_of 63 (Value.int IntKind.u8 2); refine Calls.mono (HA.out _) ?_; rintro e w1 ⟨rfl, hb⟩; have HS : Hid (Ws w k o w1 _ _) := HS.out.on hb; have hz := HS.out.kAt.lt; have hz1 := HS.out.oAt.lt; obtain ⟨k0, k1, k2⟩ := HS.out.kAt.k3; obtain ⟨o0, o1, o2, o3, o4⟩ := HS.out.oAt.o5; clear hb) | (go_at_call_of 63 (Value.int IntKind.u8 4); refine Calls.mono (HB.out _) ?_; rintro e w1 ⟨rfl, hb⟩; have HS : Hid (Ws w k o w1 _ _) := HS.out.on hb; have hz := HS.out.kAt.lt; have hz1 := HS.out.oAt.lt; obtain ⟨k0, k1, k2⟩ := HS.out.kAt.k3; obtain ⟨o0, o1, o2, o3, o4⟩ := HS.out.oAt.o5; clear hb) | (go_at_call_of 63 (Value.int IntKind.u8 16); refine Calls.mono (HN.out _) ?_; rintro e w1 ⟨rfl, hb⟩; have HS : Hid (Ws w k o w1 _ _) := HS.out.on hb; have hz := HS.out.kAt.lt; have hz1 := HS.out.oAt.lt; obtain ⟨k0, k1, k2⟩ := HS.out.kAt.k3; obtain ⟨o0, o1, o2, o3, o4⟩ := HS.out.oAt.o5; clear hb) | (go_at_call_of 63 (Value.int IntKind.u8 8); refine Calls.mono (HJ.out _) ?_; rintro e w1 ⟨rfl, hb⟩; have HS : Hid (Ws w k o w1 _ _) := HS.out.on hb; have hz := HS.out.kAt.lt; have hz1 := HS.out.oAt.lt; obtain ⟨k0, k1, k2⟩ := HS.out.kAt.k3; obtain ⟨o0, o1, o2, o3, o4⟩ := HS.out.oAt.o5; clear hb) | (go_at_call 64; refine Calls.mono (register_any _ _ (HE.out.bl HS.out.bel) (by assumption) (by assumption)) ?_; rintro e w1 ⟨rfl, hb⟩; have HS : Hid (Ws w k o w1 _ _) := HS.out.on hb; have hz := HS.out.kAt.lt; have hz1 := HS.out.oAt.lt; obtain ⟨k0, k1, k2⟩ := HS.out.kAt.k3; obtain ⟨o0, o1, o2, o3, o4⟩ := HS.out.oAt.o5; clear hb) | (go_at_call 65; refine Calls.mono (digits_any _ _ (HE.out.bl HS.out.bel) (by first | assumption | omega) (by first | assumption | omega)) ?_; rintro e w1 ⟨rfl, hb⟩; have HS : Hid (Ws w k o w1 _ _) := HS.out.on hb; have hz := HS.out.kAt.lt; have hz1 := HS.out.oAt.lt; obtain ⟨k0, k1, k2⟩ := HS.out.kAt.k3; obtain ⟨o0, o1, o2, o3, o4⟩ := HS.out.oAt.o5; clear hb) | (at_builtin; refine wpList_append_lies _ rfl _ _ 57 rfl (w.heap.size + 2) 9 i0 (.string ⟨#[]⟩) 1 16 Tryz.underlying57 HI.out.1 HI.out.2.1 HI.out.2.2.1 HI.out.2.2.2 rfl (by decide) _ _ _ rfl (HS.out.own.alloc _) ⟨w1.heap.size, 0, none⟩ 1 1 [.string _] rfl rfl (World.news_of_block (heap_alloc_new w1 _)) (by simp [Value.oneCell']) (by decide) (by unfold maxLen; simp) (by simp) (by have := HS.out.oAt.lt; simp; omega) (w1.heap.size + 1) (by simp) ?_; intro g cap w1 hown1 hgrow hat hlt3; have HS : Hid (Ws w k o w1 _ _) := HS.out.put hown1 hgrow; have hz := HS.out.kAt.lt; have hz1 := HS.out.oAt.lt; obtain ⟨k0, k1, k2⟩ := HS.out.kAt.k3; obtain ⟨o0, o1, o2, o3, o4⟩ := HS.out.oAt.o5; clear hown1 hgrow hat hlt3))
  go_ret
  exact HS.out.done HX.out
set_option maxHeartbeats 2000000 in
theorem words_0100 (k : K) (o : O) (w : World) (hE : Pow w) (ho : o.Ok) (hD : k.D = false) (hA : k.A = true) (hB : k.B = false) (hN : k.N = false) (hI : k.I = false) : Calls Tryz.prog 48 #[k.val, o.val] w (WordsPost k o w) := by
  have HX : Hid ([k.s] ++ [regS o.a] = wordsS k o) := by show _ = _; simp [wordsS, hD, hA, hB, hN, hI]
  obtain ⟨-, -, d0, d1, a0, a1, b0, b1, i0', i1⟩ := ho
  have HD : Hid _ := fun w => cnt_D k w
  have HA : Hid _ := fun w => cnt_A k w
  have HB : Hid _ := fun w => cnt_B k w
  have HN : Hid _ := fun w => cnt_N k w
  have HJ : Hid _ := fun w => cnt_I k w
  rw [hD] at HD
  rw [hA] at HA
  rw [hB] at HB
  rw [hN] at HN
  rw [hI] at HJ
  clear hD hA hB hN hI
  have HE : Hid (Pow w) := hE
  clear hE
  obtain ⟨i0, hi, hi2⟩ := Option.map_eq_some_iff.1 info9
  simp only [Prod.mk.injEq] at hi2
  obtain ⟨hz0, hz1, hz2⟩ := hi2
  have HI : Hid (Tryz.prog.info? 9 = some i0 ∧ i0.zero = some (.string ⟨#[]⟩) ∧ i0.size = 1 ∧ i0.bytes = 16) := ⟨hi, hz0, hz1, hz2⟩
  clear hi hz0 hz1 hz2
  go_enter Tryz.func48, Tryz.ntmps48
  go_wp2_with (first | (go_at_call_of 63 (Value.int IntKind.u8 1); refine Calls.mono (HD.out _) ?_; rintro e w1 ⟨rfl, hb⟩; have HS : Hid (Ws w k o w1 _ _) := (Ws.begin w k o k.s).on hb; have hz := HS.out.kAt.lt; have hz1 := HS.out.oAt.lt; obtain ⟨k0, k1, k2⟩ := HS.out.kAt.k3; obtain ⟨o0, o1, o2, o3, o4⟩ := HS.out.oAt.o5; clear hb) | (go_at_call_of 63 (Value.int IntKind.u8 2); refine Calls.mono (HA.out _) ?_; rintro e w1 ⟨rfl, hb⟩; have HS : Hid (Ws w k o w1 _ _) := HS.out.on hb; have hz := HS.out.kAt.lt; have hz1 := HS.out.oAt.lt; obtain ⟨k0, k1, k2⟩ := HS.out.kAt.k3; obtain ⟨o0, o1, o2, o3, o4⟩ := HS.out.oAt.o5; clear hb) | (go_at_call_of 63 (Value.int IntKind.u8 4); refine Calls.mono (HB.out _) ?_; rintro e w1 ⟨rfl, hb⟩; have HS : Hid (Ws w k o w1 _ _) := HS.out.on hb; have hz := HS.out.kAt.lt; have hz1 := HS.out.oAt.lt; obtain ⟨k0, k1, k2⟩ := HS.out.kAt.k3; obtain ⟨o0, o1, o2, o3, o4⟩ := HS.out.oAt.o5; clear hb) | (go_at_call_of 63 (Value.int IntKind.u8 16); refine Calls.mono (HN.out _) ?_; rintro e w1 ⟨rfl, hb⟩; have HS : Hid (Ws w k o w1 _ _) := HS.out.on hb; have hz := HS.out.kAt.lt; have hz1 := HS.out.oAt.lt; obtain ⟨k0, k1, k2⟩ := HS.out.kAt.k3; obtain ⟨o0, o1, o2, o3, o4⟩ := HS.out.oAt.o5; clear hb) | (go_at_call_of 63 (Value.int IntKind.u8 8); refine Calls.mono (HJ.out _) ?_; rintro e w1 ⟨rfl, hb⟩; have HS : Hid (Ws w k o w1 _ _) := HS.out.on hb; have hz := HS.out.kAt.lt; have hz1 := HS.out.oAt.lt; obtain ⟨k0, k1, k2⟩ := HS.out.kAt.k3; obtain ⟨o0, o1, o2, o3, o4⟩ := HS.out.oAt.o5; clear hb) | (go_at_call 64; refine Calls.mono (register_any _ _ (HE.out.bl HS.out.bel) (by assumption) (by assumption)) ?_; rintro e w1 ⟨rfl, hb⟩; have HS : Hid (Ws w k o w1 _ _) := HS.out.on hb; have hz := HS.out.kAt.lt; have hz1 := HS.out.oAt.lt; obtain ⟨k0, k1, k2⟩ := HS.out.kAt.k3; obtain ⟨o0, o1, o2, o3, o4⟩ := HS.out.oAt.o5; clear hb) | (go_at_call 65; refine Calls.mono (digits_any _ _ (HE.out.bl HS.out.bel) (by first | assumption | omega) (by first | assumption | omega)) ?_; rintro e w1 ⟨rfl, hb⟩; have HS : Hid (Ws w k o w1 _ _) := HS.out.on hb; have hz := HS.out.kAt.lt; have hz1 := HS.out.oAt.lt; obtain ⟨k0, k1, k2⟩ := HS.out.kAt.k3; obtain ⟨o0, o1, o2, o3, o4⟩ := HS.out.oAt.o5; clear hb) | (at_builtin; refine wpList_append_lies _ rfl _ _ 57 rfl (w.heap.size + 2) 9 i0 (.string ⟨#[]⟩) 1 16 Tryz.underlying57 HI.out.1 HI.out.2.1 HI.out.2.2.1 HI.out.2.2.2 rfl (by decide) _ _ _ rfl (HS.out.own.alloc _) ⟨w1.heap.size, 0, none⟩ 1 1 [.string _] rfl rfl (World.news_of_block (heap_alloc_new w1 _)) (by simp [Value.oneCell']) (by decide) (by unfold maxLen; simp) (by simp) (by have := HS.out.oAt.lt; simp; omega) (w1.heap.size + 1) (by simp) ?_; intro g cap w1 hown1 hgrow hat hlt3; have HS : Hid (Ws w k o w1 _ _) := HS.out.put hown1 hgrow; have hz := HS.out.kAt.lt; have hz1 := HS.out.oAt.lt; obtain ⟨k0, k1, k2⟩ := HS.out.kAt.k3; obtain ⟨o0, o1, o2, o3, o4⟩ := HS.out.oAt.o5; clear hown1 hgrow hat hlt3))
  go_ret
  exact HS.out.done HX.out
set_option maxHeartbeats 2000000 in
theorem words_0101 (k : K) (o : O) (w : World) (hE : Pow w) (ho : o.Ok) (hD : k.D = false) (hA : k.A = true) (hB : k.B = false) (hN : k.N = false) (hI : k.I = true) : Calls Tryz.prog 48 #[k.val, o.val] w (WordsPost k o w) := by
  have HX : Hid ([k.s] ++ [regS o.a] ++ [itS o.im] = wordsS k o) := by show _ = _; simp [wordsS, hD, hA, hB, hN, hI]
  obtain ⟨-, -, d0, d1, a0, a1, b0, b1, i0', i1⟩ := ho
  have HD : Hid _ := fun w => cnt_D k w
  have HA : Hid _ := fun w => cnt_A k w
  have HB : Hid _ := fun w => cnt_B k w
  have HN : Hid _ := fun w => cnt_N k w
  have HJ : Hid _ := fun w => cnt_I k w
  rw [hD] at HD
  rw [hA] at HA
  rw [hB] at HB
  rw [hN] at HN
  rw [hI] at HJ
  clear hD hA hB hN hI
  have HE : Hid (Pow w) := hE
  clear hE
  obtain ⟨i0, hi, hi2⟩ := Option.map_eq_some_iff.1 info9
  simp only [Prod.mk.injEq] at hi2
  obtain ⟨hz0, hz1, hz2⟩ := hi2
  have HI : Hid (Tryz.prog.info? 9 = some i0 ∧ i0.zero = some (.string ⟨#[]⟩) ∧ i0.size = 1 ∧ i0.bytes = 16) := ⟨hi, hz0, hz1, hz2⟩
  clear hi hz0 hz1 hz2
  go_enter Tryz.func48, Tryz.ntmps48
  go_wp2_with (first | (go_at_call_of 63 (Value.int IntKind.u8 1); refine Calls.mono (HD.out _) ?_; rintro e w1 ⟨rfl, hb⟩; have HS : Hid (Ws w k o w1 _ _) := (Ws.begin w k o k.s).on hb; have hz := HS.out.kAt.lt; have hz1 := HS.out.oAt.lt; obtain ⟨k0, k1, k2⟩ := HS.out.kAt.k3; obtain ⟨o0, o1, o2, o3, o4⟩ := HS.out.oAt.o5; clear hb) | (go_at_call_of 63 (Value.int IntKind.u8 2); refine Calls.mono (HA.out _) ?_; rintro e w1 ⟨rfl, hb⟩; have HS : Hid (Ws w k o w1 _ _) := HS.out.on hb; have hz := HS.out.kAt.lt; have hz1 := HS.out.oAt.lt; obtain ⟨k0, k1, k2⟩ := HS.out.kAt.k3; obtain ⟨o0, o1, o2, o3, o4⟩ := HS.out.oAt.o5; clear hb) | (go_at_call_of 63 (Value.int IntKind.u8 4); refine Calls.mono (HB.out _) ?_; rintro e w1 ⟨rfl, hb⟩; have HS : Hid (Ws w k o w1 _ _) := HS.out.on hb; have hz := HS.out.kAt.lt; have hz1 := HS.out.oAt.lt; obtain ⟨k0, k1, k2⟩ := HS.out.kAt.k3; obtain ⟨o0, o1, o2, o3, o4⟩ := HS.out.oAt.o5; clear hb) | (go_at_call_of 63 (Value.int IntKind.u8 16); refine Calls.mono (HN.out _) ?_; rintro e w1 ⟨rfl, hb⟩; have HS : Hid (Ws w k o w1 _ _) := HS.out.on hb; have hz := HS.out.kAt.lt; have hz1 := HS.out.oAt.lt; obtain ⟨k0, k1, k2⟩ := HS.out.kAt.k3; obtain ⟨o0, o1, o2, o3, o4⟩ := HS.out.oAt.o5; clear hb) | (go_at_call_of 63 (Value.int IntKind.u8 8); refine Calls.mono (HJ.out _) ?_; rintro e w1 ⟨rfl, hb⟩; have HS : Hid (Ws w k o w1 _ _) := HS.out.on hb; have hz := HS.out.kAt.lt; have hz1 := HS.out.oAt.lt; obtain ⟨k0, k1, k2⟩ := HS.out.kAt.k3; obtain ⟨o0, o1, o2, o3, o4⟩ := HS.out.oAt.o5; clear hb) | (go_at_call 64; refine Calls.mono (register_any _ _ (HE.out.bl HS.out.bel) (by assumption) (by assumption)) ?_; rintro e w1 ⟨rfl, hb⟩; have HS : Hid (Ws w k o w1 _ _) := HS.out.on hb; have hz := HS.out.kAt.lt; have hz1 := HS.out.oAt.lt; obtain ⟨k0, k1, k2⟩ := HS.out.kAt.k3; obtain ⟨o0, o1, o2, o3, o4⟩ := HS.out.oAt.o5; clear hb) | (go_at_call 65; refine Calls.mono (digits_any _ _ (HE.out.bl HS.out.bel) (by first | assumption | omega) (by first | assumption | omega)) ?_; rintro e w1 ⟨rfl, hb⟩; have HS : Hid (Ws w k o w1 _ _) := HS.out.on hb; have hz := HS.out.kAt.lt; have hz1 := HS.out.oAt.lt; obtain ⟨k0, k1, k2⟩ := HS.out.kAt.k3; obtain ⟨o0, o1, o2, o3, o4⟩ := HS.out.oAt.o5; clear hb) | (at_builtin; refine wpList_append_lies _ rfl _ _ 57 rfl (w.heap.size + 2) 9 i0 (.string ⟨#[]⟩) 1 16 Tryz.underlying57 HI.out.1 HI.out.2.1 HI.out.2.2.1 HI.out.2.2.2 rfl (by decide) _ _ _ rfl (HS.out.own.alloc _) ⟨w1.heap.size, 0, none⟩ 1 1 [.string _] rfl rfl (World.news_of_block (heap_alloc_new w1 _)) (by simp [Value.oneCell']) (by decide) (by unfold maxLen; simp) (by simp) (by have := HS.out.oAt.lt; simp; omega) (w1.heap.size + 1) (by simp) ?_; intro g cap w1 hown1 hgrow hat hlt3; have HS : Hid (Ws w k o w1 _ _) := HS.out.put hown1 hgrow; have hz := HS.out.kAt.lt; have hz1 := HS.out.oAt.lt; obtain ⟨k0, k1, k2⟩ := HS.out.kAt.k3; obtain ⟨o0, o1, o2, o3, o4⟩ := HS.out.oAt.o5; clear hown1 hgrow hat hlt3))
  go_ret
  exact HS.out.done HX.out
set_option maxHeartbeats 2000000 in
theorem words_10B0 (k : K) (o : O) (w : World) (hE : Pow w) (ho : o.Ok) (hD : k.D = true) (hA : k.A = false) (hB : k.B = true) (hI : k.I = false) : Calls Tryz.prog 48 #[k.val, o.val] w (WordsPost k o w) := by
  have HX : Hid ([k.s] ++ [regS o.d] ++ [regS o.b] = wordsS k o) := by show _ = _; simp [wordsS, hD, hA, hB, hI]
  obtain ⟨-, -, d0, d1, a0, a1, b0, b1, i0', i1⟩ := ho
  have HD : Hid _ := fun w => cnt_D k w
  have HA : Hid _ := fun w => cnt_A k w
  have HB : Hid _ := fun w => cnt_B k w
  have HJ : Hid _ := fun w => cnt_I k w
  rw [hD] at HD
  rw [hA] at HA
  rw [hB] at HB
  rw [hI] at HJ
  clear hD hA hB hI
  have HE : Hid (Pow w) := hE
  clear hE
  obtain ⟨i0, hi, hi2⟩ := Option.map_eq_some_iff.1 info9
  simp only [Prod.mk.injEq] at hi2
  obtain ⟨hz0, hz1, hz2⟩ := hi2
  have HI : Hid (Tryz.prog.info? 9 = some i0 ∧ i0.zero = some (.string ⟨#[]⟩) ∧ i0.size = 1 ∧ i0.bytes = 16) := ⟨hi, hz0, hz1, hz2⟩
  clear hi hz0 hz1 hz2
  go_enter Tryz.func48, Tryz.ntmps48
  go_wp2_with (first | (go_at_call_of 63 (Value.int IntKind.u8 1); refine Calls.mono (HD.out _) ?_; rintro e w1 ⟨rfl, hb⟩; have HS : Hid (Ws w k o w1 _ _) := (Ws.begin w k o k.s).on hb; have hz := HS.out.kAt.lt; have hz1 := HS.out.oAt.lt; obtain ⟨k0, k1, k2⟩ := HS.out.kAt.k3; obtain ⟨o0, o1, o2, o3, o4⟩ := HS.out.oAt.o5; clear hb) | (go_at_call_of 63 (Value.int IntKind.u8 2); refine Calls.mono (HA.out _) ?_; rintro e w1 ⟨rfl, hb⟩; have HS : Hid (Ws w k o w1 _ _) := HS.out.on hb; have hz := HS.out.kAt.lt; have hz1 := HS.out.oAt.lt; obtain ⟨k0, k1, k2⟩ := HS.out.kAt.k3; obtain ⟨o0, o1, o2, o3, o4⟩ := HS.out.oAt.o5; clear hb) | (go_at_call_of 63 (Value.int IntKind.u8 4); refine Calls.mono (HB.out _) ?_; rintro e w1 ⟨rfl, hb⟩; have HS : Hid (Ws w k o w1 _ _) := HS.out.on hb; have hz := HS.out.kAt.lt; have hz1 := HS.out.oAt.lt; obtain ⟨k0, k1, k2⟩ := HS.out.kAt.k3; obtain ⟨o0, o1, o2, o3, o4⟩ := HS.out.oAt.o5; clear hb) | (go_at_call_of 63 (Value.int IntKind.u8 8); refine Calls.mono (HJ.out _) ?_; rintro e w1 ⟨rfl, hb⟩; have HS : Hid (Ws w k o w1 _ _) := HS.out.on hb; have hz := HS.out.kAt.lt; have hz1 := HS.out.oAt.lt; obtain ⟨k0, k1, k2⟩ := HS.out.kAt.k3; obtain ⟨o0, o1, o2, o3, o4⟩ := HS.out.oAt.o5; clear hb) | (go_at_call 64; refine Calls.mono (register_any _ _ (HE.out.bl HS.out.bel) (by assumption) (by assumption)) ?_; rintro e w1 ⟨rfl, hb⟩; have HS : Hid (Ws w k o w1 _ _) := HS.out.on hb; have hz := HS.out.kAt.lt; have hz1 := HS.out.oAt.lt; obtain ⟨k0, k1, k2⟩ := HS.out.kAt.k3; obtain ⟨o0, o1, o2, o3, o4⟩ := HS.out.oAt.o5; clear hb) | (go_at_call 65; refine Calls.mono (digits_any _ _ (HE.out.bl HS.out.bel) (by first | assumption | omega) (by first | assumption | omega)) ?_; rintro e w1 ⟨rfl, hb⟩; have HS : Hid (Ws w k o w1 _ _) := HS.out.on hb; have hz := HS.out.kAt.lt; have hz1 := HS.out.oAt.lt; obtain ⟨k0, k1, k2⟩ := HS.out.kAt.k3; obtain ⟨o0, o1, o2, o3, o4⟩ := HS.out.oAt.o5; clear hb) | (at_builtin; refine wpList_append_lies _ rfl _ _ 57 rfl (w.heap.size + 2) 9 i0 (.string ⟨#[]⟩) 1 16 Tryz.underlying57 HI.out.1 HI.out.2.1 HI.out.2.2.1 HI.out.2.2.2 rfl (by decide) _ _ _ rfl (HS.out.own.alloc _) ⟨w1.heap.size, 0, none⟩ 1 1 [.string _] rfl rfl (World.news_of_block (heap_alloc_new w1 _)) (by simp [Value.oneCell']) (by decide) (by unfold maxLen; simp) (by simp) (by have := HS.out.oAt.lt; simp; omega) (w1.heap.size + 1) (by simp) ?_; intro g cap w1 hown1 hgrow hat hlt3; have HS : Hid (Ws w k o w1 _ _) := HS.out.put hown1 hgrow; have hz := HS.out.kAt.lt; have hz1 := HS.out.oAt.lt; obtain ⟨k0, k1, k2⟩ := HS.out.kAt.k3; obtain ⟨o0, o1, o2, o3, o4⟩ := HS.out.oAt.o5; clear hown1 hgrow hat hlt3))
  go_ret
  exact HS.out.done HX.out
set_option maxHeartbeats 2000000 in
theorem words_10B1 (k : K) (o : O) (w : World) (hE : Pow w) (ho : o.Ok) (hD : k.D = true) (hA : k.A = false) (hB : k.B = true) (hI : k.I = true) : Calls Tryz.prog 48 #[k.val, o.val] w (WordsPost k o w) := by
  have HX : Hid ([k.s] ++ [regS o.d] ++ [regS o.b] ++ [itS o.im] = wordsS k o) := by show _ = _; simp [wordsS, hD, hA, hB, hI]
  obtain ⟨-, -, d0, d1, a0, a1, b0, b1, i0', i1⟩ := ho
  have HD : Hid _ := fun w => cnt_D k w
  have HA : Hid _ := fun w => cnt_A k w
  have HB : Hid _ := fun w => cnt_B k w
  have HJ : Hid _ := fun w => cnt_I k w
  rw [hD] at HD
  rw [hA] at HA
  rw [hB] at HB
  rw [hI] at HJ
  clear hD hA hB hI
  have HE : Hid (Pow w) := hE
  clear hE
  obtain ⟨i0, hi, hi2⟩ := Option.map_eq_some_iff.1 info9
  simp only [Prod.mk.injEq] at hi2
  obtain ⟨hz0, hz1, hz2⟩ := hi2
  have HI : Hid (Tryz.prog.info? 9 = some i0 ∧ i0.zero = some (.string ⟨#[]⟩) ∧ i0.size = 1 ∧ i0.bytes = 16) := ⟨hi, hz0, hz1, hz2⟩
  clear hi hz0 hz1 hz2
  go_enter Tryz.func48, Tryz.ntmps48
  go_wp2_with (first | (go_at_call_of 63 (Value.int IntKind.u8 1); refine Calls.mono (HD.out _) ?_; rintro e w1 ⟨rfl, hb⟩; have HS : Hid (Ws w k o w1 _ _) := (Ws.begin w k o k.s).on hb; have hz := HS.out.kAt.lt; have hz1 := HS.out.oAt.lt; obtain ⟨k0, k1, k2⟩ := HS.out.kAt.k3; obtain ⟨o0, o1, o2, o3, o4⟩ := HS.out.oAt.o5; clear hb) | (go_at_call_of 63 (Value.int IntKind.u8 2); refine Calls.mono (HA.out _) ?_; rintro e w1 ⟨rfl, hb⟩; have HS : Hid (Ws w k o w1 _ _) := HS.out.on hb; have hz := HS.out.kAt.lt; have hz1 := HS.out.oAt.lt; obtain ⟨k0, k1, k2⟩ := HS.out.kAt.k3; obtain ⟨o0, o1, o2, o3, o4⟩ := HS.out.oAt.o5; clear hb) | (go_at_call_of 63 (Value.int IntKind.u8 4); refine Calls.mono (HB.out _) ?_; rintro e w1 ⟨rfl, hb⟩; have HS : Hid (Ws w k o w1 _ _) := HS.out.on hb; have hz := HS.out.kAt.lt; have hz1 := HS.out.oAt.lt; obtain ⟨k0, k1, k2⟩ := HS.out.kAt.k3; obtain ⟨o0, o1, o2, o3, o4⟩ := HS.out.oAt.o5; clear hb) | (go_at_call_of 63 (Value.int IntKind.u8 8); refine Calls.mono (HJ.out _) ?_; rintro e w1 ⟨rfl, hb⟩; have HS : Hid (Ws w k o w1 _ _) := HS.out.on hb; have hz := HS.out.kAt.lt; have hz1 := HS.out.oAt.lt; obtain ⟨k0, k1, k2⟩ := HS.out.kAt.k3; obtain ⟨o0, o1, o2, o3, o4⟩ := HS.out.oAt.o5; clear hb) | (go_at_call 64; refine Calls.mono (register_any _ _ (HE.out.bl HS.out.bel) (by assumption) (by assumption)) ?_; rintro e w1 ⟨rfl, hb⟩; have HS : Hid (Ws w k o w1 _ _) := HS.out.on hb; have hz := HS.out.kAt.lt; have hz1 := HS.out.oAt.lt; obtain ⟨k0, k1, k2⟩ := HS.out.kAt.k3; obtain ⟨o0, o1, o2, o3, o4⟩ := HS.out.oAt.o5; clear hb) | (go_at_call 65; refine Calls.mono (digits_any _ _ (HE.out.bl HS.out.bel) (by first | assumption | omega) (by first | assumption | omega)) ?_; rintro e w1 ⟨rfl, hb⟩; have HS : Hid (Ws w k o w1 _ _) := HS.out.on hb; have hz := HS.out.kAt.lt; have hz1 := HS.out.oAt.lt; obtain ⟨k0, k1, k2⟩ := HS.out.kAt.k3; obtain ⟨o0, o1, o2, o3, o4⟩ := HS.out.oAt.o5; clear hb) | (at_builtin; refine wpList_append_lies _ rfl _ _ 57 rfl (w.heap.size + 2) 9 i0 (.string ⟨#[]⟩) 1 16 Tryz.underlying57 HI.out.1 HI.out.2.1 HI.out.2.2.1 HI.out.2.2.2 rfl (by decide) _ _ _ rfl (HS.out.own.alloc _) ⟨w1.heap.size, 0, none⟩ 1 1 [.string _] rfl rfl (World.news_of_block (heap_alloc_new w1 _)) (by simp [Value.oneCell']) (by decide) (by unfold maxLen; simp) (by simp) (by have := HS.out.oAt.lt; simp; omega) (w1.heap.size + 1) (by simp) ?_; intro g cap w1 hown1 hgrow hat hlt3; have HS : Hid (Ws w k o w1 _ _) := HS.out.put hown1 hgrow; have hz := HS.out.kAt.lt; have hz1 := HS.out.oAt.lt; obtain ⟨k0, k1, k2⟩ := HS.out.kAt.k3; obtain ⟨o0, o1, o2, o3, o4⟩ := HS.out.oAt.o5; clear hown1 hgrow hat hlt3))
  go_ret
  exact HS.out.done HX.out
set_option maxHeartbeats 2000000 in
theorem words_10N0 (k : K) (o : O) (w : World) (hE : Pow w) (ho : o.Ok) (hD : k.D = true) (hA : k.A = false) (hB : k.B = false) (hN : k.N = true) (hI : k.I = false) : Calls Tryz.prog 48 #[k.val, o.val] w (WordsPost k o w) := by
  have HX : Hid ([k.s] ++ [regS o.d] ++ [itS o.b] = wordsS k o) := by show _ = _; simp [wordsS, hD, hA, hB, hN, hI]
  obtain ⟨-, -, d0, d1, a0, a1, b0, b1, i0', i1⟩ := ho
  have HD : Hid _ := fun w => cnt_D k w
  have HA : Hid _ := fun w => cnt_A k w
  have HB : Hid _ := fun w => cnt_B k w
  have HN : Hid _ := fun w => cnt_N k w
  have HJ : Hid _ := fun w => cnt_I k w
  rw [hD] at HD
  rw [hA] at HA
  rw [hB] at HB
  rw [hN] at HN
  rw [hI] at HJ
  clear hD hA hB hN hI
  have HE : Hid (Pow w) := hE
  clear hE
  obtain ⟨i0, hi, hi2⟩ := Option.map_eq_some_iff.1 info9
  simp only [Prod.mk.injEq] at hi2
  obtain ⟨hz0, hz1, hz2⟩ := hi2
  have HI : Hid (Tryz.prog.info? 9 = some i0 ∧ i0.zero = some (.string ⟨#[]⟩) ∧ i0.size = 1 ∧ i0.bytes = 16) := ⟨hi, hz0, hz1, hz2⟩
  clear hi hz0 hz1 hz2
  go_enter Tryz.func48, Tryz.ntmps48
  go_wp2_with (first | (go_at_call_of 63 (Value.int IntKind.u8 1); refine Calls.mono (HD.out _) ?_; rintro e w1 ⟨rfl, hb⟩; have HS : Hid (Ws w k o w1 _ _) := (Ws.begin w k o k.s).on hb; have hz := HS.out.kAt.lt; have hz1 := HS.out.oAt.lt; obtain ⟨k0, k1, k2⟩ := HS.out.kAt.k3; obtain ⟨o0, o1, o2, o3, o4⟩ := HS.out.oAt.o5; clear hb) | (go_at_call_of 63 (Value.int IntKind.u8 2); refine Calls.mono (HA.out _) ?_; rintro e w1 ⟨rfl, hb⟩; have HS : Hid (Ws w k o w1 _ _) := HS.out.on hb; have hz := HS.out.kAt.lt; have hz1 := HS.out.oAt.lt; obtain ⟨k0, k1, k2⟩ := HS.out.kAt.k3; obtain ⟨o0, o1, o2, o3, o4⟩ := HS.out.oAt.o5; clear hb) | (go_at_call_of 63 (Value.int IntKind.u8 4); refine Calls.mono (HB.out _) ?_; rintro e w1 ⟨rfl, hb⟩; have HS : Hid (Ws w k o w1 _ _) := HS.out.on hb; have hz := HS.out.kAt.lt; have hz1 := HS.out.oAt.lt; obtain ⟨k0, k1, k2⟩ := HS.out.kAt.k3; obtain ⟨o0, o1, o2, o3, o4⟩ := HS.out.oAt.o5; clear hb) | (go_at_call_of 63 (Value.int IntKind.u8 16); refine Calls.mono (HN.out _) ?_; rintro e w1 ⟨rfl, hb⟩; have HS : Hid (Ws w k o w1 _ _) := HS.out.on hb; have hz := HS.out.kAt.lt; have hz1 := HS.out.oAt.lt; obtain ⟨k0, k1, k2⟩ := HS.out.kAt.k3; obtain ⟨o0, o1, o2, o3, o4⟩ := HS.out.oAt.o5; clear hb) | (go_at_call_of 63 (Value.int IntKind.u8 8); refine Calls.mono (HJ.out _) ?_; rintro e w1 ⟨rfl, hb⟩; have HS : Hid (Ws w k o w1 _ _) := HS.out.on hb; have hz := HS.out.kAt.lt; have hz1 := HS.out.oAt.lt; obtain ⟨k0, k1, k2⟩ := HS.out.kAt.k3; obtain ⟨o0, o1, o2, o3, o4⟩ := HS.out.oAt.o5; clear hb) | (go_at_call 64; refine Calls.mono (register_any _ _ (HE.out.bl HS.out.bel) (by assumption) (by assumption)) ?_; rintro e w1 ⟨rfl, hb⟩; have HS : Hid (Ws w k o w1 _ _) := HS.out.on hb; have hz := HS.out.kAt.lt; have hz1 := HS.out.oAt.lt; obtain ⟨k0, k1, k2⟩ := HS.out.kAt.k3; obtain ⟨o0, o1, o2, o3, o4⟩ := HS.out.oAt.o5; clear hb) | (go_at_call 65; refine Calls.mono (digits_any _ _ (HE.out.bl HS.out.bel) (by first | assumption | omega) (by first | assumption | omega)) ?_; rintro e w1 ⟨rfl, hb⟩; have HS : Hid (Ws w k o w1 _ _) := HS.out.on hb; have hz := HS.out.kAt.lt; have hz1 := HS.out.oAt.lt; obtain ⟨k0, k1, k2⟩ := HS.out.kAt.k3; obtain ⟨o0, o1, o2, o3, o4⟩ := HS.out.oAt.o5; clear hb) | (at_builtin; refine wpList_append_lies _ rfl _ _ 57 rfl (w.heap.size + 2) 9 i0 (.string ⟨#[]⟩) 1 16 Tryz.underlying57 HI.out.1 HI.out.2.1 HI.out.2.2.1 HI.out.2.2.2 rfl (by decide) _ _ _ rfl (HS.out.own.alloc _) ⟨w1.heap.size, 0, none⟩ 1 1 [.string _] rfl rfl (World.news_of_block (heap_alloc_new w1 _)) (by simp [Value.oneCell']) (by decide) (by unfold maxLen; simp) (by simp) (by have := HS.out.oAt.lt; simp; omega) (w1.heap.size + 1) (by simp) ?_; intro g cap w1 hown1 hgrow hat hlt3; have HS : Hid (Ws w k o w1 _ _) := HS.out.put hown1 hgrow; have hz := HS.out.kAt.lt; have hz1 := HS.out.oAt.lt; obtain ⟨k0, k1, k2⟩ := HS.out.kAt.k3; obtain ⟨o0, o1, o2, o3, o4⟩ := HS.out.oAt.o5; clear hown1 hgrow hat hlt3))
  go_ret
  exact HS.out.done HX.out
set_option maxHeartbeats 2000000 in
theorem words_10N1 (k : K) (o : O) (w : World) (hE : Pow w) (ho : o.Ok) (hD : k.D = true) (hA : k.A = false) (hB : k.B = false) (hN : k.N = true) (hI : k.I = true) : Calls Tryz.prog 48 #[k.val, o.val] w (WordsPost k o w) := by
  have HX : Hid ([k.s] ++ [regS o.d] ++ [itS o.b] ++ [itS o.im] = wordsS k o) := by show _ = _; simp [wordsS, hD, hA, hB, hN, hI]
  obtain ⟨-, -, d0, d1, a0, a1, b0, b1, i0', i1⟩ := ho
  have HD : Hid _ := fun w => cnt_D k w
  have HA : Hid _ := fun w => cnt_A k w
  have HB : Hid _ := fun w => cnt_B k w
  have HN : Hid _ := fun w => cnt_N k w
  have HJ : Hid _ := fun w => cnt_I k w
  rw [hD] at HD
  rw [hA] at HA
  rw [hB] at HB
  rw [hN] at HN
  rw [hI] at HJ
  clear hD hA hB hN hI
  have HE : Hid (Pow w) := hE
  clear hE
  obtain ⟨i0, hi, hi2⟩ := Option.map_eq_some_iff.1 info9
  simp only [Prod.mk.injEq] at hi2
  obtain ⟨hz0, hz1, hz2⟩ := hi2
  have HI : Hid (Tryz.prog.info? 9 = some i0 ∧ i0.zero = some (.string ⟨#[]⟩) ∧ i0.size = 1 ∧ i0.bytes = 16) := ⟨hi, hz0, hz1, hz2⟩
  clear hi hz0 hz1 hz2
  go_enter Tryz.func48, Tryz.ntmps48
  go_wp2_with (first | (go_at_call_of 63 (Value.int IntKind.u8 1); refine Calls.mono (HD.out _) ?_; rintro e w1 ⟨rfl, hb⟩; have HS : Hid (Ws w k o w1 _ _) := (Ws.begin w k o k.s).on hb; have hz := HS.out.kAt.lt; have hz1 := HS.out.oAt.lt; obtain ⟨k0, k1, k2⟩ := HS.out.kAt.k3; obtain ⟨o0, o1, o2, o3, o4⟩ := HS.out.oAt.o5; clear hb) | (go_at_call_of 63 (Value.int IntKind.u8 2); refine Calls.mono (HA.out _) ?_; rintro e w1 ⟨rfl, hb⟩; have HS : Hid (Ws w k o w1 _ _) := HS.out.on hb; have hz := HS.out.kAt.lt; have hz1 := HS.out.oAt.lt; obtain ⟨k0, k1, k2⟩ := HS.out.kAt.k3; obtain ⟨o0, o1, o2, o3, o4⟩ := HS.out.oAt.o5; clear hb) | (go_at_call_of 63 (Value.int IntKind.u8 4); refine Calls.mono (HB.out _) ?_; rintro e w1 ⟨rfl, hb⟩; have HS : Hid (Ws w k o w1 _ _) := HS.out.on hb; have hz := HS.out.kAt.lt; have hz1 := HS.out.oAt.lt; obtain ⟨k0, k1, k2⟩ := HS.out.kAt.k3; obtain ⟨o0, o1, o2, o3, o4⟩ := HS.out.oAt.o5; clear hb) | (go_at_call_of 63 (Value.int IntKind.u8 16); refine Calls.mono (HN.out _) ?_; rintro e w1 ⟨rfl, hb⟩; have HS : Hid (Ws w k o w1 _ _) := HS.out.on hb; have hz := HS.out.kAt.lt; have hz1 := HS.out.oAt.lt; obtain ⟨k0, k1, k2⟩ := HS.out.kAt.k3; obtain ⟨o0, o1, o2, o3, o4⟩ := HS.out.oAt.o5; clear hb) | (go_at_call_of 63 (Value.int IntKind.u8 8); refine Calls.mono (HJ.out _) ?_; rintro e w1 ⟨rfl, hb⟩; have HS : Hid (Ws w k o w1 _ _) := HS.out.on hb; have hz := HS.out.kAt.lt; have hz1 := HS.out.oAt.lt; obtain ⟨k0, k1, k2⟩ := HS.out.kAt.k3; obtain ⟨o0, o1, o2, o3, o4⟩ := HS.out.oAt.o5; clear hb) | (go_at_call 64; refine Calls.mono (register_any _ _ (HE.out.bl HS.out.bel) (by assumption) (by assumption)) ?_; rintro e w1 ⟨rfl, hb⟩; have HS : Hid (Ws w k o w1 _ _) := HS.out.on hb; have hz := HS.out.kAt.lt; have hz1 := HS.out.oAt.lt; obtain ⟨k0, k1, k2⟩ := HS.out.kAt.k3; obtain ⟨o0, o1, o2, o3, o4⟩ := HS.out.oAt.o5; clear hb) | (go_at_call 65; refine Calls.mono (digits_any _ _ (HE.out.bl HS.out.bel) (by first | assumption | omega) (by first | assumption | omega)) ?_; rintro e w1 ⟨rfl, hb⟩; have HS : Hid (Ws w k o w1 _ _) := HS.out.on hb; have hz := HS.out.kAt.lt; have hz1 := HS.out.oAt.lt; obtain ⟨k0, k1, k2⟩ := HS.out.kAt.k3; obtain ⟨o0, o1, o2, o3, o4⟩ := HS.out.oAt.o5; clear hb) | (at_builtin; refine wpList_append_lies _ rfl _ _ 57 rfl (w.heap.size + 2) 9 i0 (.string ⟨#[]⟩) 1 16 Tryz.underlying57 HI.out.1 HI.out.2.1 HI.out.2.2.1 HI.out.2.2.2 rfl (by decide) _ _ _ rfl (HS.out.own.alloc _) ⟨w1.heap.size, 0, none⟩ 1 1 [.string _] rfl rfl (World.news_of_block (heap_alloc_new w1 _)) (by simp [Value.oneCell']) (by decide) (by unfold maxLen; simp) (by simp) (by have := HS.out.oAt.lt; simp; omega) (w1.heap.size + 1) (by simp) ?_; intro g cap w1 hown1 hgrow hat hlt3; have HS : Hid (Ws w k o w1 _ _) := HS.out.put hown1 hgrow; have hz := HS.out.kAt.lt; have hz1 := HS.out.oAt.lt; obtain ⟨k0, k1, k2⟩ := HS.out.kAt.k3; obtain ⟨o0, o1, o2, o3, o4⟩ := HS.out.oAt.o5; clear hown1 hgrow hat hlt3))
  go_ret
  exact HS.out.done HX.out
set_option maxHeartbeats 2000000 in
theorem words_1000 (k : K) (o : O) (w : World) (hE : Pow w) (ho : o.Ok) (hD : k.D = true) (hA : k.A = false) (hB : k.B = false) (hN : k.N = false) (hI : k.I = false) : Calls Tryz.prog 48 #[k.val, o.val] w (WordsPost k o w) := by
  have HX : Hid ([k.s] ++ [regS o.d] = wordsS k o) := by show _ = _; simp [wordsS, hD, hA, hB, hN, hI]
  obtain ⟨-, -, d0, d1, a0, a1, b0, b1, i0', i1⟩ := ho
  have HD : Hid _ := fun w => cnt_D k w
  have HA : Hid _ := fun w => cnt_A k w
  have HB : Hid _ := fun w => cnt_B k w
  have HN : Hid _ := fun w => cnt_N k w
  have HJ : Hid _ := fun w => cnt_I k w
  rw [hD] at HD
  rw [hA] at HA
  rw [hB] at HB
  rw [hN] at HN
  rw [hI] at HJ
  clear hD hA hB hN hI
  have HE : Hid (Pow w) := hE
  clear hE
  obtain ⟨i0, hi, hi2⟩ := Option.map_eq_some_iff.1 info9
  simp only [Prod.mk.injEq] at hi2
  obtain ⟨hz0, hz1, hz2⟩ := hi2
  have HI : Hid (Tryz.prog.info? 9 = some i0 ∧ i0.zero = some (.string ⟨#[]⟩) ∧ i0.size = 1 ∧ i0.bytes = 16) := ⟨hi, hz0, hz1, hz2⟩
  clear hi hz0 hz1 hz2
  go_enter Tryz.func48, Tryz.ntmps48
  go_wp2_with (first | (go_at_call_of 63 (Value.int IntKind.u8 1); refine Calls.mono (HD.out _) ?_; rintro e w1 ⟨rfl, hb⟩; have HS : Hid (Ws w k o w1 _ _) := (Ws.begin w k o k.s).on hb; have hz := HS.out.kAt.lt; have hz1 := HS.out.oAt.lt; obtain ⟨k0, k1, k2⟩ := HS.out.kAt.k3; obtain ⟨o0, o1, o2, o3, o4⟩ := HS.out.oAt.o5; clear hb) | (go_at_call_of 63 (Value.int IntKind.u8 2); refine Calls.mono (HA.out _) ?_; rintro e w1 ⟨rfl, hb⟩; have HS : Hid (Ws w k o w1 _ _) := HS.out.on hb; have hz := HS.out.kAt.lt; have hz1 := HS.out.oAt.lt; obtain ⟨k0, k1, k2⟩ := HS.out.kAt.k3; obtain ⟨o0, o1, o2, o3, o4⟩ := HS.out.oAt.o5; clear hb) | (go_at_call_of 63 (Value.int IntKind.u8 4); refine Calls.mono (HB.out _) ?_; rintro e w1 ⟨rfl, hb⟩; have HS : Hid (Ws w k o w1 _ _) := HS.out.on hb; have hz := HS.out.kAt.lt; have hz1 := HS.out.oAt.lt; obtain ⟨k0, k1, k2⟩ := HS.out.kAt.k3; obtain ⟨o0, o1, o2, o3, o4⟩ := HS.out.oAt.o5; clear hb) | (go_at_call_of 63 (Value.int IntKind.u8 16); refine Calls.mono (HN.out _) ?_; rintro e w1 ⟨rfl, hb⟩; have HS : Hid (Ws w k o w1 _ _) := HS.out.on hb; have hz := HS.out.kAt.lt; have hz1 := HS.out.oAt.lt; obtain ⟨k0, k1, k2⟩ := HS.out.kAt.k3; obtain ⟨o0, o1, o2, o3, o4⟩ := HS.out.oAt.o5; clear hb) | (go_at_call_of 63 (Value.int IntKind.u8 8); refine Calls.mono (HJ.out _) ?_; rintro e w1 ⟨rfl, hb⟩; have HS : Hid (Ws w k o w1 _ _) := HS.out.on hb; have hz := HS.out.kAt.lt; have hz1 := HS.out.oAt.lt; obtain ⟨k0, k1, k2⟩ := HS.out.kAt.k3; obtain ⟨o0, o1, o2, o3, o4⟩ := HS.out.oAt.o5; clear hb) | (go_at_call 64; refine Calls.mono (register_any _ _ (HE.out.bl HS.out.bel) (by assumption) (by assumption)) ?_; rintro e w1 ⟨rfl, hb⟩; have HS : Hid (Ws w k o w1 _ _) := HS.out.on hb; have hz := HS.out.kAt.lt; have hz1 := HS.out.oAt.lt; obtain ⟨k0, k1, k2⟩ := HS.out.kAt.k3; obtain ⟨o0, o1, o2, o3, o4⟩ := HS.out.oAt.o5; clear hb) | (go_at_call 65; refine Calls.mono (digits_any _ _ (HE.out.bl HS.out.bel) (by first | assumption | omega) (by first | assumption | omega)) ?_; rintro e w1 ⟨rfl, hb⟩; have HS : Hid (Ws w k o w1 _ _) := HS.out.on hb; have hz := HS.out.kAt.lt; have hz1 := HS.out.oAt.lt; obtain ⟨k0, k1, k2⟩ := HS.out.kAt.k3; obtain ⟨o0, o1, o2, o3, o4⟩ := HS.out.oAt.o5; clear hb) | (at_builtin; refine wpList_append_lies _ rfl _ _ 57 rfl (w.heap.size + 2) 9 i0 (.string ⟨#[]⟩) 1 16 Tryz.underlying57 HI.out.1 HI.out.2.1 HI.out.2.2.1 HI.out.2.2.2 rfl (by decide) _ _ _ rfl (HS.out.own.alloc _) ⟨w1.heap.size, 0, none⟩ 1 1 [.string _] rfl rfl (World.news_of_block (heap_alloc_new w1 _)) (by simp [Value.oneCell']) (by decide) (by unfold maxLen; simp) (by simp) (by have := HS.out.oAt.lt; simp; omega) (w1.heap.size + 1) (by simp) ?_; intro g cap w1 hown1 hgrow hat hlt3; have HS : Hid (Ws w k o w1 _ _) := HS.out.put hown1 hgrow; have hz := HS.out.kAt.lt; have hz1 := HS.out.oAt.lt; obtain ⟨k0, k1, k2⟩ := HS.out.kAt.k3; obtain ⟨o0, o1, o2, o3, o4⟩ := HS.out.oAt.o5; clear hown1 hgrow hat hlt3))
  go_ret
  exact HS.out.done HX.out
set_option maxHeartbeats 2000000 in
theorem words_1001 (k : K) (o : O) (w : World) (hE : Pow w) (ho : o.Ok) (hD : k.D = true) (hA : k.A = false) (hB : k.B = false) (hN : k.N = false) (hI : k.I = true) : Calls Tryz.prog 48 #[k.val, o.val] w (WordsPost k o w) := by
  have HX : Hid ([k.s] ++ [regS o.d] ++ [itS o.im] = wordsS k o) := by show _ = _; simp [wordsS, hD, hA, hB, hN, hI]
  obtain ⟨-, -, d0, d1, a0, a1, b0, b1, i0', i1⟩ := ho
  have HD : Hid _ := fun w => cnt_D k w
  have HA : Hid _ := fun w => cnt_A k w
  have HB : Hid _ := fun w => cnt_B k w
  have HN : Hid _ := fun w => cnt_N k w
  have HJ : Hid _ := fun w => cnt_I k w
  rw [hD] at HD
  rw [hA] at HA
  rw [hB] at HB
  rw [hN] at HN
  rw [hI] at HJ
  clear hD hA hB hN hI
  have HE : Hid (Pow w) := hE
  clear hE
  obtain ⟨i0, hi, hi2⟩ := Option.map_eq_some_iff.1 info9
  simp only [Prod.mk.injEq] at hi2
  obtain ⟨hz0, hz1, hz2⟩ := hi2
  have HI : Hid (Tryz.prog.info? 9 = some i0 ∧ i0.zero = some (.string ⟨#[]⟩) ∧ i0.size = 1 ∧ i0.bytes = 16) := ⟨hi, hz0, hz1, hz2⟩
  clear hi hz0 hz1 hz2
  go_enter Tryz.func48, Tryz.ntmps48
  go_wp2_with (first | (go_at_call_of 63 (Value.int IntKind.u8 1); refine Calls.mono (HD.out _) ?_; rintro e w1 ⟨rfl, hb⟩; have HS : Hid (Ws w k o w1 _ _) := (Ws.begin w k o k.s).on hb; have hz := HS.out.kAt.lt; have hz1 := HS.out.oAt.lt; obtain ⟨k0, k1, k2⟩ := HS.out.kAt.k3; obtain ⟨o0, o1, o2, o3, o4⟩ := HS.out.oAt.o5; clear hb) | (go_at_call_of 63 (Value.int IntKind.u8 2); refine Calls.mono (HA.out _) ?_; rintro e w1 ⟨rfl, hb⟩; have HS : Hid (Ws w k o w1 _ _) := HS.out.on hb; have hz := HS.out.kAt.lt; have hz1 := HS.out.oAt.lt; obtain ⟨k0, k1, k2⟩ := HS.out.kAt.k3; obtain ⟨o0, o1, o2, o3, o4⟩ := HS.out.oAt.o5; clear hb) | (go_at_call_of 63 (Value.int IntKind.u8 4); refine Calls.mono (HB.out _) ?_; rintro e w1 ⟨rfl, hb⟩; have HS : Hid (Ws w k o w1 _ _) := HS.out.on hb; have hz := HS.out.kAt.lt; have hz1 := HS.out.oAt.lt; obtain ⟨k0, k1, k2⟩ := HS.out.kAt.k3; obtain ⟨o0, o1, o2, o3, o4⟩ := HS.out.oAt.o5; clear hb) | (go_at_call_of 63 (Value.int IntKind.u8 16); refine Calls.mono (HN.out _) ?_; rintro e w1 ⟨rfl, hb⟩; have HS : Hid (Ws w k o w1 _ _) := HS.out.on hb; have hz := HS.out.kAt.lt; have hz1 := HS.out.oAt.lt; obtain ⟨k0, k1, k2⟩ := HS.out.kAt.k3; obtain ⟨o0, o1, o2, o3, o4⟩ := HS.out.oAt.o5; clear hb) | (go_at_call_of 63 (Value.int IntKind.u8 8); refine Calls.mono (HJ.out _) ?_; rintro e w1 ⟨rfl, hb⟩; have HS : Hid (Ws w k o w1 _ _) := HS.out.on hb; have hz := HS.out.kAt.lt; have hz1 := HS.out.oAt.lt; obtain ⟨k0, k1, k2⟩ := HS.out.kAt.k3; obtain ⟨o0, o1, o2, o3, o4⟩ := HS.out.oAt.o5; clear hb) | (go_at_call 64; refine Calls.mono (register_any _ _ (HE.out.bl HS.out.bel) (by assumption) (by assumption)) ?_; rintro e w1 ⟨rfl, hb⟩; have HS : Hid (Ws w k o w1 _ _) := HS.out.on hb; have hz := HS.out.kAt.lt; have hz1 := HS.out.oAt.lt; obtain ⟨k0, k1, k2⟩ := HS.out.kAt.k3; obtain ⟨o0, o1, o2, o3, o4⟩ := HS.out.oAt.o5; clear hb) | (go_at_call 65; refine Calls.mono (digits_any _ _ (HE.out.bl HS.out.bel) (by first | assumption | omega) (by first | assumption | omega)) ?_; rintro e w1 ⟨rfl, hb⟩; have HS : Hid (Ws w k o w1 _ _) := HS.out.on hb; have hz := HS.out.kAt.lt; have hz1 := HS.out.oAt.lt; obtain ⟨k0, k1, k2⟩ := HS.out.kAt.k3; obtain ⟨o0, o1, o2, o3, o4⟩ := HS.out.oAt.o5; clear hb) | (at_builtin; refine wpList_append_lies _ rfl _ _ 57 rfl (w.heap.size + 2) 9 i0 (.string ⟨#[]⟩) 1 16 Tryz.underlying57 HI.out.1 HI.out.2.1 HI.out.2.2.1 HI.out.2.2.2 rfl (by decide) _ _ _ rfl (HS.out.own.alloc _) ⟨w1.heap.size, 0, none⟩ 1 1 [.string _] rfl rfl (World.news_of_block (heap_alloc_new w1 _)) (by simp [Value.oneCell']) (by decide) (by unfold maxLen; simp) (by simp) (by have := HS.out.oAt.lt; simp; omega) (w1.heap.size + 1) (by simp) ?_; intro g cap w1 hown1 hgrow hat hlt3; have HS : Hid (Ws w k o w1 _ _) := HS.out.put hown1 hgrow; have hz := HS.out.kAt.lt; have hz1 := HS.out.oAt.lt; obtain ⟨k0, k1, k2⟩ := HS.out.kAt.k3; obtain ⟨o0, o1, o2, o3, o4⟩ := HS.out.oAt.o5; clear hown1 hgrow hat hlt3))
  go_ret
  exact HS.out.done HX.out
set_option maxHeartbeats 2000000 in
theorem words_11B0 (k : K) (o : O) (w : World) (hE : Pow w) (ho : o.Ok) (hD : k.D = true) (hA : k.A = true) (hB : k.B = true) (hI : k.I = false) : Calls Tryz.prog 48 #[k.val, o.val] w (WordsPost k o w) := by
  have HX : Hid ([k.s] ++ [regS o.d] ++ [regS o.a] ++ [regS o.b] = wordsS k o) := by show _ = _; simp [wordsS, hD, hA, hB, hI]
  obtain ⟨-, -, d0, d1, a0, a1, b0, b1, i0', i1⟩ := ho
  have HD : Hid _ := fun w => cnt_D k w
  have HA : Hid _ := fun w => cnt_A k w
  have HB : Hid _ := fun w => cnt_B k w
  have HJ : Hid _ := fun w => cnt_I k w
  rw [hD] at HD
  rw [hA] at HA
  rw [hB] at HB
  rw [hI] at HJ
  clear hD hA hB hI
  have HE : Hid (Pow w) := hE
  clear hE
  obtain ⟨i0, hi, hi2⟩ := Option.map_eq_some_iff.1 info9
  simp only [Prod.mk.injEq] at hi2
  obtain ⟨hz0, hz1, hz2⟩ := hi2
  have HI : Hid (Tryz.prog.info? 9 = some i0 ∧ i0.zero = some (.string ⟨#[]⟩) ∧ i0.size = 1 ∧ i0.bytes = 16) := ⟨hi, hz0, hz1, hz2⟩
  clear hi hz0 hz1 hz2
  go_enter Tryz.func48, Tryz.ntmps48
  go_wp2_with (first | (go_at_call_of 63 (Value.int IntKind.u8 1); refine Calls.mono (HD.out _) ?_; rintro e w1 ⟨rfl, hb⟩; have HS : Hid (Ws w k o w1 _ _) := (Ws.begin w k o k.s).on hb; have hz := HS.out.kAt.lt; have hz1 := HS.out.oAt.lt; obtain ⟨k0, k1, k2⟩ := HS.out.kAt.k3; obtain ⟨o0, o1, o2, o3, o4⟩ := HS.out.oAt.o5; clear hb) | (go_at_call_of 63 (Value.int IntKind.u8 2); refine Calls.mono (HA.out _) ?_; rintro e w1 ⟨rfl, hb⟩; have HS : Hid (Ws w k o w1 _ _) := HS.out.on hb; have hz := HS.out.kAt.lt; have hz1 := HS.out.oAt.lt; obtain ⟨k0, k1, k2⟩ := HS.out.kAt.k3; obtain ⟨o0, o1, o2, o3, o4⟩ := HS.out.oAt.o5; clear hb) | (go_at_call_of 63 (Value.int IntKind.u8 4); refine Calls.mono (HB.out _) ?_; rintro e w1 ⟨rfl, hb⟩; have HS : Hid (Ws w k o w1 _ _) := HS.out.on hb; have hz := HS.out.kAt.lt; have hz1 := HS.out.oAt.lt; obtain ⟨k0, k1, k2⟩ := HS.out.kAt.k3; obtain ⟨o0, o1, o2, o3, o4⟩ := HS.out.oAt.o5; clear hb) | (go_at_call_of 63 (Value.int IntKind.u8 8); refine Calls.mono (HJ.out _) ?_; rintro e w1 ⟨rfl, hb⟩; have HS : Hid (Ws w k o w1 _ _) := HS.out.on hb; have hz := HS.out.kAt.lt; have hz1 := HS.out.oAt.lt; obtain ⟨k0, k1, k2⟩ := HS.out.kAt.k3; obtain ⟨o0, o1, o2, o3, o4⟩ := HS.out.oAt.o5; clear hb) | (go_at_call 64; refine Calls.mono (register_any _ _ (HE.out.bl HS.out.bel) (by assumption) (by assumption)) ?_; rintro e w1 ⟨rfl, hb⟩; have HS : Hid (Ws w k o w1 _ _) := HS.out.on hb; have hz := HS.out.kAt.lt; have hz1 := HS.out.oAt.lt; obtain ⟨k0, k1, k2⟩ := HS.out.kAt.k3; obtain ⟨o0, o1, o2, o3, o4⟩ := HS.out.oAt.o5; clear hb) | (go_at_call 65; refine Calls.mono (digits_any _ _ (HE.out.bl HS.out.bel) (by first | assumption | omega) (by first | assumption | omega)) ?_; rintro e w1 ⟨rfl, hb⟩; have HS : Hid (Ws w k o w1 _ _) := HS.out.on hb; have hz := HS.out.kAt.lt; have hz1 := HS.out.oAt.lt; obtain ⟨k0, k1, k2⟩ := HS.out.kAt.k3; obtain ⟨o0, o1, o2, o3, o4⟩ := HS.out.oAt.o5; clear hb) | (at_builtin; refine wpList_append_lies _ rfl _ _ 57 rfl (w.heap.size + 2) 9 i0 (.string ⟨#[]⟩) 1 16 Tryz.underlying57 HI.out.1 HI.out.2.1 HI.out.2.2.1 HI.out.2.2.2 rfl (by decide) _ _ _ rfl (HS.out.own.alloc _) ⟨w1.heap.size, 0, none⟩ 1 1 [.string _] rfl rfl (World.news_of_block (heap_alloc_new w1 _)) (by simp [Value.oneCell']) (by decide) (by unfold maxLen; simp) (by simp) (by have := HS.out.oAt.lt; simp; omega) (w1.heap.size + 1) (by simp) ?_; intro g cap w1 hown1 hgrow hat hlt3; have HS : Hid (Ws w k o w1 _ _) := HS.out.put hown1 hgrow; have hz := HS.out.kAt.lt; have hz1 := HS.out.oAt.lt; obtain ⟨k0, k1, k2⟩ := HS.out.kAt.k3; obtain ⟨o0, o1, o2, o3, o4⟩ := HS.out.oAt.o5; clear hown1 hgrow hat hlt3))
  go_ret
  exact HS.out.done HX.out
set_option maxHeartbeats 2000000 in
theorem words_11B1 (k : K) (o : O) (w : World) (hE : Pow w) (ho : o.Ok) (hD : k.D = true) (hA : k.A = true) (hB : k.B = true) (hI : k.I = true) : Calls Tryz.prog 48 #[k.val, o.val] w (WordsPost k o w) := by
  have HX : Hid ([k.s] ++ [regS o.d] ++ [regS o.a] ++ [regS o.b] ++ [itS o.im] = wordsS k o) := by show _ = _; simp [wordsS, hD, hA, hB, hI]
  obtain ⟨-, -, d0, d1, a0, a1, b0, b1, i0', i1⟩ := ho
  have HD : Hid _ := fun w => cnt_D k w
  have HA : Hid _ := fun w => cnt_A k w
  have HB : Hid _ := fun w => cnt_B k w
  have HJ : Hid _ := fun w => cnt_I k w
  rw [hD] at HD
  rw [hA] at HA
  rw [hB] at HB
  rw [hI] at HJ
  clear hD hA hB hI
  have HE : Hid (Pow w) := hE
  clear hE
  obtain ⟨i0, hi, hi2⟩ := Option.map_eq_some_iff.1 info9
  simp only [Prod.mk.injEq] at hi2
  obtain ⟨hz0, hz1, hz2⟩ := hi2
  have HI : Hid (Tryz.prog.info? 9 = some i0 ∧ i0.zero = some (.string ⟨#[]⟩) ∧ i0.size = 1 ∧ i0.bytes = 16) := ⟨hi, hz0, hz1, hz2⟩
  clear hi hz0 hz1 hz2
  go_enter Tryz.func48, Tryz.ntmps48
  go_wp2_with (first | (go_at_call_of 63 (Value.int IntKind.u8 1); refine Calls.mono (HD.out _) ?_; rintro e w1 ⟨rfl, hb⟩; have HS : Hid (Ws w k o w1 _ _) := (Ws.begin w k o k.s).on hb; have hz := HS.out.kAt.lt; have hz1 := HS.out.oAt.lt; obtain ⟨k0, k1, k2⟩ := HS.out.kAt.k3; obtain ⟨o0, o1, o2, o3, o4⟩ := HS.out.oAt.o5; clear hb) | (go_at_call_of 63 (Value.int IntKind.u8 2); refine Calls.mono (HA.out _) ?_; rintro e w1 ⟨rfl, hb⟩; have HS : Hid (Ws w k o w1 _ _) := HS.out.on hb; have hz := HS.out.kAt.lt; have hz1 := HS.out.oAt.lt; obtain ⟨k0, k1, k2⟩ := HS.out.kAt.k3; obtain ⟨o0, o1, o2, o3, o4⟩ := HS.out.oAt.o5; clear hb) | (go_at_call_of 63 (Value.int IntKind.u8 4); refine Calls.mono (HB.out _) ?_; rintro e w1 ⟨rfl, hb⟩; have HS : Hid (Ws w k o w1 _ _) := HS.out.on hb; have hz := HS.out.kAt.lt; have hz1 := HS.out.oAt.lt; obtain ⟨k0, k1, k2⟩ := HS.out.kAt.k3; obtain ⟨o0, o1, o2, o3, o4⟩ := HS.out.oAt.o5; clear hb) | (go_at_call_of 63 (Value.int IntKind.u8 8); refine Calls.mono (HJ.out _) ?_; rintro e w1 ⟨rfl, hb⟩; have HS : Hid (Ws w k o w1 _ _) := HS.out.on hb; have hz := HS.out.kAt.lt; have hz1 := HS.out.oAt.lt; obtain ⟨k0, k1, k2⟩ := HS.out.kAt.k3; obtain ⟨o0, o1, o2, o3, o4⟩ := HS.out.oAt.o5; clear hb) | (go_at_call 64; refine Calls.mono (register_any _ _ (HE.out.bl HS.out.bel) (by assumption) (by assumption)) ?_; rintro e w1 ⟨rfl, hb⟩; have HS : Hid (Ws w k o w1 _ _) := HS.out.on hb; have hz := HS.out.kAt.lt; have hz1 := HS.out.oAt.lt; obtain ⟨k0, k1, k2⟩ := HS.out.kAt.k3; obtain ⟨o0, o1, o2, o3, o4⟩ := HS.out.oAt.o5; clear hb) | (go_at_call 65; refine Calls.mono (digits_any _ _ (HE.out.bl HS.out.bel) (by first | assumption | omega) (by first | assumption | omega)) ?_; rintro e w1 ⟨rfl, hb⟩; have HS : Hid (Ws w k o w1 _ _) := HS.out.on hb; have hz := HS.out.kAt.lt; have hz1 := HS.out.oAt.lt; obtain ⟨k0, k1, k2⟩ := HS.out.kAt.k3; obtain ⟨o0, o1, o2, o3, o4⟩ := HS.out.oAt.o5; clear hb) | (at_builtin; refine wpList_append_lies _ rfl _ _ 57 rfl (w.heap.size + 2) 9 i0 (.string ⟨#[]⟩) 1 16 Tryz.underlying57 HI.out.1 HI.out.2.1 HI.out.2.2.1 HI.out.2.2.2 rfl (by decide) _ _ _ rfl (HS.out.own.alloc _) ⟨w1.heap.size, 0, none⟩ 1 1 [.string _] rfl rfl (World.news_of_block (heap_alloc_new w1 _)) (by simp [Value.oneCell']) (by decide) (by unfold maxLen; simp) (by simp) (by have := HS.out.oAt.lt; simp; omega) (w1.heap.size + 1) (by simp) ?_; intro g cap w1 hown1 hgrow hat hlt3; have HS : Hid (Ws w k o w1 _ _) := HS.out.put hown1 hgrow; have hz := HS.out.kAt.lt; have hz1 := HS.out.oAt.lt; obtain ⟨k0, k1, k2⟩ := HS.out.kAt.k3; obtain ⟨o0, o1, o2, o3, o4⟩ := HS.out.oAt.o5; clear hown1 hgrow hat hlt3))
  go_ret
  exact HS.out.done HX.out
set_option maxHeartbeats 2000000 in
theorem words_11N0 (k : K) (o : O) (w : World) (hE : Pow w) (ho : o.Ok) (hD : k.D = true) (hA : k.A = true) (hB : k.B = false) (hN : k.N = true) (hI : k.I = false) : Calls Tryz.prog 48 #[k.val, o.val] w (WordsPost k o w) := by
  have HX : Hid ([k.s] ++ [regS o.d] ++ [regS o.a] ++ [itS o.b] = wordsS k o) := by show _ = _; simp [wordsS, hD, hA, hB, hN, hI]
  obtain ⟨-, -, d0, d1, a0, a1, b0, b1, i0', i1⟩ := ho
  have HD : Hid _ := fun w => cnt_D k w
  have HA : Hid _ := fun w => cnt_A k w
  have HB : Hid _ := fun w => cnt_B k w
  have HN : Hid _ := fun w => cnt_N k w
  have HJ : Hid _ := fun w => cnt_I k w
  rw [hD] at HD
  rw [hA] at HA
  rw [hB] at HB
  rw [hN] at HN
  rw [hI] at HJ
  clear hD hA hB hN hI
  have HE : Hid (Pow w) := hE
  clear hE
  obtain ⟨i0, hi, hi2⟩ := Option.map_eq_some_iff.1 info9
  simp only [Prod.mk.injEq] at hi2
  obtain ⟨hz0, hz1, hz2⟩ := hi2
  have HI : Hid (Tryz.prog.info? 9 = some i0 ∧ i0.zero = some (.string ⟨#[]⟩) ∧ i0.size = 1 ∧ i0.bytes = 16) := ⟨hi, hz0, hz1, hz2⟩
  clear hi hz0 hz1 hz2
  go_enter Tryz.func48, Tryz.ntmps48
  go_wp2_with (first | (go_at_call_of 63 (Value.int IntKind.u8 1); refine Calls.mono (HD.out _) ?_; rintro e w1 ⟨rfl, hb⟩; have HS : Hid (Ws w k o w1 _ _) := (Ws.begin w k o k.s).on hb; have hz := HS.out.kAt.lt; have hz1 := HS.out.oAt.lt; obtain ⟨k0, k1, k2⟩ := HS.out.kAt.k3; obtain ⟨o0, o1, o2, o3, o4⟩ := HS.out.oAt.o5; clear hb) | (go_at_call_of 63 (Value.int IntKind.u8 2); refine Calls.mono (HA.out _) ?_; rintro e w1 ⟨rfl, hb⟩; have HS : Hid (Ws w k o w1 _ _) := HS.out.on hb; have hz := HS.out.kAt.lt; have hz1 := HS.out.oAt.lt; obtain ⟨k0, k1, k2⟩ := HS.out.kAt.k3; obtain ⟨o0, o1, o2, o3, o4⟩ := HS.out.oAt.o5; clear hb) | (go_at_call_of 63 (Value.int IntKind.u8 4); refine Calls.mono (HB.out _) ?_; rintro e w1 ⟨rfl, hb⟩; have HS : Hid (Ws w k o w1 _ _) := HS.out.on hb; have hz := HS.out.kAt.lt; have hz1 := HS.out.oAt.lt; obtain ⟨k0, k1, k2⟩ := HS.out.kAt.k3; obtain ⟨o0, o1, o2, o3, o4⟩ := HS.out.oAt.o5; clear hb) | (go_at_call_of 63 (Value.int IntKind.u8 16); refine Calls.mono (HN.out _) ?_; rintro e w1 ⟨rfl, hb⟩; have HS : Hid (Ws w k o w1 _ _) := HS.out.on hb; have hz := HS.out.kAt.lt; have hz1 := HS.out.oAt.lt; obtain ⟨k0, k1, k2⟩ := HS.out.kAt.k3; obtain ⟨o0, o1, o2, o3, o4⟩ := HS.out.oAt.o5; clear hb) | (go_at_call_of 63 (Value.int IntKind.u8 8); refine Calls.mono (HJ.out _) ?_; rintro e w1 ⟨rfl, hb⟩; have HS : Hid (Ws w k o w1 _ _) := HS.out.on hb; have hz := HS.out.kAt.lt; have hz1 := HS.out.oAt.lt; obtain ⟨k0, k1, k2⟩ := HS.out.kAt.k3; obtain ⟨o0, o1, o2, o3, o4⟩ := HS.out.oAt.o5; clear hb) | (go_at_call 64; refine Calls.mono (register_any _ _ (HE.out.bl HS.out.bel) (by assumption) (by assumption)) ?_; rintro e w1 ⟨rfl, hb⟩; have HS : Hid (Ws w k o w1 _ _) := HS.out.on hb; have hz := HS.out.kAt.lt; have hz1 := HS.out.oAt.lt; obtain ⟨k0, k1, k2⟩ := HS.out.kAt.k3; obtain ⟨o0, o1, o2, o3, o4⟩ := HS.out.oAt.o5; clear hb) | (go_at_call 65; refine Calls.mono (digits_any _ _ (HE.out.bl HS.out.bel) (by first | assumption | omega) (by first | assumption | omega)) ?_; rintro e w1 ⟨rfl, hb⟩; have HS : Hid (Ws w k o w1 _ _) := HS.out.on hb; have hz := HS.out.kAt.lt; have hz1 := HS.out.oAt.lt; obtain ⟨k0, k1, k2⟩ := HS.out.kAt.k3; obtain ⟨o0, o1, o2, o3, o4⟩ := HS.out.oAt.o5; clear hb) | (at_builtin; refine wpList_append_lies _ rfl _ _ 57 rfl (w.heap.size + 2) 9 i0 (.string ⟨#[]⟩) 1 16 Tryz.underlying57 HI.out.1 HI.out.2.1 HI.out.2.2.1 HI.out.2.2.2 rfl (by decide) _ _ _ rfl (HS.out.own.alloc _) ⟨w1.heap.size, 0, none⟩ 1 1 [.string _] rfl rfl (World.news_of_block (heap_alloc_new w1 _)) (by simp [Value.oneCell']) (by decide) (by unfold maxLen; simp) (by simp) (by have := HS.out.oAt.lt; simp; omega) (w1.heap.size + 1) (by simp) ?_; intro g cap w1 hown1 hgrow hat hlt3; have HS : Hid (Ws w k o w1 _ _) := HS.out.put hown1 hgrow; have hz := HS.out.kAt.lt; have hz1 := HS.out.oAt.lt; obtain ⟨k0, k1, k2⟩ := HS.out.kAt.k3; obtain ⟨o0, o1, o2, o3, o4⟩ := HS.out.oAt.o5; clear hown1 hgrow hat hlt3))
  go_ret
  exact HS.out.done HX.out
set_option maxHeartbeats 2000000 in
theorem words_11N1 (k : K) (o : O) (w : World) (hE : Pow w) (ho : o.Ok) (hD : k.D = true) (hA : k.A = true) (hB : k.B = false) (hN : k.N = true) (hI : k.I = true) : Calls Tryz.prog 48 #[k.val, o.val] w (WordsPost k o w) := by
  have HX : Hid ([k.s] ++ [regS o.d] ++ [regS o.a] ++ [itS o.b] ++ [itS o.im] = wordsS k o) := by show _ = _; simp [wordsS, hD, hA, hB, hN, hI]
  obtain ⟨-, -, d0, d1, a0, a1, b0, b1, i0', i1⟩ := ho
  have HD : Hid _ := fun w => cnt_D k w
  have HA : Hid _ := fun w => cnt_A k w
  have HB : Hid _ := fun w => cnt_B k w
  have HN : Hid _ := fun w => cnt_N k w
  have HJ : Hid _ := fun w => cnt_I k w
  rw [hD] at HD
  rw [hA] at HA
  rw [hB] at HB
  rw [hN] at HN
  rw [hI] at HJ
  clear hD hA hB hN hI
  have HE : Hid (Pow w) := hE
  clear hE
  obtain ⟨i0, hi, hi2⟩ := Option.map_eq_some_iff.1 info9
  simp only [Prod.mk.injEq] at hi2
  obtain ⟨hz0, hz1, hz2⟩ := hi2
  have HI : Hid (Tryz.prog.info? 9 = some i0 ∧ i0.zero = some (.string ⟨#[]⟩) ∧ i0.size = 1 ∧ i0.bytes = 16) := ⟨hi, hz0, hz1, hz2⟩
  clear hi hz0 hz1 hz2
  go_enter Tryz.func48, Tryz.ntmps48
  go_wp2_with (first | (go_at_call_of 63 (Value.int IntKind.u8 1); refine Calls.mono (HD.out _) ?_; rintro e w1 ⟨rfl, hb⟩; have HS : Hid (Ws w k o w1 _ _) := (Ws.begin w k o k.s).on hb; have hz := HS.out.kAt.lt; have hz1 := HS.out.oAt.lt; obtain ⟨k0, k1, k2⟩ := HS.out.kAt.k3; obtain ⟨o0, o1, o2, o3, o4⟩ := HS.out.oAt.o5; clear hb) | (go_at_call_of 63 (Value.int IntKind.u8 2); refine Calls.mono (HA.out _) ?_; rintro e w1 ⟨rfl, hb⟩; have HS : Hid (Ws w k o w1 _ _) := HS.out.on hb; have hz := HS.out.kAt.lt; have hz1 := HS.out.oAt.lt; obtain ⟨k0, k1, k2⟩ := HS.out.kAt.k3; obtain ⟨o0, o1, o2, o3, o4⟩ := HS.out.oAt.o5; clear hb) | (go_at_call_of 63 (Value.int IntKind.u8 4); refine Calls.mono (HB.out _) ?_; rintro e w1 ⟨rfl, hb⟩; have HS : Hid (Ws w k o w1 _ _) := HS.out.on hb; have hz := HS.out.kAt.lt; have hz1 := HS.out.oAt.lt; obtain ⟨k0, k1, k2⟩ := HS.out.kAt.k3; obtain ⟨o0, o1, o2, o3, o4⟩ := HS.out.oAt.o5; clear hb) | (go_at_call_of 63 (Value.int IntKind.u8 16); refine Calls.mono (HN.out _) ?_; rintro e w1 ⟨rfl, hb⟩; have HS : Hid (Ws w k o w1 _ _) := HS.out.on hb; have hz := HS.out.kAt.lt; have hz1 := HS.out.oAt.lt; obtain ⟨k0, k1, k2⟩ := HS.out.kAt.k3; obtain ⟨o0, o1, o2, o3, o4⟩ := HS.out.oAt.o5; clear hb) | (go_at_call_of 63 (Value.int IntKind.u8 8); refine Calls.mono (HJ.out _) ?_; rintro e w1 ⟨rfl, hb⟩; have HS : Hid (Ws w k o w1 _ _) := HS.out.on hb; have hz := HS.out.kAt.lt; have hz1 := HS.out.oAt.lt; obtain ⟨k0, k1, k2⟩ := HS.out.kAt.k3; obtain ⟨o0, o1, o2, o3, o4⟩ := HS.out.oAt.o5; clear hb) | (go_at_call 64; refine Calls.mono (register_any _ _ (HE.out.bl HS.out.bel) (by assumption) (by assumption)) ?_; rintro e w1 ⟨rfl, hb⟩; have HS : Hid (Ws w k o w1 _ _) := HS.out.on hb; have hz := HS.out.kAt.lt; have hz1 := HS.out.oAt.lt; obtain ⟨k0, k1, k2⟩ := HS.out.kAt.k3; obtain ⟨o0, o1, o2, o3, o4⟩ := HS.out.oAt.o5; clear hb) | (go_at_call 65; refine Calls.mono (digits_any _ _ (HE.out.bl HS.out.bel) (by first | assumption | omega) (by first | assumption | omega)) ?_; rintro e w1 ⟨rfl, hb⟩; have HS : Hid (Ws w k o w1 _ _) := HS.out.on hb; have hz := HS.out.kAt.lt; have hz1 := HS.out.oAt.lt; obtain ⟨k0, k1, k2⟩ := HS.out.kAt.k3; obtain ⟨o0, o1, o2, o3, o4⟩ := HS.out.oAt.o5; clear hb) | (at_builtin; refine wpList_append_lies _ rfl _ _ 57 rfl (w.heap.size + 2) 9 i0 (.string ⟨#[]⟩) 1 16 Tryz.underlying57 HI.out.1 HI.out.2.1 HI.out.2.2.1 HI.out.2.2.2 rfl (by decide) _ _ _ rfl (HS.out.own.alloc _) ⟨w1.heap.size, 0, none⟩ 1 1 [.string _] rfl rfl (World.news_of_block (heap_alloc_new w1 _)) (by simp [Value.oneCell']) (by decide) (by unfold maxLen; simp) (by simp) (by have := HS.out.oAt.lt; simp; omega) (w1.heap.size + 1) (by simp) ?_; intro g cap w1 hown1 hgrow hat hlt3; have HS : Hid (Ws w k o w1 _ _) := HS.out.put hown1 hgrow; have hz := HS.out.kAt.lt; have hz1 := HS.out.oAt.lt; obtain ⟨k0, k1, k2⟩ := HS.out.kAt.k3; obtain ⟨o0, o1, o2, o3, o4⟩ := HS.out.oAt.o5; clear hown1 hgrow hat hlt3))
  go_ret
  exact HS.out.done HX.out
set_option maxHeartbeats 2000000 in
theorem words_1100 (k : K) (o : O) (w : World) (hE : Pow w) (ho : o.Ok) (hD : k.D = true) (hA : k.A = true) (hB : k.B = false) (hN : k.N = false) (hI : k.I = false) : Calls Tryz.prog 48 #[k.val, o.val] w (WordsPost k o w) := by
  have HX : Hid ([k.s] ++ [regS o.d] ++ [regS o.a] = wordsS k o) := by show _ = _; simp [wordsS, hD, hA, hB, hN, hI]
  obtain ⟨-, -, d0, d1, a0, a1, b0, b1, i0', i1⟩ := ho
  have HD : Hid _ := fun w => cnt_D k w
  have HA : Hid _ := fun w => cnt_A k w
  have HB : Hid _ := fun w => cnt_B k w
  have HN : Hid _ := fun w => cnt_N k w
  have HJ : Hid _ := fun w => cnt_I k w
  rw [hD] at HD
  rw [hA] at HA
  rw [hB] at HB
  rw [hN] at HN
  rw [hI] at HJ
  clear hD hA hB hN hI
  have HE : Hid (Pow w) := hE
  clear hE
  obtain ⟨i0, hi, hi2⟩ := Option.map_eq_some_iff.1 info9
  simp only [Prod.mk.injEq] at hi2
  obtain ⟨hz0, hz1, hz2⟩ := hi2
  have HI : Hid (Tryz.prog.info? 9 = some i0 ∧ i0.zero = some (.string ⟨#[]⟩) ∧ i0.size = 1 ∧ i0.bytes = 16) := ⟨hi, hz0, hz1, hz2⟩
  clear hi hz0 hz1 hz2
  go_enter Tryz.func48, Tryz.ntmps48
  go_wp2_with (first | (go_at_call_of 63 (Value.int IntKind.u8 1); refine Calls.mono (HD.out _) ?_; rintro e w1 ⟨rfl, hb⟩; have HS : Hid (Ws w k o w1 _ _) := (Ws.begin w k o k.s).on hb; have hz := HS.out.kAt.lt; have hz1 := HS.out.oAt.lt; obtain ⟨k0, k1, k2⟩ := HS.out.kAt.k3; obtain ⟨o0, o1, o2, o3, o4⟩ := HS.out.oAt.o5; clear hb) | (go_at_call_of 63 (Value.int IntKind.u8 2); refine Calls.mono (HA.out _) ?_; rintro e w1 ⟨rfl, hb⟩; have HS : Hid (Ws w k o w1 _ _) := HS.out.on hb; have hz := HS.out.kAt.lt; have hz1 := HS.out.oAt.lt; obtain ⟨k0, k1, k2⟩ := HS.out.kAt.k3; obtain ⟨o0, o1, o2, o3, o4⟩ := HS.out.oAt.o5; clear hb) | (go_at_call_of 63 (Value.int IntKind.u8 4); refine Calls.mono (HB.out _) ?_; rintro e w1 ⟨rfl, hb⟩; have HS : Hid (Ws w k o w1 _ _) := HS.out.on hb; have hz := HS.out.kAt.lt; have hz1 := HS.out.oAt.lt; obtain ⟨k0, k1, k2⟩ := HS.out.kAt.k3; obtain ⟨o0, o1, o2, o3, o4⟩ := HS.out.oAt.o5; clear hb) | (go_at_call_of 63 (Value.int IntKind.u8 16); refine Calls.mono (HN.out _) ?_; rintro e w1 ⟨rfl, hb⟩; have HS : Hid (Ws w k o w1 _ _) := HS.out.on hb; have hz := HS.out.kAt.lt; have hz1 := HS.out.oAt.lt; obtain ⟨k0, k1, k2⟩ := HS.out.kAt.k3; obtain ⟨o0, o1, o2, o3, o4⟩ := HS.out.oAt.o5; clear hb) | (go_at_call_of 63 (Value.int IntKind.u8 8); refine Calls.mono (HJ.out _) ?_; rintro e w1 ⟨rfl, hb⟩; have HS : Hid (Ws w k o w1 _ _) := HS.out.on hb; have hz := HS.out.kAt.lt; have hz1 := HS.out.oAt.lt; obtain ⟨k0, k1, k2⟩ := HS.out.kAt.k3; obtain ⟨o0, o1, o2, o3, o4⟩ := HS.out.oAt.o5; clear hb) | (go_at_call 64; refine Calls.mono (register_any _ _ (HE.out.bl HS.out.bel) (by assumption) (by assumption)) ?_; rintro e w1 ⟨rfl, hb⟩; have HS : Hid (Ws w k o w1 _ _) := HS.out.on hb; have hz := HS.out.kAt.lt; have hz1 := HS.out.oAt.lt; obtain ⟨k0, k1, k2⟩ := HS.out.kAt.k3; obtain ⟨o0, o1, o2, o3, o4⟩ := HS.out.oAt.o5; clear hb) | (go_at_call 65; refine Calls.mono (digits_any _ _ (HE.out.bl HS.out.bel) (by first | assumption | omega) (by first | assumption | omega)) ?_; rintro e w1 ⟨rfl, hb⟩; have HS : Hid (Ws w k o w1 _ _) := HS.out.on hb; have hz := HS.out.kAt.lt; have hz1 := HS.out.oAt.lt; obtain ⟨k0, k1, k2⟩ := HS.out.kAt.k3; obtain ⟨o0, o1, o2, o3, o4⟩ := HS.out.oAt.o5; clear hb) | (at_builtin; refine wpList_append_lies _ rfl _ _ 57 rfl (w.heap.size + 2) 9 i0 (.string ⟨#[]⟩) 1 16 Tryz.underlying57 HI.out.1 HI.out.2.1 HI.out.2.2.1 HI.out.2.2.2 rfl (by decide) _ _ _ rfl (HS.out.own.alloc _) ⟨w1.heap.size, 0, none⟩ 1 1 [.string _] rfl rfl (World.news_of_block (heap_alloc_new w1 _)) (by simp [Value.oneCell']) (by decide) (by unfold maxLen; simp) (by simp) (by have := HS.out.oAt.lt; simp; omega) (w1.heap.size + 1) (by simp) ?_; intro g cap w1 hown1 hgrow hat hlt3; have HS : Hid (Ws w k o w1 _ _) := HS.out.put hown1 hgrow; have hz := HS.out.kAt.lt; have hz1 := HS.out.oAt.lt; obtain ⟨k0, k1, k2⟩ := HS.out.kAt.k3; obtain ⟨o0, o1, o2, o3, o4⟩ := HS.out.oAt.o5; clear hown1 hgrow hat hlt3))
  go_ret
  exact HS.out.done HX.out
set_option maxHeartbeats 2000000 in
theorem words_1101 (k : K) (o : O) (w : World) (hE : Pow w) (ho : o.Ok) (hD : k.D = true) (hA : k.A = true) (hB : k.B = false) (hN : k.N = false) (hI : k.I = true) : Calls Tryz.prog 48 #[k.val, o.val] w (WordsPost k o w) := by
  have HX : Hid ([k.s] ++ [regS o.d] ++ [regS o.a] ++ [itS o.im] = wordsS k o) := by show _ = _; simp [wordsS, hD, hA, hB, hN, hI]
  obtain ⟨-, -, d0, d1, a0, a1, b0, b1, i0', i1⟩ := ho
  have HD : Hid _ := fun w => cnt_D k w
  have HA : Hid _ := fun w => cnt_A k w
  have HB : Hid _ := fun w => cnt_B k w
  have HN : Hid _ := fun w => cnt_N k w
  have HJ : Hid _ := fun w => cnt_I k w
  rw [hD] at HD
  rw [hA] at HA
  rw [hB] at HB
  rw [hN] at HN
  rw [hI] at HJ
  clear hD hA hB hN hI
  have HE : Hid (Pow w) := hE
  clear hE
  obtain ⟨i0, hi, hi2⟩ := Option.map_eq_some_iff.1 info9
  simp only [Prod.mk.injEq] at hi2
  obtain ⟨hz0, hz1, hz2⟩ := hi2
  have HI : Hid (Tryz.prog.info? 9 = some i0 ∧ i0.zero = some (.string ⟨#[]⟩) ∧ i0.size = 1 ∧ i0.bytes = 16) := ⟨hi, hz0, hz1, hz2⟩
  clear hi hz0 hz1 hz2
  go_enter Tryz.func48, Tryz.ntmps48
  go_wp2_with (first | (go_at_call_of 63 (Value.int IntKind.u8 1); refine Calls.mono (HD.out _) ?_; rintro e w1 ⟨rfl, hb⟩; have HS : Hid (Ws w k o w1 _ _) := (Ws.begin w k o k.s).on hb; have hz := HS.out.kAt.lt; have hz1 := HS.out.oAt.lt; obtain ⟨k0, k1, k2⟩ := HS.out.kAt.k3; obtain ⟨o0, o1, o2, o3, o4⟩ := HS.out.oAt.o5; clear hb) | (go_at_call_of 63 (Value.int IntKind.u8 2); refine Calls.mono (HA.out _) ?_; rintro e w1 ⟨rfl, hb⟩; have HS : Hid (Ws w k o w1 _ _) := HS.out.on hb; have hz := HS.out.kAt.lt; have hz1 := HS.out.oAt.lt; obtain ⟨k0, k1, k2⟩ := HS.out.kAt.k3; obtain ⟨o0, o1, o2, o3, o4⟩ := HS.out.oAt.o5; clear hb) | (go_at_call_of 63 (Value.int IntKind.u8 4); refine Calls.mono (HB.out _) ?_; rintro e w1 ⟨rfl, hb⟩; have HS : Hid (Ws w k o w1 _ _) := HS.out.on hb; have hz := HS.out.kAt.lt; have hz1 := HS.out.oAt.lt; obtain ⟨k0, k1, k2⟩ := HS.out.kAt.k3; obtain ⟨o0, o1, o2, o3, o4⟩ := HS.out.oAt.o5; clear hb) | (go_at_call_of 63 (Value.int IntKind.u8 16); refine Calls.mono (HN.out _) ?_; rintro e w1 ⟨rfl, hb⟩; have HS : Hid (Ws w k o w1 _ _) := HS.out.on hb; have hz := HS.out.kAt.lt; have hz1 := HS.out.oAt.lt; obtain ⟨k0, k1, k2⟩ := HS.out.kAt.k3; obtain ⟨o0, o1, o2, o3, o4⟩ := HS.out.oAt.o5; clear hb) | (go_at_call_of 63 (Value.int IntKind.u8 8); refine Calls.mono (HJ.out _) ?_; rintro e w1 ⟨rfl, hb⟩; have HS : Hid (Ws w k o w1 _ _) := HS.out.on hb; have hz := HS.out.kAt.lt; have hz1 := HS.out.oAt.lt; obtain ⟨k0, k1, k2⟩ := HS.out.kAt.k3; obtain ⟨o0, o1, o2, o3, o4⟩ := HS.out.oAt.o5; clear hb) | (go_at_call 64; refine Calls.mono (register_any _ _ (HE.out.bl HS.out.bel) (by assumption) (by assumption)) ?_; rintro e w1 ⟨rfl, hb⟩; have HS : Hid (Ws w k o w1 _ _) := HS.out.on hb; have hz := HS.out.kAt.lt; have hz1 := HS.out.oAt.lt; obtain ⟨k0, k1, k2⟩ := HS.out.kAt.k3; obtain ⟨o0, o1, o2, o3, o4⟩ := HS.out.oAt.o5; clear hb) | (go_at_call 65; refine Calls.mono (digits_any _ _ (HE.out.bl HS.out.bel) (by first | assumption | omega) (by first | assumption | omega)) ?_; rintro e w1 ⟨rfl, hb⟩; have HS : Hid (Ws w k o w1 _ _) := HS.out.on hb; have hz := HS.out.kAt.lt; have hz1 := HS.out.oAt.lt; obtain ⟨k0, k1, k2⟩ := HS.out.kAt.k3; obtain ⟨o0, o1, o2, o3, o4⟩ := HS.out.oAt.o5; clear hb) | (at_builtin; refine wpList_append_lies _ rfl _ _ 57 rfl (w.heap.size + 2) 9 i0 (.string ⟨#[]⟩) 1 16 Tryz.underlying57 HI.out.1 HI.out.2.1 HI.out.2.2.1 HI.out.2.2.2 rfl (by decide) _ _ _ rfl (HS.out.own.alloc _) ⟨w1.heap.size, 0, none⟩ 1 1 [.string _] rfl rfl (World.news_of_block (heap_alloc_new w1 _)) (by simp [Value.oneCell']) (by decide) (by unfold maxLen; simp) (by simp) (by have := HS.out.oAt.lt; simp; omega) (w1.heap.size + 1) (by simp) ?_; intro g cap w1 hown1 hgrow hat hlt3; have HS : Hid (Ws w k o w1 _ _) := HS.out.put hown1 hgrow; have hz := HS.out.kAt.lt; have hz1 := HS.out.oAt.lt; obtain ⟨k0, k1, k2⟩ := HS.out.kAt.k3; obtain ⟨o0, o1, o2, o3, o4⟩ := HS.out.oAt.o5; clear hown1 hgrow hat hlt3))
  go_ret
  exact HS.out.done HX.out
theorem words_any (k : K) (o : O) (w : World) (hE : Pow w) (ho : o.Ok) : Calls Tryz.prog 48 #[k.val, o.val] w (WordsPost k o w) := by
  cases hD : k.D <;> cases hA : k.A <;> cases hB : k.B <;> cases hI : k.I <;> (try cases hN : k.N)
  · exact words_0000 k o w hE ho hD hA hB hN hI
  · exact words_00N0 k o w hE ho hD hA hB hN hI
  · exact words_0001 k o w hE ho hD hA hB hN hI
  · exact words_00N1 k o w hE ho hD hA hB hN hI
  · exact words_00B0 k o w hE ho hD hA hB hI
  · exact words_00B0 k o w hE ho hD hA hB hI
  · exact words_00B1 k o w hE ho hD hA hB hI
  · exact words_00B1 k o w hE ho hD hA hB hI
  · exact words_0100 k o w hE ho hD hA hB hN hI
  · exact words_01N0 k o w hE ho hD hA hB hN hI
  · exact words_0101 k o w hE ho hD hA hB hN hI
  · exact words_01N1 k o w hE ho hD hA hB hN hI
  · exact words_01B0 k o w hE ho hD hA hB hI
  · exact words_01B0 k o w hE ho hD hA hB hI
  · exact words_01B1 k o w hE ho hD hA hB hI
  · exact words_01B1 k o w hE ho hD hA hB hI
  · exact words_1000 k o w hE ho hD hA hB hN hI
  · exact words_10N0 k o w hE ho hD hA hB hN hI
  · exact words_1001 k o w hE ho hD hA hB hN hI
  · exact words_10N1 k o w hE ho hD hA hB hN hI
  · exact words_10B0 k o w hE ho hD hA hB hI
  · exact words_10B0 k o w hE ho hD hA hB hI
  · exact words_10B1 k o w hE ho hD hA hB hI
  · exact words_10B1 k o w hE ho hD hA hB hI
  · exact words_1100 k o w hE ho hD hA hB hN hI
  · exact words_11N0 k o w hE ho hD hA hB hN hI
  · exact words_1101 k o w hE ho hD hA hB hN hI
  · exact words_11N1 k o w hE ho hD hA hB hN hI
  · exact words_11B0 k o w hE ho hD hA hB hI
  · exact words_11B0 k o w hE ho hD hA hB hI
  · exact words_11B1 k o w hE ho hD hA hB hI
  · exact words_11B1 k o w hE ho hD hA hB hI
end Go.Proofs.YthjpddjfckdefaaGreatDoor.Op
