/- The law OpsTell: of any operation it is told as the document tells it whether it is one, what it reads and writes, its class, its text; read off the program by the walk. Conditions: the table of powers lies in memory; the fields are numbers of their own width. -/
import Derived.Test.YtkcmegfiabcdjaaDoorLf
import Derived.Test.YtkcmegfiabcdjaaDoorRw
import Derived.Test.YtkcmegfiabcdjaaDoorRt
namespace Go.Proofs.YtkcmegfiabcdjaaDoor.Op
open Go.ChangeShapes Go.WideShapes Go.ChangeAt Go.RowKit
set_option maxRecDepth 20000

theorem tell_text (o : O) (ho : o.Ok) : ∃ (S : ByteArray) (E : Int), (∀ w, Env w → Calls Tryd.prog 7 #[o.val] w fun e w' => e = .returned (.tuple #[.string S, .int .i64 E]) ∧ Below w.heap.size w w') ∧ (∀ w, Calls Tryd.prog 8 #[o.val] w fun e w' => e = .returned (.tuple #[.string S, .int .i64 E]) ∧ Below w.heap.size w w') := by
  cases hO : okO o
  · exact ⟨_, _, fun w _ => text_no o w ho hO, fun w => refText_no o w ho hO⟩
  · cases hk : kOf o.op with
    | none => rw [okO_none hk] at hO; cases hO
    | some k =>
      have hf : okF k o = true := by rw [← okO_some hk]; exact hO
      exact ⟨_, _, fun w hE => text_yes o k w hE ho hk hf, fun w => refText_yes o k w ho hk hf⟩
theorem tell_reads (o : O) (ho : o.Ok) : ∃ (n : Nat) (f : Nat → Int), n ≤ 2 ∧ (∀ w, Calls Tryd.prog 16 #[o.val] w fun e w' => ∃ v, e = .returned v ∧ SlAt w' v n f ∧ Below w.heap.size w w') ∧ (∀ w, Calls Tryd.prog 17 #[o.val] w fun e w' => ∃ v, e = .returned v ∧ SlAt w' v n f ∧ Below w.heap.size w w') := by
  cases hO : okO o
  · exact ⟨0, fun _ => 0, by omega, fun w => (reads_no o w ho hO).mono fun e w' h => ⟨_, h.1, .inl ⟨rfl, _, _, rfl⟩, h.2⟩, fun w => (refReads_no o w ho hO).mono fun e w' h => ⟨_, h.1, .inl ⟨rfl, _, _, rfl⟩, h.2⟩⟩
  · cases hk : kOf o.op with
    | none => rw [okO_none hk] at hO; cases hO
    | some k =>
      have hf : okF k o = true := by rw [← okO_some hk]; exact hO
      have hn : rcN k o ≤ 2 := by unfold rcN; split <;> (try split) <;> omega
      refine ⟨rcN k o, rf o, hn, fun w => (reads_yes o k w hk hf).mono fun e w' h => ?_, fun w => refReads_yes o k w ho hk hf (b_a hk)⟩
      obtain ⟨b, he, hA, hb⟩ := h
      refine ⟨_, he, .inr ⟨b, _, rfl, hA.lt, fun j hj => ?_⟩, hb⟩
      have hj2 : j < 2 := by omega
      match j, hj2 with
      | 0, _ => exact hA.c 0 _ rfl
      | 1, _ => exact hA.c 1 _ rfl
set_option maxHeartbeats 4000000 in
theorem law_tell (o : O) (w : World) (hE : Env w) (ho : o.Ok) : Calls Tryd.prog 3 #[o.val] w fun e w' => e = .returned (.bool true) ∧ Below w.heap.size w w' := by
  obtain ⟨S, E, ht1, ht2⟩ := tell_text o ho
  obtain ⟨n, f, hn, hr1, hr2⟩ := tell_reads o ho
  have HT1 : Hid _ := ht1
  have HT2 : Hid _ := ht2
  have HR1 : Hid _ := hr1
  have HR2 : Hid _ := hr2
  have HN : Hid (n ≤ 2) := hn
  have HW1 : Hid _ := fun w => writes_any o w ho
  have HW2 : Hid _ := fun w => refWrites_any o w ho
  have HC1 : Hid _ := fun w => check_any o w ho
  have HC2 : Hid _ := fun w => refCheck_any o w ho
  have HK1 : Hid _ := fun w => class_any o.op w ho.op0 ho.op1
  have HK2 : Hid _ := fun w => refClass_any o.op w
  have HE : Hid (Env w) := hE
  clear hE ho ht1 ht2 hr1 hr2 hn
  generalize wrD o = x1 at *
  generalize wrB o = x2 at *
  generalize ckE o = x3 at *
  generalize clV o.op = x4 at *
  generalize clB o.op = x5 at *
  go_enter Tryd.func3, Tryd.ntmps3
  go_wp2_with (first | (go_at_call 7; refine Calls.mono (HT1.out _ (HE.out.al _)) ?_; rintro e w1 ⟨rfl, hb⟩; have HS : Hid (Lw w o w1) := (Lw.begin w o).on hb; obtain ⟨o0, o1, o2, o3, o4⟩ := HS.out.1.o5; clear hb) | (go_at_call 8; refine Calls.mono (HT2.out _) ?_; rintro e w1 ⟨rfl, hb⟩; have HS : Hid (Lw w o w1) := HS.out.on hb; obtain ⟨o0, o1, o2, o3, o4⟩ := HS.out.1.o5; clear hb) | (go_at_call 9; refine Calls.mono (HW1.out _) ?_; rintro e w1 ⟨rfl, hb⟩; have HS : Hid (Lw w o w1) := HS.out.on hb; obtain ⟨o0, o1, o2, o3, o4⟩ := HS.out.1.o5; clear hb) | (go_at_call 10; refine Calls.mono (HW2.out _) ?_; rintro e w1 ⟨rfl, hb⟩; have HS : Hid (Lw w o w1) := HS.out.on hb; obtain ⟨o0, o1, o2, o3, o4⟩ := HS.out.1.o5; clear hb) | (go_at_call 11; refine Calls.mono (HK1.out _) ?_; rintro e w1 ⟨rfl, hb⟩; have HS : Hid (Lw w o w1) := HS.out.on hb; obtain ⟨o0, o1, o2, o3, o4⟩ := HS.out.1.o5; clear hb) | (go_at_call 12; refine Calls.mono (HK2.out _) ?_; rintro e w1 ⟨rfl, hb⟩; have HS : Hid (Lw w o w1) := HS.out.on hb; obtain ⟨o0, o1, o2, o3, o4⟩ := HS.out.1.o5; clear hb))
  have hlt := HS.out.1.lt
  have HS : Hid (Lw w o w1.drew) := ⟨⟨HS.out.1.c, HS.out.1.f, HS.out.1.lt⟩, HS.out.2.drew⟩
  go_region_held3 (fun w' => w'.cell? ⟨w.heap.size, 0, none⟩ = some (.int .i8 o.op) ∧ w'.cell? ⟨w.heap.size, 1, none⟩ = some (.int .u8 o.d) ∧ w'.cell? ⟨w.heap.size, 2, none⟩ = some (.int .u8 o.a) ∧ w'.cell? ⟨w.heap.size, 3, none⟩ = some (.int .u8 o.b) ∧ w'.cell? ⟨w.heap.size, 4, none⟩ = some (.int .i64 o.im))
    (first | exact HS.out.1.o5 | go_keep)
    (first
     | (go_at_call 13; refine Calls.mono (HC1.out _) ?_; rintro e w1 ⟨rfl, hb⟩; have HS : Hid (Lw w o w1) := HS.out.on hb; clear hb)
     | (go_at_call 14; refine Calls.mono (HC2.out _) ?_; rintro e w1 ⟨rfl, hb⟩; have HS : Hid (Lw w o w1) := HS.out.on hb; clear hb)
     | (go_at_call 16; refine Calls.mono (HR1.out _) ?_; rintro e w1 ⟨v1, rfl, hv1, hb⟩; have HV1 : Hid (SlAt w1 v1 n f) := hv1; have HS : Hid (Lw w o w1) := HS.out.on hb; clear hb hv1)
     | (go_at_call 17; refine Calls.mono (HR2.out _) ?_; rintro e w1 ⟨v2, rfl, hv2, hb⟩; have HV2 : Hid (SlAt w1 v2 n f) := hv2; have HV1 : Hid (SlAt w1 v1 n f) := HV1.out.on hb; have HS : Hid (Lw w o w1) := HS.out.on hb; clear hb hv2)
     | (go_at_call 15; refine Calls.mono (regs_any _ HV1.out HV2.out HN.out) ?_; rintro e w1 ⟨rfl, hb⟩; have HS : Hid (Lw w o w1) := HS.out.on hb; clear hb)
     | (go_at_call 18; refine Calls.mono (wakes_any _ (HE.out.bl HS.out.2)) ?_; rintro e w1 ⟨rfl, hb⟩; have HS : Hid (Lw w o w1) := HS.out.on hb; clear hb))
  go_wp2
  go_ret
  exact ⟨rfl, HS.out.2⟩
end Go.Proofs.YtkcmegfiabcdjaaDoor.Op
