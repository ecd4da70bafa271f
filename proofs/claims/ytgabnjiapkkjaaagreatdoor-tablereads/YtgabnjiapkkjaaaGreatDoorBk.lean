/- The statement TableBack: a table that is written and read again is the same, a text that is read and written is read as the same table. Conditions: the variables lie in memory as the program lays them. -/
import Derived.Test.YtgabnjiapkkjaaaGreatDoorWk
import Derived.Test.YtgabnjiapkkjaaaGreatDoorLt
import Derived.Test.YtgabnjiapkkjaaaGreatDoorMc
import Derived.ChangeKeysEq
namespace Go.Proofs.YtgabnjiapkkjaaaGreatDoor.Tb
open Go.ChangeShapes Go.WideShapes Go.ChangeAt Go.RowKit

theorem eq4 (d : Nat) (x y z v : Int) (w : World) : (Op.equalIn (d + 1 + 1) 22 (.agg #[.int .i64 x, .int .i64 y, .int .i64 z, .int .i64 v]) (.agg #[.int .i64 x, .int .i64 y, .int .i64 z, .int .i64 v])).run Tryz.prog w = .ok true w := by
  obtain ⟨i, hi⟩ : ∃ i, Tryz.prog.info? 3 = some i := Option.isSome_iff_exists.1 (by kernel_rfl)
  rw [run_equalIn_array w (d + 1) _ _ (n := 4) (e := 3) (by kernel_rfl) hi]
  have hu : Tryz.prog.underlying 3 = some (.int .i64) := by kernel_rfl
  have hc : Tryz.prog.cellsOf 3 = 1 := by kernel_rfl
  have hp0 : ∀ w, (part 3 #[Value.int .i64 x, .int .i64 y, .int .i64 z, .int .i64 v] 0).run Tryz.prog w = .ok (.int .i64 x) w := fun w => by kernel_rfl
  have hp1 : ∀ w, (part 3 #[Value.int .i64 x, .int .i64 y, .int .i64 z, .int .i64 v] 1).run Tryz.prog w = .ok (.int .i64 y) w := fun w => by kernel_rfl
  have hp2 : ∀ w, (part 3 #[Value.int .i64 x, .int .i64 y, .int .i64 z, .int .i64 v] 2).run Tryz.prog w = .ok (.int .i64 z) w := fun w => by kernel_rfl
  have hp3 : ∀ w, (part 3 #[Value.int .i64 x, .int .i64 y, .int .i64 z, .int .i64 v] 3).run Tryz.prog w = .ok (.int .i64 v) w := fun w => by kernel_rfl
  have hr : List.range 4 = [0, 1, 2, 3] := by decide
  rw [hr, hc]
  simp [Op.eqItems, Sem.run_bind, hp0, hp1, hp2, hp3, run_equalIn_int w d 3 .i64 .i64 _ _ hu]
theorem eq4same (x y z v : Int) (w : World) : (Op.equalIn 9999 22 (.agg #[.int .i64 x, .int .i64 y, .int .i64 z, .int .i64 v]) (.agg #[.int .i64 x, .int .i64 y, .int .i64 z, .int .i64 v])).run Tryz.prog w = .ok true w := eq4 9997 x y z v w
theorem eq4zero (w : World) : (Op.equalIn 9999 22 (.agg #[.int .i64 0, .int .i64 0, .int .i64 0, .int .i64 0]) (.agg #[.int .i64 0, .int .i64 0, .int .i64 0, .int .i64 0])).run Tryz.prog w = .ok true w := eq4 9997 0 0 0 0 w

theorem Env.al {w : World} (h : Env w) (o : Obj) : Env (w.alloc o) := h.below ((Below.refl _ _).alloc (Nat.le_refl _) _) h.G.big
theorem Env.bl {w w' : World} (h : Env w) (hb : Below w.heap.size w w') : Env w' := h.below hb h.G.big
theorem btr {w w1 w2 : World} (h1 : Below w.heap.size w w1) (h2 : Below w1.heap.size w1 w2) : Below w.heap.size w w2 := h1.trans (h2.mono h1.size)
theorem bal {w w1 : World} (h1 : Below w.heap.size w w1) (o : Obj) : Below w.heap.size w (w1.alloc o) := h1.alloc h1.size _

theorem parse_back (t : Tab) (h : t.ok = true) (w : World) (hE : Env w) : Calls Tryz.prog 14 #[.string ⟨(textL t).toArray⟩] w fun e w' => e = .returned (.tuple #[t.val, .nilIface]) ∧ Below w.heap.size w w' := by
  have hl : (textL t).length ≤ 65536 := textL_len t
  refine (parse_any ⟨(textL t).toArray⟩ w (by show (textL t).toArray.size ≤ _; unfold maxLen; simp; omega) hE).mono ?_
  rintro e w' (⟨_, h2, h3⟩ | ⟨f, q, h2, _⟩)
  · rw [show (⟨(textL t).toArray⟩ : ByteArray).data.toList = textL t from by simp, (text_back t h).2] at h2; exact ⟨h2, h3⟩
  · rw [show (⟨(textL t).toArray⟩ : ByteArray).data.toList = textL t from by simp, (text_back t h).1] at h2; cases h2
theorem parse_good (s : ByteArray) (hs : s.size ≤ maxLen) (h : (parseF s.data.toList).1 = none) (w : World) (hE : Env w) : Calls Tryz.prog 14 #[.string s] w fun e w' => e = .returned (.tuple #[(parseF s.data.toList).2.val, .nilIface]) ∧ Below w.heap.size w w' := by
  refine (parse_any s w hs hE).mono ?_
  rintro e w' (⟨_, h2, h3⟩ | ⟨f, q, h2, _⟩)
  · exact ⟨h2, h3⟩
  · rw [h] at h2; cases h2
theorem parse_bad (s : ByteArray) (hs : s.size ≤ maxLen) (h : (parseF s.data.toList).1 ≠ none) (w : World) (hE : Env w) : Calls Tryz.prog 14 #[.string s] w fun e w' => ∃ q, e = .returned (.tuple #[.agg #[.int .i64 0, .int .i64 0, .int .i64 0, .int .i64 0, .int .i64 0, .int .i64 0, .int .i64 0, .int .i64 0, .int .i64 0, .int .i64 0, .int .i64 0, .int .i64 0, .int .i64 0], .iface 58 (.pointer (some ⟨q, 0, none⟩))]) ∧ Below w.heap.size w w' := by
  refine (parse_any s w hs hE).mono ?_
  rintro e w' (⟨h2, _⟩ | ⟨f, q, _, h2, _, _, h3⟩)
  · exact absurd h2 h
  · exact ⟨q, h2, h3⟩

set_option maxRecDepth 20000 in
set_option maxHeartbeats 1000000 in
theorem back_no_long (t : Tab) (s : ByteArray) (w : World) (hs : s.size ≤ maxLen) (hE : Env w) (h : t.ok = false) (hl : 65536 < s.size) : Calls Tryz.prog 5 #[t.val, .string s] w fun e w' => e = .returned (.bool true) ∧ Below w.heap.size w w' := by
  have HE : Hid (Env w) := hE
  have ht1 : Hid _ := text_no t (w.alloc (.cells t.cells 24)) (hE.al _).G h
  have hk : Hid (∀ w', Bnds w' → Calls Tryz.prog 9 #[t.val] w' fun e w'' => e = .returned (.int .i64 20) ∧ Below w'.heap.size w' w'') := fun w' hB => by have := check_any t w' hB; rw [show ckR t = 20 from by simp [ckR, h]] at this; exact this
  have HTn : Hid _ := tabAt_new w t 24
  have q4 := eq4same
  have q4z := eq4zero
  unfold maxLen at hs
  
  clear hE h  
  unfold Tab.val at *
  go_enter Tryz.func5, Tryz.ntmps5
  go_wp2_with (first
    | (go_at_call 7; refine Calls.mono ht1.out ?_; rintro e w1 ⟨rfl, hb1⟩; obtain ⟨p0, p1, p2, p3, p4, p5, p6, p7, p8, p9, p10, p11, p12⟩ := tab_val (HTn.out.below hb1 (by simp)))
    | (go_at_call 9; refine Calls.mono (hk.out _ ((HE.out.al _).bl hb1).G) ?_; rintro e w2 ⟨rfl, hb2⟩; clear p0 p1 p2 p3 p4 p5 p6 p7 p8 p9 p10 p11 p12; obtain ⟨q0, q1, q2, q3, q4, q5, q6, q7, q8, q9, q10, q11, q12⟩ := tab_val ((HTn.out.below hb1 (by simp)).below hb2 (by have := hb1.size; simp at this; omega)))
    | (go_at_call 13; refine Calls.mono (wakes_any _ (((HE.out.al _).bl hb1).bl hb2)) ?_; rintro e w9 ⟨rfl, hb9⟩))
  go_ret
  exact ⟨rfl, (btr (btr (btr (bal (Below.refl _ w) _) hb1) hb2) hb9)⟩

set_option maxRecDepth 20000 in
set_option maxHeartbeats 1000000 in
theorem back_no_bad (t : Tab) (s : ByteArray) (w : World) (hs : s.size ≤ maxLen) (hE : Env w) (h : t.ok = false) (hl : s.size ≤ 65536) (hp : (parseF s.data.toList).1 ≠ none) : Calls Tryz.prog 5 #[t.val, .string s] w fun e w' => e = .returned (.bool true) ∧ Below w.heap.size w w' := by
  have HE : Hid (Env w) := hE
  have ht1 : Hid _ := text_no t (w.alloc (.cells t.cells 24)) (hE.al _).G h
  have hk : Hid (∀ w', Bnds w' → Calls Tryz.prog 9 #[t.val] w' fun e w'' => e = .returned (.int .i64 20) ∧ Below w'.heap.size w' w'') := fun w' hB => by have := check_any t w' hB; rw [show ckR t = 20 from by simp [ckR, h]] at this; exact this
  have hps : Hid _ := parse_bad s hs hp
  have HTn : Hid _ := tabAt_new w t 24
  have q4 := eq4same
  have q4z := eq4zero
  unfold maxLen at hs
  
  clear hE h hp 
  unfold Tab.val at *
  go_enter Tryz.func5, Tryz.ntmps5
  go_wp2_with (first
    | (go_at_call 7; refine Calls.mono ht1.out ?_; rintro e w1 ⟨rfl, hb1⟩; obtain ⟨p0, p1, p2, p3, p4, p5, p6, p7, p8, p9, p10, p11, p12⟩ := tab_val (HTn.out.below hb1 (by simp)))
    | (go_at_call 9; refine Calls.mono (hk.out _ ((HE.out.al _).bl hb1).G) ?_; rintro e w2 ⟨rfl, hb2⟩; clear p0 p1 p2 p3 p4 p5 p6 p7 p8 p9 p10 p11 p12; obtain ⟨q0, q1, q2, q3, q4, q5, q6, q7, q8, q9, q10, q11, q12⟩ := tab_val ((HTn.out.below hb1 (by simp)).below hb2 (by have := hb1.size; simp at this; omega)))
    | (go_at_call_of 14 (Value.string s); refine Calls.mono (hps.out _ (((HE.out.al _).bl hb1).bl hb2)) ?_; rintro e w4 ⟨q, rfl, hb4⟩)
    | (go_at_call 13; refine Calls.mono (wakes_any _ (((((HE.out.al _).bl hb1).bl hb2).bl hb4).al _)) ?_; rintro e w9 ⟨rfl, hb9⟩))
  go_ret
  exact ⟨rfl, (btr (bal (btr (btr (btr (bal (Below.refl _ w) _) hb1) hb2) hb4) _) hb9)⟩

set_option maxRecDepth 20000 in
set_option maxHeartbeats 1000000 in
theorem back_no_good (t : Tab) (s : ByteArray) (w : World) (hs : s.size ≤ maxLen) (hE : Env w) (h : t.ok = false) (hl : s.size ≤ 65536) (hp : (parseF s.data.toList).1 = none) : Calls Tryz.prog 5 #[t.val, .string s] w fun e w' => e = .returned (.bool true) ∧ Below w.heap.size w w' := by
  have HE : Hid (Env w) := hE
  have ht1 : Hid _ := text_no t (w.alloc (.cells t.cells 24)) (hE.al _).G h
  have hk : Hid (∀ w', Bnds w' → Calls Tryz.prog 9 #[t.val] w' fun e w'' => e = .returned (.int .i64 20) ∧ Below w'.heap.size w' w'') := fun w' hB => by have := check_any t w' hB; rw [show ckR t = 20 from by simp [ckR, h]] at this; exact this
  have hps : Hid (∀ w', Env w' → Calls Tryz.prog 14 #[.string s] w' fun e w'' => e = .returned (.tuple #[(parseF s.data.toList).2.val, .nilIface]) ∧ Below w'.heap.size w' w'') := parse_good s hs hp
  have huo := parse_ok s.data.toList hp
  generalize (parseF s.data.toList).2 = u at *
  have hut : Hid (∀ w', Env w' → Calls Tryz.prog 7 #[u.val] w' fun e w'' => e = .returned (.tuple #[.string ⟨(textL u).toArray⟩, .int .i64 0]) ∧ Below w'.heap.size w' w'') := fun w' hE' => text_yes u w' hE'.G hE'.N huo
  have hpu : Hid (∀ w', Env w' → Calls Tryz.prog 14 #[.string ⟨(textL u).toArray⟩] w' fun e w'' => e = .returned (.tuple #[u.val, .nilIface]) ∧ Below w'.heap.size w' w'') := parse_back u huo
  have HUn : Hid (∀ w' : World, TabAt (w'.alloc (.cells u.cells 24)) w'.heap.size u) := fun w' => tabAt_new w' u 24
  generalize (⟨(textL u).toArray⟩ : ByteArray) = su at *
  have HTn : Hid _ := tabAt_new w t 24
  have q4 := eq4same
  have q4z := eq4zero
  unfold maxLen at hs
  
  clear hE h hp huo
  unfold Tab.val at *
  go_enter Tryz.func5, Tryz.ntmps5
  go_wp2_with (first
    | (go_at_call_of 7 (Value.agg #[Value.int IntKind.i64 (t.u 0), Value.int IntKind.i64 (t.u 1), Value.int IntKind.i64 (t.u 2), Value.int IntKind.i64 (t.u 3), Value.int IntKind.i64 (t.l 0), Value.int IntKind.i64 (t.l 1), Value.int IntKind.i64 (t.l 2), Value.int IntKind.i64 (t.l 3), Value.int IntKind.i64 (t.b 0), Value.int IntKind.i64 (t.b 1), Value.int IntKind.i64 (t.b 2), Value.int IntKind.i64 (t.b 3), Value.int IntKind.i64 t.d]); refine Calls.mono ht1.out ?_; rintro e w1 ⟨rfl, hb1⟩; obtain ⟨p0, p1, p2, p3, p4, p5, p6, p7, p8, p9, p10, p11, p12⟩ := tab_val (HTn.out.below hb1 (by simp)))
    | (go_at_call 9; refine Calls.mono (hk.out _ ((HE.out.al _).bl hb1).G) ?_; rintro e w2 ⟨rfl, hb2⟩; clear p0 p1 p2 p3 p4 p5 p6 p7 p8 p9 p10 p11 p12; obtain ⟨q0, q1, q2, q3, q4, q5, q6, q7, q8, q9, q10, q11, q12⟩ := tab_val ((HTn.out.below hb1 (by simp)).below hb2 (by have := hb1.size; simp at this; omega)))
    | (go_at_call_of 14 (Value.string s); refine Calls.mono (hps.out _ (((HE.out.al _).bl hb1).bl hb2)) ?_; rintro e w4 ⟨rfl, hb4⟩)
    | (go_at_call_of 7 (Value.agg #[Value.int IntKind.i64 (u.u 0), Value.int IntKind.i64 (u.u 1), Value.int IntKind.i64 (u.u 2), Value.int IntKind.i64 (u.u 3), Value.int IntKind.i64 (u.l 0), Value.int IntKind.i64 (u.l 1), Value.int IntKind.i64 (u.l 2), Value.int IntKind.i64 (u.l 3), Value.int IntKind.i64 (u.b 0), Value.int IntKind.i64 (u.b 1), Value.int IntKind.i64 (u.b 2), Value.int IntKind.i64 (u.b 3), Value.int IntKind.i64 u.d]); refine Calls.mono (hut.out _ (((((HE.out.al _).bl hb1).bl hb2).bl hb4).al _)) ?_; rintro e w5 ⟨rfl, hb5⟩; obtain ⟨g0, g1, g2, g3, g4, g5, g6, g7, g8, g9, g10, g11, g12⟩ := tab_val ((HUn.out w4).below hb5 (by simp)))
    | (go_at_call_of 14 (Value.string su); refine Calls.mono (hpu.out _ ((((((HE.out.al _).bl hb1).bl hb2).bl hb4).al _).bl hb5)) ?_; rintro e w6 ⟨rfl, hb6⟩; clear g0 g1 g2 g3 g4 g5 g6 g7 g8 g9 g10 g11 g12; have z6 : w4.heap.size < w6.heap.size := (by have := hb5.size; have := hb6.size; simp at *; omega); obtain ⟨k0, k1, k2, k3, k4, k5, k6, k7, k8, k9, k10, k11, k12⟩ := tab_val ((((HUn.out w4).below hb5 (by simp)).below hb6 (by have := hb5.size; simp at this; omega)).below ((Below.refl _ w6).alloc (Nat.le_refl _) (.cells u.cells 24)) z6); simp only [Tab.cells] at k0 k1 k2 k3 k4 k5 k6 k7 k8 k9 k10 k11 k12)
    | (go_at_call 13; refine Calls.mono (wakes_any _ ((((((((HE.out.al _).bl hb1).bl hb2).bl hb4).al _).bl hb5).bl hb6).al _)) ?_; rintro e w9 ⟨rfl, hb9⟩))
  go_ret
  exact ⟨rfl, (btr (bal (btr (btr (bal (btr (btr (btr (bal (Below.refl _ w) _) hb1) hb2) hb4) _) hb5) hb6) _) hb9)⟩

set_option maxRecDepth 20000 in
set_option maxHeartbeats 1000000 in
theorem back_yes_long (t : Tab) (s : ByteArray) (w : World) (hs : s.size ≤ maxLen) (hE : Env w) (h : t.ok = true) (hl : 65536 < s.size) : Calls Tryz.prog 5 #[t.val, .string s] w fun e w' => e = .returned (.bool true) ∧ Below w.heap.size w w' := by
  have HE : Hid (Env w) := hE
  have ht1 : Hid _ := text_yes t (w.alloc (.cells t.cells 24)) (hE.al _).G (hE.al _).N h
  have hpt : Hid (∀ w', Env w' → Calls Tryz.prog 14 #[.string ⟨(textL t).toArray⟩] w' fun e w'' => e = .returned (.tuple #[t.val, .nilIface]) ∧ Below w'.heap.size w' w'') := parse_back t h
  have hk : Hid (∀ w', Bnds w' → Calls Tryz.prog 9 #[t.val] w' fun e w'' => e = .returned (.int .i64 0) ∧ Below w'.heap.size w' w'') := fun w' hB => by have := check_any t w' hB; rw [show ckR t = 0 from by simp [ckR, h]] at this; exact this
  have HTn : Hid _ := tabAt_new w t 24
  have q4 := eq4same
  have q4z := eq4zero
  unfold maxLen at hs
  generalize (⟨(textL t).toArray⟩ : ByteArray) = st at *
  clear hE h  
  unfold Tab.val at *
  go_enter Tryz.func5, Tryz.ntmps5
  go_wp2_with (first
    | (go_at_call 7; refine Calls.mono ht1.out ?_; rintro e w1 ⟨rfl, hb1⟩; obtain ⟨p0, p1, p2, p3, p4, p5, p6, p7, p8, p9, p10, p11, p12⟩ := tab_val (HTn.out.below hb1 (by simp)))
    | (go_at_call 9; refine Calls.mono (hk.out _ ((HE.out.al _).bl hb1).G) ?_; rintro e w2 ⟨rfl, hb2⟩; clear p0 p1 p2 p3 p4 p5 p6 p7 p8 p9 p10 p11 p12; obtain ⟨q0, q1, q2, q3, q4, q5, q6, q7, q8, q9, q10, q11, q12⟩ := tab_val ((HTn.out.below hb1 (by simp)).below hb2 (by have := hb1.size; simp at this; omega)))
    | (go_at_call_of 14 (Value.string st); refine Calls.mono (hpt.out _ (((HE.out.al _).bl hb1).bl hb2)) ?_; rintro e w3 ⟨rfl, hb3⟩; clear q0 q1 q2 q3 q4 q5 q6 q7 q8 q9 q10 q11 q12; have z3 : w.heap.size < w3.heap.size := (by have := hb1.size; have := hb2.size; have := hb3.size; simp at *; omega); obtain ⟨r0, r1, r2, r3, r4, r5, r6, r7, r8, r9, r10, r11, r12⟩ := tab_val ((((HTn.out.below hb1 (by simp)).below hb2 (by have := hb1.size; simp at this; omega)).below hb3 (by have := hb1.size; have := hb2.size; simp at *; omega)).below ((Below.refl _ w3).alloc (Nat.le_refl _) (.cells t.cells 24)) z3); simp only [Tab.cells] at r0 r1 r2 r3 r4 r5 r6 r7 r8 r9 r10 r11 r12)
    | (go_at_call 13; refine Calls.mono (wakes_any _ (((((HE.out.al _).bl hb1).bl hb2).bl hb3).al _)) ?_; rintro e w9 ⟨rfl, hb9⟩))
  go_ret
  exact ⟨rfl, (btr (bal (btr (btr (btr (bal (Below.refl _ w) _) hb1) hb2) hb3) _) hb9)⟩

set_option maxRecDepth 20000 in
set_option maxHeartbeats 1000000 in
theorem back_yes_bad (t : Tab) (s : ByteArray) (w : World) (hs : s.size ≤ maxLen) (hE : Env w) (h : t.ok = true) (hl : s.size ≤ 65536) (hp : (parseF s.data.toList).1 ≠ none) : Calls Tryz.prog 5 #[t.val, .string s] w fun e w' => e = .returned (.bool true) ∧ Below w.heap.size w w' := by
  have HE : Hid (Env w) := hE
  have ht1 : Hid _ := text_yes t (w.alloc (.cells t.cells 24)) (hE.al _).G (hE.al _).N h
  have hpt : Hid (∀ w', Env w' → Calls Tryz.prog 14 #[.string ⟨(textL t).toArray⟩] w' fun e w'' => e = .returned (.tuple #[t.val, .nilIface]) ∧ Below w'.heap.size w' w'') := parse_back t h
  have hk : Hid (∀ w', Bnds w' → Calls Tryz.prog 9 #[t.val] w' fun e w'' => e = .returned (.int .i64 0) ∧ Below w'.heap.size w' w'') := fun w' hB => by have := check_any t w' hB; rw [show ckR t = 0 from by simp [ckR, h]] at this; exact this
  have hps : Hid _ := parse_bad s hs hp
  have HTn : Hid _ := tabAt_new w t 24
  have q4 := eq4same
  have q4z := eq4zero
  unfold maxLen at hs
  generalize (⟨(textL t).toArray⟩ : ByteArray) = st at *
  clear hE h hp 
  unfold Tab.val at *
  go_enter Tryz.func5, Tryz.ntmps5
  go_wp2_with (first
    | (go_at_call 7; refine Calls.mono ht1.out ?_; rintro e w1 ⟨rfl, hb1⟩; obtain ⟨p0, p1, p2, p3, p4, p5, p6, p7, p8, p9, p10, p11, p12⟩ := tab_val (HTn.out.below hb1 (by simp)))
    | (go_at_call 9; refine Calls.mono (hk.out _ ((HE.out.al _).bl hb1).G) ?_; rintro e w2 ⟨rfl, hb2⟩; clear p0 p1 p2 p3 p4 p5 p6 p7 p8 p9 p10 p11 p12; obtain ⟨q0, q1, q2, q3, q4, q5, q6, q7, q8, q9, q10, q11, q12⟩ := tab_val ((HTn.out.below hb1 (by simp)).below hb2 (by have := hb1.size; simp at this; omega)))
    | (go_at_call_of 14 (Value.string st); refine Calls.mono (hpt.out _ (((HE.out.al _).bl hb1).bl hb2)) ?_; rintro e w3 ⟨rfl, hb3⟩; clear q0 q1 q2 q3 q4 q5 q6 q7 q8 q9 q10 q11 q12; have z3 : w.heap.size < w3.heap.size := (by have := hb1.size; have := hb2.size; have := hb3.size; simp at *; omega); obtain ⟨r0, r1, r2, r3, r4, r5, r6, r7, r8, r9, r10, r11, r12⟩ := tab_val ((((HTn.out.below hb1 (by simp)).below hb2 (by have := hb1.size; simp at this; omega)).below hb3 (by have := hb1.size; have := hb2.size; simp at *; omega)).below ((Below.refl _ w3).alloc (Nat.le_refl _) (.cells t.cells 24)) z3); simp only [Tab.cells] at r0 r1 r2 r3 r4 r5 r6 r7 r8 r9 r10 r11 r12)
    | (go_at_call_of 14 (Value.string s); refine Calls.mono (hps.out _ (((((HE.out.al _).bl hb1).bl hb2).bl hb3).al _)) ?_; rintro e w4 ⟨q, rfl, hb4⟩)
    | (go_at_call 13; refine Calls.mono (wakes_any _ (((((((HE.out.al _).bl hb1).bl hb2).bl hb3).al _).bl hb4).al _)) ?_; rintro e w9 ⟨rfl, hb9⟩))
  go_ret
  exact ⟨rfl, (btr (bal (btr (bal (btr (btr (btr (bal (Below.refl _ w) _) hb1) hb2) hb3) _) hb4) _) hb9)⟩

set_option maxRecDepth 20000 in
set_option maxHeartbeats 1000000 in
theorem back_yes_good (t : Tab) (s : ByteArray) (w : World) (hs : s.size ≤ maxLen) (hE : Env w) (h : t.ok = true) (hl : s.size ≤ 65536) (hp : (parseF s.data.toList).1 = none) : Calls Tryz.prog 5 #[t.val, .string s] w fun e w' => e = .returned (.bool true) ∧ Below w.heap.size w w' := by
  have HE : Hid (Env w) := hE
  have ht1 : Hid _ := text_yes t (w.alloc (.cells t.cells 24)) (hE.al _).G (hE.al _).N h
  have hpt : Hid (∀ w', Env w' → Calls Tryz.prog 14 #[.string ⟨(textL t).toArray⟩] w' fun e w'' => e = .returned (.tuple #[t.val, .nilIface]) ∧ Below w'.heap.size w' w'') := parse_back t h
  have hk : Hid (∀ w', Bnds w' → Calls Tryz.prog 9 #[t.val] w' fun e w'' => e = .returned (.int .i64 0) ∧ Below w'.heap.size w' w'') := fun w' hB => by have := check_any t w' hB; rw [show ckR t = 0 from by simp [ckR, h]] at this; exact this
  have hps : Hid (∀ w', Env w' → Calls Tryz.prog 14 #[.string s] w' fun e w'' => e = .returned (.tuple #[(parseF s.data.toList).2.val, .nilIface]) ∧ Below w'.heap.size w' w'') := parse_good s hs hp
  have huo := parse_ok s.data.toList hp
  generalize (parseF s.data.toList).2 = u at *
  have hut : Hid (∀ w', Env w' → Calls Tryz.prog 7 #[u.val] w' fun e w'' => e = .returned (.tuple #[.string ⟨(textL u).toArray⟩, .int .i64 0]) ∧ Below w'.heap.size w' w'') := fun w' hE' => text_yes u w' hE'.G hE'.N huo
  have hpu : Hid (∀ w', Env w' → Calls Tryz.prog 14 #[.string ⟨(textL u).toArray⟩] w' fun e w'' => e = .returned (.tuple #[u.val, .nilIface]) ∧ Below w'.heap.size w' w'') := parse_back u huo
  have HUn : Hid (∀ w' : World, TabAt (w'.alloc (.cells u.cells 24)) w'.heap.size u) := fun w' => tabAt_new w' u 24
  generalize (⟨(textL u).toArray⟩ : ByteArray) = su at *
  have HTn : Hid _ := tabAt_new w t 24
  have q4 := eq4same
  have q4z := eq4zero
  unfold maxLen at hs
  generalize (⟨(textL t).toArray⟩ : ByteArray) = st at *
  clear hE h hp huo
  unfold Tab.val at *
  go_enter Tryz.func5, Tryz.ntmps5
  go_wp2_with (first
    | (go_at_call_of 7 (Value.agg #[Value.int IntKind.i64 (t.u 0), Value.int IntKind.i64 (t.u 1), Value.int IntKind.i64 (t.u 2), Value.int IntKind.i64 (t.u 3), Value.int IntKind.i64 (t.l 0), Value.int IntKind.i64 (t.l 1), Value.int IntKind.i64 (t.l 2), Value.int IntKind.i64 (t.l 3), Value.int IntKind.i64 (t.b 0), Value.int IntKind.i64 (t.b 1), Value.int IntKind.i64 (t.b 2), Value.int IntKind.i64 (t.b 3), Value.int IntKind.i64 t.d]); refine Calls.mono ht1.out ?_; rintro e w1 ⟨rfl, hb1⟩; obtain ⟨p0, p1, p2, p3, p4, p5, p6, p7, p8, p9, p10, p11, p12⟩ := tab_val (HTn.out.below hb1 (by simp)))
    | (go_at_call 9; refine Calls.mono (hk.out _ ((HE.out.al _).bl hb1).G) ?_; rintro e w2 ⟨rfl, hb2⟩; clear p0 p1 p2 p3 p4 p5 p6 p7 p8 p9 p10 p11 p12; obtain ⟨q0, q1, q2, q3, q4, q5, q6, q7, q8, q9, q10, q11, q12⟩ := tab_val ((HTn.out.below hb1 (by simp)).below hb2 (by have := hb1.size; simp at this; omega)))
    | (go_at_call_of 14 (Value.string st); refine Calls.mono (hpt.out _ (((HE.out.al _).bl hb1).bl hb2)) ?_; rintro e w3 ⟨rfl, hb3⟩; clear q0 q1 q2 q3 q4 q5 q6 q7 q8 q9 q10 q11 q12; have z3 : w.heap.size < w3.heap.size := (by have := hb1.size; have := hb2.size; have := hb3.size; simp at *; omega); obtain ⟨r0, r1, r2, r3, r4, r5, r6, r7, r8, r9, r10, r11, r12⟩ := tab_val ((((HTn.out.below hb1 (by simp)).below hb2 (by have := hb1.size; simp at this; omega)).below hb3 (by have := hb1.size; have := hb2.size; simp at *; omega)).below ((Below.refl _ w3).alloc (Nat.le_refl _) (.cells t.cells 24)) z3); simp only [Tab.cells] at r0 r1 r2 r3 r4 r5 r6 r7 r8 r9 r10 r11 r12)
    | (go_at_call_of 14 (Value.string s); refine Calls.mono (hps.out _ (((((HE.out.al _).bl hb1).bl hb2).bl hb3).al _)) ?_; rintro e w4 ⟨rfl, hb4⟩)
    | (go_at_call_of 7 (Value.agg #[Value.int IntKind.i64 (u.u 0), Value.int IntKind.i64 (u.u 1), Value.int IntKind.i64 (u.u 2), Value.int IntKind.i64 (u.u 3), Value.int IntKind.i64 (u.l 0), Value.int IntKind.i64 (u.l 1), Value.int IntKind.i64 (u.l 2), Value.int IntKind.i64 (u.l 3), Value.int IntKind.i64 (u.b 0), Value.int IntKind.i64 (u.b 1), Value.int IntKind.i64 (u.b 2), Value.int IntKind.i64 (u.b 3), Value.int IntKind.i64 u.d]); refine Calls.mono (hut.out _ (((((((HE.out.al _).bl hb1).bl hb2).bl hb3).al _).bl hb4).al _)) ?_; rintro e w5 ⟨rfl, hb5⟩; obtain ⟨g0, g1, g2, g3, g4, g5, g6, g7, g8, g9, g10, g11, g12⟩ := tab_val ((HUn.out w4).below hb5 (by simp)))
    | (go_at_call_of 14 (Value.string su); refine Calls.mono (hpu.out _ ((((((((HE.out.al _).bl hb1).bl hb2).bl hb3).al _).bl hb4).al _).bl hb5)) ?_; rintro e w6 ⟨rfl, hb6⟩; clear g0 g1 g2 g3 g4 g5 g6 g7 g8 g9 g10 g11 g12; have z6 : w4.heap.size < w6.heap.size := (by have := hb5.size; have := hb6.size; simp at *; omega); obtain ⟨k0, k1, k2, k3, k4, k5, k6, k7, k8, k9, k10, k11, k12⟩ := tab_val ((((HUn.out w4).below hb5 (by simp)).below hb6 (by have := hb5.size; simp at this; omega)).below ((Below.refl _ w6).alloc (Nat.le_refl _) (.cells u.cells 24)) z6); simp only [Tab.cells] at k0 k1 k2 k3 k4 k5 k6 k7 k8 k9 k10 k11 k12)
    | (go_at_call 13; refine Calls.mono (wakes_any _ ((((((((((HE.out.al _).bl hb1).bl hb2).bl hb3).al _).bl hb4).al _).bl hb5).bl hb6).al _)) ?_; rintro e w9 ⟨rfl, hb9⟩))
  go_ret
  exact ⟨rfl, (btr (bal (btr (btr (bal (btr (bal (btr (btr (btr (bal (Below.refl _ w) _) hb1) hb2) hb3) _) hb4) _) hb5) hb6) _) hb9)⟩

theorem law_back (t : Tab) (s : ByteArray) (w : World) (hs : s.size ≤ maxLen) (hE : Env w) : Calls Tryz.prog 5 #[t.val, .string s] w fun e w' => e = .returned (.bool true) ∧ Below w.heap.size w w' := by
  by_cases hl : 65536 < s.size
  · cases h : t.ok
    · exact back_no_long t s w hs hE h hl
    · exact back_yes_long t s w hs hE h hl
  · by_cases hp : (parseF s.data.toList).1 = none
    · cases h : t.ok
      · exact back_no_good t s w hs hE h (by omega) hp
      · exact back_yes_good t s w hs hE h (by omega) hp
    · cases h : t.ok
      · exact back_no_bad t s w hs hE h (by omega) hp
      · exact back_yes_bad t s w hs hE h (by omega) hp

end Go.Proofs.YtgabnjiapkkjaaaGreatDoor.Tb
