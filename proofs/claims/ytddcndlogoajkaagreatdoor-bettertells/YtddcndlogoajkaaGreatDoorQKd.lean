/- What package ops answers of an operation (checked, Check, Class, Writes), read off the program by the walk. Conditions: each field is a number of its own width. -/
import Derived.Test.YtddcndlogoajkaaGreatDoorQKc
namespace Go.Proofs.YtddcndlogoajkaaGreatDoor.L8.Op
open Go.ChangeShapes Go.WideShapes Go.ChangeAt Go.RowKit
set_option maxRecDepth 20000

/-- A block that holds these cells, none of them frozen. -/
structure At (w : World) (b : Nat) (cs : Array Value) : Prop where
  c : ∀ (j : Nat) v, cs[j]? = some v → w.cell? ⟨b, j, none⟩ = some v
  f : ∀ j : Nat, w.frozen? ⟨b, j, none⟩ = false
  lt : b < w.heap.size
theorem At.new (w : World) (c : Array Value) (t : TypeId) : At (w.alloc (.cells c t)) w.heap.size c :=
  ⟨fun j v h => by simp [h], fun j => by simp, by simp⟩
theorem At.below {w w' : World} {b B : Nat} {cs : Array Value} (h : At w b cs) (hb : Below B w w') (hB : b < B) : At w' b cs :=
  ⟨fun j v e => by rw [(bcell hb).1 _ _ hB]; exact h.c j v e, fun j => by rw [(bcell hb).2 _ _ hB]; exact h.f j, Nat.lt_of_lt_of_le h.lt hb.size⟩
theorem At.alloc {w : World} {b : Nat} {cs : Array Value} (h : At w b cs) (o : Obj) : At (w.alloc o) b cs :=
  h.below ((Below.refl _ _).alloc (Nat.le_refl _) o) h.lt
theorem two_new (w : World) (c c' : Array Value) (t t' : TypeId) {w' : World} (hb : Below ((w.alloc (.cells c t)).alloc (.cells c' t')).heap.size ((w.alloc (.cells c t)).alloc (.cells c' t')) w') :
    At w' w.heap.size c ∧ At w' (w.heap.size + 1) c' ∧ Below w.heap.size w w' ∧ w.heap.size < w'.heap.size ∧ w.heap.size + 1 < w'.heap.size := by
  have hz := hb.size
  simp at hz
  have h2 := At.new (w.alloc (.cells c t)) c' t'
  rw [show (w.alloc (.cells c t)).heap.size = w.heap.size + 1 by simp] at h2
  refine ⟨((At.new w c t).alloc _).below hb (by simp; omega), h2.below hb (by simp), Below.trans (by go_grown) (hb.mono (by simp; omega)), by omega, by omega⟩
theorem one_new (w : World) (c : Array Value) (t : TypeId) {w' : World} (hb : Below (w.alloc (.cells c t)).heap.size (w.alloc (.cells c t)) w') :
    At w' w.heap.size c ∧ Below w.heap.size w w' ∧ w.heap.size < w'.heap.size := by
  have hz := hb.size
  simp at hz
  exact ⟨(At.new w c t).below hb (by simp), Below.trans (by go_grown) (hb.mono (by simp)), hz⟩

theorem At.k3 {w : World} {b : Nat} {x y z : Value} (h : At w b #[x, y, z]) : w.cell? ⟨b, 0, none⟩ = some x ∧ w.cell? ⟨b, 1, none⟩ = some y ∧ w.cell? ⟨b, 2, none⟩ = some z :=
  ⟨h.c 0 x rfl, h.c 1 y rfl, h.c 2 z rfl⟩
theorem At.o5 {w : World} {b : Nat} {x y z u v : Value} (h : At w b #[x, y, z, u, v]) : w.cell? ⟨b, 0, none⟩ = some x ∧ w.cell? ⟨b, 1, none⟩ = some y ∧ w.cell? ⟨b, 2, none⟩ = some z ∧ w.cell? ⟨b, 3, none⟩ = some u ∧ w.cell? ⟨b, 4, none⟩ = some v :=
  ⟨h.c 0 x rfl, h.c 1 y rfl, h.c 2 z rfl, h.c 3 u rfl, h.c 4 v rfl⟩
theorem okO_some {o : O} {k : K} (h : kOf o.op = some k) : okO o = okF k o := by unfold okO; rw [h]
theorem okO_none {o : O} (h : kOf o.op = none) : okO o = false := by unfold okO; rw [h]

set_option maxHeartbeats 1000000 in
theorem checked_none (o : O) (w : World) (ho : o.Ok) (h : kOf o.op = none) :
    Calls Tryz.prog 98 #[o.val] w fun e w' => e = .returned (.tuple #[kz, .int .i64 30]) ∧ Below w.heap.size w w' := by
  have HK : Hid (∀ w, Calls Tryz.prog 112 #[.int .i8 o.op] w fun e w' => e = .returned (.tuple #[kz, .bool false]) ∧ Below w.heap.size w w') := fun w => kindOf_no o.op w ho.op0 ho.op1 h
  clear ho h
  go_enter Tryz.func98, Tryz.ntmps98
  go_wp2_with (first | (go_at_call 112; refine Calls.mono (HK.out _) ?_; rintro e w1 ⟨rfl, hb⟩; obtain ⟨a1, a2, hb0, hz, hz1⟩ := two_new w _ _ _ _ hb; have HB : Hid (Below w.heap.size w w1) := hb0; have f0 := a2.f 0; have f1 := a2.f 1; have f2 := a2.f 2; obtain ⟨c0, c1, c2⟩ := a2.k3; clear hb hb0 a1 a2))
  refine bodyPost_ret (v := .tuple #[kz, .int .i64 30]) (by simp [results, Tryz.results98, go_sem, c0, c1, c2, hz1]) rfl ⟨rfl, HB.out.trans ?_⟩
  go_grown

set_option maxHeartbeats 1000000 in
theorem checked_bad (o : O) (k : K) (w : World) (h : kOf o.op = some k) (hf : okF k o = false) :
    Calls Tryz.prog 98 #[o.val] w fun e w' => e = .returned (.tuple #[kz, .int .i64 30]) ∧ Below w.heap.size w w' := by
  have HK : Hid (∀ w, Calls Tryz.prog 112 #[.int .i8 o.op] w fun e w' => e = .returned (.tuple #[k.val, .bool true]) ∧ Below w.heap.size w w') := fun w => kindOf_yes o.op k w h
  have HF : Hid (∀ w, Calls Tryz.prog 113 #[k.val, o.val] w fun e w' => e = .returned (.bool false) ∧ Below w.heap.size w w') := fun w => by have := fieldsHold_any k o w; rw [hf] at this; exact this
  clear h hf
  go_enter Tryz.func98, Tryz.ntmps98
  go_wp2_with (first | (go_at_call 112; refine Calls.mono (HK.out _) ?_; rintro e w1 ⟨rfl, hb⟩; obtain ⟨a1, a2, hb0, hz, hz1⟩ := two_new w _ _ _ _ hb; have HB : Hid (Below w.heap.size w w1) := hb0; have HA : Hid (At w1 (w.heap.size + 1) _) := a2; obtain ⟨o0, o1, o2, o3, o4⟩ := a1.o5; clear hb hb0 a1 a2) | (go_at_call 113; refine Calls.mono (HF.out _) ?_; rintro e w2 ⟨rfl, hb⟩; obtain ⟨-, hb0, hz2⟩ := one_new w1 _ _ hb; have a2 := HA.out.below hb0 (by omega); have hz3 : w.heap.size < w2.heap.size := (by omega); have hz4 : w.heap.size + 1 < w2.heap.size := (by omega); have HB2 : Hid (Below w.heap.size w w2) := HB.out.trans (hb0.mono HB.out.size); have f0 := a2.f 0; have f1 := a2.f 1; have f2 := a2.f 2; obtain ⟨c0, c1, c2⟩ := a2.k3; clear hb hb0 a2 o0 o1 o2 o3 o4))
  refine bodyPost_ret (v := .tuple #[kz, .int .i64 30]) (by simp [results, Tryz.results98, go_sem, c0, c1, c2]) rfl ⟨rfl, HB2.out.trans ?_⟩
  go_grown

set_option maxHeartbeats 1000000 in
theorem checked_yes (o : O) (k : K) (w : World) (h : kOf o.op = some k) (hf : okF k o = true) :
    Calls Tryz.prog 98 #[o.val] w fun e w' => e = .returned (.tuple #[k.val, .int .i64 0]) ∧ Below w.heap.size w w' := by
  have HK : Hid (∀ w, Calls Tryz.prog 112 #[.int .i8 o.op] w fun e w' => e = .returned (.tuple #[k.val, .bool true]) ∧ Below w.heap.size w w') := fun w => kindOf_yes o.op k w h
  have HF : Hid (∀ w, Calls Tryz.prog 113 #[k.val, o.val] w fun e w' => e = .returned (.bool true) ∧ Below w.heap.size w w') := fun w => by have := fieldsHold_any k o w; rw [hf] at this; exact this
  clear h hf
  go_enter Tryz.func98, Tryz.ntmps98
  go_wp2_with (first | (go_at_call 112; refine Calls.mono (HK.out _) ?_; rintro e w1 ⟨rfl, hb⟩; obtain ⟨a1, a2, hb0, hz, hz1⟩ := two_new w _ _ _ _ hb; have HB : Hid (Below w.heap.size w w1) := hb0; have HA : Hid (At w1 (w.heap.size + 1) _) := a2; obtain ⟨o0, o1, o2, o3, o4⟩ := a1.o5; clear hb hb0 a1 a2) | (go_at_call 113; refine Calls.mono (HF.out _) ?_; rintro e w2 ⟨rfl, hb⟩; obtain ⟨a1, hb0, hz2⟩ := one_new w1 _ _ hb; have a2 := HA.out.below hb0 (by omega); have hz3 : w.heap.size < w2.heap.size := (by omega); have hz4 : w.heap.size + 1 < w2.heap.size := (by omega); have HB2 : Hid (Below w.heap.size w w2) := HB.out.trans (hb0.mono HB.out.size); have f0 := a2.f 0; have f1 := a2.f 1; have f2 := a2.f 2; obtain ⟨c0, c1, c2⟩ := a2.k3; obtain ⟨k0, k1, k2⟩ := a1.k3; clear hb hb0 a2 a1 o0 o1 o2 o3 o4))
  refine bodyPost_ret (v := .tuple #[k.val, .int .i64 0]) (by simp [results, Tryz.results98, go_sem, c0, c1, c2]) rfl ⟨rfl, HB2.out.trans ?_⟩
  go_grown

theorem checked_no (o : O) (w : World) (ho : o.Ok) (h : okO o = false) :
    Calls Tryz.prog 98 #[o.val] w fun e w' => e = .returned (.tuple #[kz, .int .i64 30]) ∧ Below w.heap.size w w' := by
  cases hk : kOf o.op with
  | none => exact checked_none o w ho hk
  | some k => exact checked_bad o k w hk (by rw [← okO_some hk]; exact h)

def ckE (o : O) : Int := if okO o then 0 else 30
theorem checked_gen (o : O) (ho : o.Ok) : ∃ s c f, ∀ w, Calls Tryz.prog 98 #[o.val] w fun e w' => e = .returned (.tuple #[.agg #[.string s, .int .i8 c, .int .u8 f], .int .i64 (ckE o)]) ∧ Below w.heap.size w w' := by
  cases hO : okO o
  · exact ⟨_, _, _, fun w => by have := checked_no o w ho hO; rw [show (30 : Int) = ckE o by simp [ckE, hO]] at this; exact this⟩
  · cases hk : kOf o.op with
    | none => rw [okO_none hk] at hO; cases hO
    | some k => exact ⟨_, _, _, fun w => by have := checked_yes o k w hk (by rw [← okO_some hk]; exact hO); rw [show (0 : Int) = ckE o by simp [ckE, hO]] at this; exact this⟩
theorem check_any (o : O) (w : World) (ho : o.Ok) : Calls Tryz.prog 77 #[o.val] w fun e w' => e = .returned (.int .i64 (ckE o)) ∧ Below w.heap.size w w' := by
  obtain ⟨s, c, f, h⟩ := checked_gen o ho
  have HC : Hid _ := h
  clear h
  go_enter Tryz.func77, Tryz.ntmps77
  go_wp2_with (first | (go_at_call 98; refine Calls.mono (HC.out _) ?_; rintro e w1 ⟨rfl, hb⟩; obtain ⟨-, hb0, hz⟩ := one_new w _ _ hb; have HB : Hid (Below w.heap.size w w1) := hb0; clear hb hb0))
  go_ret
  exact ⟨rfl, HB.out.trans ((Below.refl _ _).alloc (Nat.le_of_lt hz) _)⟩

def wrB (o : O) : Bool := match kOf o.op with | some k => okF k o && k.D | none => false
def wrD (o : O) : Int := if wrB o then o.d else 0
theorem wr_no {o : O} (h : okO o = false) : wrB o = false := by
  unfold wrB; unfold okO at h
  split <;> simp_all
theorem wr_yes {o : O} {k : K} (h : kOf o.op = some k) (hf : okF k o = true) : wrB o = k.D := by
  unfold wrB; rw [h]; simp [hf]
set_option maxHeartbeats 1000000 in
theorem writes_any (o : O) (w : World) (ho : o.Ok) : Calls Tryz.prog 85 #[o.val] w fun e w' => e = .returned (.tuple #[.int .u8 (wrD o), .bool (wrB o)]) ∧ Below w.heap.size w w' := by
  cases hO : okO o
  · have hw := wr_no hO
    rw [show wrD o = 0 by simp [wrD, hw], hw]
    have HC : Hid _ := fun w => checked_no o w ho hO
    clear hO hw ho
    go_enter Tryz.func85, Tryz.ntmps85
    go_wp2_with (first | (go_at_call 98; refine Calls.mono (HC.out _) ?_; rintro e w1 ⟨rfl, hb⟩; obtain ⟨-, hb0, hz⟩ := one_new w _ _ hb; have HB : Hid (Below w.heap.size w w1) := hb0; clear hb hb0))
    go_ret2
    exact ⟨rfl, HB.out.trans ((Below.refl _ _).alloc (Nat.le_of_lt hz) _)⟩
  · cases hk : kOf o.op with
    | none => rw [okO_none hk] at hO; cases hO
    | some k =>
      have hf : okF k o = true := by rw [← okO_some hk]; exact hO
      have hw := wr_yes hk hf
      have HC : Hid _ := fun w => checked_yes o k w hk hf
      have HD : Hid _ := fun w => cnt_D k w
      cases hD : k.D
      · rw [hD] at hw
        rw [show wrD o = 0 by simp [wrD, hw], hw]
        rw [hD] at HD
        clear hO hw ho hk hf
        go_enter Tryz.func85, Tryz.ntmps85
        go_wp2_with (first | (go_at_call 98; refine Calls.mono (HC.out _) ?_; rintro e w1 ⟨rfl, hb⟩; obtain ⟨-, hb0, hz⟩ := one_new w _ _ hb; have HB : Hid (Below w.heap.size w w1) := hb0; clear hb hb0) | (go_at_call 103; refine Calls.mono (HD.out _) ?_; rintro e w2 ⟨rfl, hb⟩; obtain ⟨-, hb0, hz2⟩ := one_new w1 _ _ hb; have HB2 : Hid (Below w.heap.size w w2) := HB.out.trans (hb0.mono (Nat.le_of_lt hz)); clear hb hb0))
        go_ret2
        exact ⟨rfl, HB2.out⟩
      · rw [hD] at hw
        rw [show wrD o = o.d by simp [wrD, hw], hw]
        rw [hD] at HD
        clear hO hw ho hk hf
        go_enter Tryz.func85, Tryz.ntmps85
        go_wp2_with (first | (go_at_call 98; refine Calls.mono (HC.out _) ?_; rintro e w1 ⟨rfl, hb⟩; obtain ⟨a1, hb0, hz⟩ := one_new w _ _ hb; have HA : Hid _ := a1; have HB : Hid (Below w.heap.size w w1) := hb0; clear hb hb0 a1) | (go_at_call 103; refine Calls.mono (HD.out _) ?_; rintro e w2 ⟨rfl, hb⟩; obtain ⟨-, hb0, hz2⟩ := one_new w1 _ _ hb; have HB2 : Hid (Below w.heap.size w w2) := HB.out.trans (hb0.mono (Nat.le_of_lt hz)); have o1 := (HA.out.below hb0 hz).o5.2.1; clear hb hb0))
        go_ret2
        exact ⟨rfl, HB2.out⟩

def rcN (k : K) (o : O) : Nat := if k.A then (if k.B && !(o.a == o.b) then 2 else 1) else 0
set_option maxHeartbeats 1000000 in
theorem readCount_any (k : K) (o : O) (w : World) : Calls Tryz.prog 102 #[k.val, o.val] w fun e w' => e = .returned (.int .i64 (rcN k o)) ∧ Below w.heap.size w w' := by
  have HA : Hid _ := fun w => cnt_A k w
  have HC : Hid _ := fun w => cnt_B k w
  have hdef : rcN k o = if k.A then (if k.B && !(o.a == o.b) then 2 else 1) else 0 := rfl
  rw [hdef]
  clear hdef
  cases hA : k.A
  · rw [hA] at HA
    go_enter Tryz.func102, Tryz.ntmps102
    go_wp2_with (first | (go_at_call_of 103 (Value.int IntKind.u8 2); refine Calls.mono (HA.out _) ?_; rintro e w1 ⟨rfl, hb⟩; obtain ⟨-, -, hb0, hz, hz1⟩ := two_new w _ _ _ _ hb; clear hb))
    go_ret
    exact ⟨rfl, hb0⟩
  · rw [hA] at HA
    cases hB : k.B
    · rw [hB] at HC
      go_enter Tryz.func102, Tryz.ntmps102
      go_wp2_with (first | (go_at_call_of 103 (Value.int IntKind.u8 2); refine Calls.mono (HA.out _) ?_; rintro e w1 ⟨rfl, hb⟩; obtain ⟨a1, a2, hb0, hz, hz1⟩ := two_new w _ _ _ _ hb; obtain ⟨k0, k1, k2⟩ := a1.k3; have HB : Hid (Below w.heap.size w w1) := hb0; clear hb a1 a2 hb0) | (go_at_call_of 103 (Value.int IntKind.u8 4); refine Calls.mono (HC.out _) ?_; rintro e w2 ⟨rfl, hb⟩))
      go_ret
      exact ⟨rfl, HB.out.trans (hb.mono (Nat.le_of_lt hz))⟩
    · rw [hB] at HC
      cases hE : (o.a == o.b)
      all_goals
        go_enter Tryz.func102, Tryz.ntmps102
        go_wp2_with (first | (go_at_call_of 103 (Value.int IntKind.u8 2); refine Calls.mono (HA.out _) ?_; rintro e w1 ⟨rfl, hb⟩; obtain ⟨a1, a2, hb0, hz, hz1⟩ := two_new w _ _ _ _ hb; obtain ⟨k0, k1, k2⟩ := a1.k3; have HO : Hid _ := a2; have HB : Hid (Below w.heap.size w w1) := hb0; clear hb a1 a2 hb0) | (go_at_call_of 103 (Value.int IntKind.u8 4); refine Calls.mono (HC.out _) ?_; rintro e w2 ⟨rfl, hb⟩; obtain ⟨-, -, o2, o3, -⟩ := (HO.out.below hb hz1).o5))
        go_ret
        exact ⟨rfl, HB.out.trans (hb.mono (Nat.le_of_lt hz))⟩

set_option maxHeartbeats 1000000 in
theorem reads_no (o : O) (w : World) (ho : o.Ok) (h : okO o = false) : Calls Tryz.prog 84 #[o.val] w fun e w' => e = .returned (.slice none 0 0) ∧ Below w.heap.size w w' := by
  have HC : Hid _ := fun w => checked_no o w ho h
  clear ho h
  go_enter Tryz.func84, Tryz.ntmps84
  go_wp2_with (first | (go_at_call 98; refine Calls.mono (HC.out _) ?_; rintro e w1 ⟨rfl, hb⟩; obtain ⟨-, hb0, hz⟩ := one_new w _ _ hb; have HB : Hid (Below w.heap.size w w1) := hb0; clear hb hb0))
  go_ret
  exact ⟨rfl, HB.out.trans ((Below.refl _ _).alloc (Nat.le_of_lt hz) _)⟩

set_option maxHeartbeats 1000000 in
theorem reads_yes (o : O) (k : K) (w : World) (hk : kOf o.op = some k) (hf : okF k o = true) : Calls Tryz.prog 84 #[o.val] w fun e w' => ∃ b : Nat, e = .returned (.slice (some ⟨b, 0, none⟩) (rcN k o) (rcN k o)) ∧ At w' b #[.int .u8 o.a, .int .u8 o.b] ∧ Below w.heap.size w w' := by
  have HC : Hid _ := fun w => checked_yes o k w hk hf
  have HR : Hid _ := fun w => readCount_any k o w
  have hn : rcN k o = 0 ∨ rcN k o = 1 ∨ rcN k o = 2 := by unfold rcN; split <;> (try split) <;> simp
  clear hk hf
  rcases hn with hn | hn | hn
  all_goals
    rw [hn] at HR
    rw [hn]
    clear hn
    go_enter Tryz.func84, Tryz.ntmps84
    go_wp2_with (first | (go_at_call 98; refine Calls.mono (HC.out _) ?_; rintro e w1 ⟨rfl, hb⟩; obtain ⟨a1, hb0, hz⟩ := one_new w _ _ hb; have HO : Hid _ := a1; obtain ⟨o0, o1, o2, o3, o4⟩ := a1.o5; have HB : Hid (Below w.heap.size w w1) := hb0; clear hb hb0 a1) | (go_at_call 102; refine Calls.mono (HR.out _) ?_; rintro e w2 ⟨rfl, hb⟩; obtain ⟨a1, a2, hb0, hz2, hz3⟩ := two_new w1 _ _ _ _ hb; have HA : Hid _ := a2; have HB2 : Hid (Below w.heap.size w w2) := HB.out.trans (hb0.mono (Nat.le_of_lt hz)); clear hb hb0 a1 a2))
    go_ret
    refine ⟨_, rfl, ?_, HB2.out⟩
    exact HA.out
end Go.Proofs.YtddcndlogoajkaaGreatDoor.L8.Op
