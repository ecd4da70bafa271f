/- What the document's own Put, Get and Signed answer, read off its loops by the walk. Conditions: the words are from 0 to 2^64 - 1. -/
import Derived.Test.YtldfjlepbbmhnaaDoorPm
import Derived.Deep.AppendLies
namespace Go.Proofs.YtldfjlepbbmhnaaDoor.Op
open Go.ChangeShapes Go.WideShapes Go.ChangeAt Go.RowKit
set_option maxRecDepth 20000

theorem regHoldsV (r : Int) (c v : Bool) (w : World) (h : rH r c = v) : Calls Tryd.prog 68 #[.int .u8 r, .bool c] w fun e w' => e = .returned (.bool v) ∧ Below w.heap.size w w' :=
  (regHolds r c w).mono fun _ _ g => ⟨by rw [g.1, h], by rw [g.2]; exact Below.refl _ _⟩

set_option maxHeartbeats 1000000 in
theorem fieldsHold_any (k : K) (o : O) (w : World) :
    Calls Tryd.prog 54 #[k.val, o.val] w fun e w' => e = .returned (.bool (okF k o)) ∧ Below w.heap.size w w' := by
  have hW : Below w.heap.size w ((w.alloc (.cells #[.string k.s, .int .i8 k.cls, .int .u8 k.fields] 92)).alloc (.cells o.cells 55)) := by go_grown
  generalize hV : (w.alloc (.cells #[.string k.s, .int .i8 k.cls, .int .u8 k.fields] 92)).alloc (.cells o.cells 55) = V at hW
  have hsz : w.heap.size + 2 = V.heap.size := by rw [← hV]; simp
  have c0 : ∀ x : Wd (Below V.heap.size V), x.w.cell? ⟨w.heap.size, 0, none⟩ = some (.string k.s) := fun x => by rw [(bcell x.ok).1 _ _ (by omega), ← hV]; simp
  have c1 : ∀ x : Wd (Below V.heap.size V), x.w.cell? ⟨w.heap.size, 1, none⟩ = some (.int .i8 k.cls) := fun x => by rw [(bcell x.ok).1 _ _ (by omega), ← hV]; simp
  have c2 : ∀ x : Wd (Below V.heap.size V), x.w.cell? ⟨w.heap.size, 2, none⟩ = some (.int .u8 k.fields) := fun x => by rw [(bcell x.ok).1 _ _ (by omega), ← hV]; simp
  have d1 : ∀ x : Wd (Below V.heap.size V), x.w.cell? ⟨w.heap.size + 1, 1, none⟩ = some (.int .u8 o.d) := fun x => by rw [(bcell x.ok).1 _ _ (by omega), ← hV]; simp
  have d2 : ∀ x : Wd (Below V.heap.size V), x.w.cell? ⟨w.heap.size + 1, 2, none⟩ = some (.int .u8 o.a) := fun x => by rw [(bcell x.ok).1 _ _ (by omega), ← hV]; simp
  have d3 : ∀ x : Wd (Below V.heap.size V), x.w.cell? ⟨w.heap.size + 1, 3, none⟩ = some (.int .u8 o.b) := fun x => by rw [(bcell x.ok).1 _ _ (by omega), ← hV]; simp
  have d4 : ∀ x : Wd (Below V.heap.size V), x.w.cell? ⟨w.heap.size + 1, 4, none⟩ = some (.int .i64 o.im) := fun x => by rw [(bcell x.ok).1 _ _ (by omega), ← hV]; simp
  haveI inst : Nonempty (Wd (Below V.heap.size V)) := ⟨⟨V, Below.refl _ _⟩⟩
  have HW : Hid (Below w.heap.size w V) := hW
  have HV : Hid (_ = V) := hV
  clear hW hV
  have hdef : okF k o = (rH o.d k.D && rH o.a k.A && rH o.b (k.B || k.N) && iH o.im k.I) := rfl
  rw [hdef]
  clear hdef
  have aD := and_D k
  have aA := and_A k
  have aB := and_BN k
  have aI := and_I k
  cases h1 : rH o.d k.D
  rotate_left
  cases h2 : rH o.a k.A
  rotate_left
  cases h3 : rH o.b (k.B || k.N)
  rotate_left
  all_goals
    go_enter Tryd.func54, Tryd.ntmps54
    go_wp2
    rw [HV.out]
    refine wp_region_in (Below V.heap.size V) (by kernel_rfl) (by kernel_rfl) ((Below.refl _ _).drew) ?_
    repeat (first | go_big_quiet_step ((first
      | (go_at_call 34; exact calls_in (Nat.le_refl _) _ (counts_any _ _ _ _ _))
      | (go_at_call 68; exact calls_in (Nat.le_refl _) _ (regHoldsV _ _ _ _ (by assumption)))
      | (go_at_call 69; exact calls_in (Nat.le_refl _) _ ((immHolds _ _ _).mono fun _ _ h => ⟨h.1, by rw [h.2]; exact Below.refl _ _⟩)))))
    refine wpQuiet_nil ?_
    rintro _ ⟨x, rfl⟩
    have hx := x.ok
    go_wp2
    go_ret
    refine ⟨ret_bool (by simp), HW.out.trans (hx.mono HW.out.size)⟩
end Go.Proofs.YtldfjlepbbmhnaaDoor.Op
namespace Go.Proofs.YtldfjlepbbmhnaaDoor.Op
open Go.ChangeShapes Go.WideShapes Go.ChangeAt Go.RowKit
set_option maxRecDepth 20000

/-- A block that holds these cells, none of them frozen. -/
structure At (w : World) (b : Nat) (cs : Array Value) : Prop where
  c : ∀ (j : Nat) v, cs[j]? = some v → w.cell? ⟨b, j, none⟩ = some v
  f : ∀ j : Nat, w.frozen? ⟨b, j, none⟩ = false
  lt : b < w.heap.size
theorem At.new (w : World) (c : Array Value) (t : TypeId) : At (w.alloc (.cells c t)) w.heap.size c :=
  ⟨fun j v h => by simp [h], fun j => by simp, by simp⟩
theorem At.below {w w' : World} {b B : Nat} {cs : Array Value} (h : At w b cs) (hb : Below B w w') (hB : b < B) : At w' b cs :=
  ⟨fun j v e => by rw [(bcell hb).1 _ _ hB]; exact h.c j v e, fun j => by rw [(bcell hb).2 _ _ hB]; exact h.f j, Nat.lt_of_lt_of_le h.lt hb.size⟩
theorem At.alloc {w : World} {b : Nat} {cs : Array Value} (h : At w b cs) (o : Obj) : At (w.alloc o) b cs :=
  h.below ((Below.refl _ _).alloc (Nat.le_refl _) o) h.lt
theorem two_new (w : World) (c c' : Array Value) (t t' : TypeId) {w' : World} (hb : Below ((w.alloc (.cells c t)).alloc (.cells c' t')).heap.size ((w.alloc (.cells c t)).alloc (.cells c' t')) w') :
    At w' w.heap.size c ∧ At w' (w.heap.size + 1) c' ∧ Below w.heap.size w w' ∧ w.heap.size < w'.heap.size ∧ w.heap.size + 1 < w'.heap.size := by
  have hz := hb.size
  simp at hz
  have h2 := At.new (w.alloc (.cells c t)) c' t'
  rw [show (w.alloc (.cells c t)).heap.size = w.heap.size + 1 by simp] at h2
  refine ⟨((At.new w c t).alloc _).below hb (by simp; omega), h2.below hb (by simp), Below.trans (by go_grown) (hb.mono (by simp; omega)), by omega, by omega⟩
theorem one_new (w : World) (c : Array Value) (t : TypeId) {w' : World} (hb : Below (w.alloc (.cells c t)).heap.size (w.alloc (.cells c t)) w') :
    At w' w.heap.size c ∧ Below w.heap.size w w' ∧ w.heap.size < w'.heap.size := by
  have hz := hb.size
  simp at hz
  exact ⟨(At.new w c t).below hb (by simp), Below.trans (by go_grown) (hb.mono (by simp)), hz⟩

theorem At.k3 {w : World} {b : Nat} {x y z : Value} (h : At w b #[x, y, z]) : w.cell? ⟨b, 0, none⟩ = some x ∧ w.cell? ⟨b, 1, none⟩ = some y ∧ w.cell? ⟨b, 2, none⟩ = some z :=
  ⟨h.c 0 x rfl, h.c 1 y rfl, h.c 2 z rfl⟩
theorem At.o5 {w : World} {b : Nat} {x y z u v : Value} (h : At w b #[x, y, z, u, v]) : w.cell? ⟨b, 0, none⟩ = some x ∧ w.cell? ⟨b, 1, none⟩ = some y ∧ w.cell? ⟨b, 2, none⟩ = some z ∧ w.cell? ⟨b, 3, none⟩ = some u ∧ w.cell? ⟨b, 4, none⟩ = some v :=
  ⟨h.c 0 x rfl, h.c 1 y rfl, h.c 2 z rfl, h.c 3 u rfl, h.c 4 v rfl⟩
theorem okO_some {o : O} {k : K} (h : kOf o.op = some k) : okO o = okF k o := by unfold okO; rw [h]
theorem okO_none {o : O} (h : kOf o.op = none) : okO o = false := by unfold okO; rw [h]

set_option maxHeartbeats 1000000 in
theorem checked_none (o : O) (w : World) (ho : o.Ok) (h : kOf o.op = none) :
    Calls Tryd.prog 33 #[o.val] w fun e w' => e = .returned (.tuple #[kz, .int .i64 30]) ∧ Below w.heap.size w w' := by
  have HK : Hid (∀ w, Calls Tryd.prog 32 #[.int .i8 o.op] w fun e w' => e = .returned (.tuple #[kz, .bool false]) ∧ Below w.heap.size w w') := fun w => kindOf_no o.op w ho.op0 ho.op1 h
  clear ho h
  go_enter Tryd.func33, Tryd.ntmps33
  go_wp2_with (first | (go_at_call 32; refine Calls.mono (HK.out _) ?_; rintro e w1 ⟨rfl, hb⟩; obtain ⟨a1, a2, hb0, hz, hz1⟩ := two_new w _ _ _ _ hb; have HB : Hid (Below w.heap.size w w1) := hb0; have f0 := a2.f 0; have f1 := a2.f 1; have f2 := a2.f 2; obtain ⟨c0, c1, c2⟩ := a2.k3; clear hb hb0 a1 a2))
  refine bodyPost_ret (v := .tuple #[kz, .int .i64 30]) (by simp [results, Tryd.results33, go_sem, c0, c1, c2, hz1]) rfl ⟨rfl, HB.out.trans ?_⟩
  go_grown

set_option maxHeartbeats 1000000 in
theorem checked_bad (o : O) (k : K) (w : World) (h : kOf o.op = some k) (hf : okF k o = false) :
    Calls Tryd.prog 33 #[o.val] w fun e w' => e = .returned (.tuple #[kz, .int .i64 30]) ∧ Below w.heap.size w w' := by
  have HK : Hid (∀ w, Calls Tryd.prog 32 #[.int .i8 o.op] w fun e w' => e = .returned (.tuple #[k.val, .bool true]) ∧ Below w.heap.size w w') := fun w => kindOf_yes o.op k w h
  have HF : Hid (∀ w, Calls Tryd.prog 54 #[k.val, o.val] w fun e w' => e = .returned (.bool false) ∧ Below w.heap.size w w') := fun w => by have := fieldsHold_any k o w; rw [hf] at this; exact this
  clear h hf
  go_enter Tryd.func33, Tryd.ntmps33
  go_wp2_with (first | (go_at_call 32; refine Calls.mono (HK.out _) ?_; rintro e w1 ⟨rfl, hb⟩; obtain ⟨a1, a2, hb0, hz, hz1⟩ := two_new w _ _ _ _ hb; have HB : Hid (Below w.heap.size w w1) := hb0; have HA : Hid (At w1 (w.heap.size + 1) _) := a2; obtain ⟨o0, o1, o2, o3, o4⟩ := a1.o5; clear hb hb0 a1 a2) | (go_at_call 54; refine Calls.mono (HF.out _) ?_; rintro e w2 ⟨rfl, hb⟩; obtain ⟨-, hb0, hz2⟩ := one_new w1 _ _ hb; have a2 := HA.out.below hb0 (by omega); have hz3 : w.heap.size < w2.heap.size := (by omega); have hz4 : w.heap.size + 1 < w2.heap.size := (by omega); have HB2 : Hid (Below w.heap.size w w2) := HB.out.trans (hb0.mono HB.out.size); have f0 := a2.f 0; have f1 := a2.f 1; have f2 := a2.f 2; obtain ⟨c0, c1, c2⟩ := a2.k3; clear hb hb0 a2 o0 o1 o2 o3 o4))
  refine bodyPost_ret (v := .tuple #[kz, .int .i64 30]) (by simp [results, Tryd.results33, go_sem, c0, c1, c2]) rfl ⟨rfl, HB2.out.trans ?_⟩
  go_grown

set_option maxHeartbeats 1000000 in
theorem checked_yes (o : O) (k : K) (w : World) (h : kOf o.op = some k) (hf : okF k o = true) :
    Calls Tryd.prog 33 #[o.val] w fun e w' => e = .returned (.tuple #[k.val, .int .i64 0]) ∧ Below w.heap.size w w' := by
  have HK : Hid (∀ w, Calls Tryd.prog 32 #[.int .i8 o.op] w fun e w' => e = .returned (.tuple #[k.val, .bool true]) ∧ Below w.heap.size w w') := fun w => kindOf_yes o.op k w h
  have HF : Hid (∀ w, Calls Tryd.prog 54 #[k.val, o.val] w fun e w' => e = .returned (.bool true) ∧ Below w.heap.size w w') := fun w => by have := fieldsHold_any k o w; rw [hf] at this; exact this
  clear h hf
  go_enter Tryd.func33, Tryd.ntmps33
  go_wp2_with (first | (go_at_call 32; refine Calls.mono (HK.out _) ?_; rintro e w1 ⟨rfl, hb⟩; obtain ⟨a1, a2, hb0, hz, hz1⟩ := two_new w _ _ _ _ hb; have HB : Hid (Below w.heap.size w w1) := hb0; have HA : Hid (At w1 (w.heap.size + 1) _) := a2; obtain ⟨o0, o1, o2, o3, o4⟩ := a1.o5; clear hb hb0 a1 a2) | (go_at_call 54; refine Calls.mono (HF.out _) ?_; rintro e w2 ⟨rfl, hb⟩; obtain ⟨a1, hb0, hz2⟩ := one_new w1 _ _ hb; have a2 := HA.out.below hb0 (by omega); have hz3 : w.heap.size < w2.heap.size := (by omega); have hz4 : w.heap.size + 1 < w2.heap.size := (by omega); have HB2 : Hid (Below w.heap.size w w2) := HB.out.trans (hb0.mono HB.out.size); have f0 := a2.f 0; have f1 := a2.f 1; have f2 := a2.f 2; obtain ⟨c0, c1, c2⟩ := a2.k3; obtain ⟨k0, k1, k2⟩ := a1.k3; clear hb hb0 a2 a1 o0 o1 o2 o3 o4))
  refine bodyPost_ret (v := .tuple #[k.val, .int .i64 0]) (by simp [results, Tryd.results33, go_sem, c0, c1, c2]) rfl ⟨rfl, HB2.out.trans ?_⟩
  go_grown

theorem checked_no (o : O) (w : World) (ho : o.Ok) (h : okO o = false) :
    Calls Tryd.prog 33 #[o.val] w fun e w' => e = .returned (.tuple #[kz, .int .i64 30]) ∧ Below w.heap.size w w' := by
  cases hk : kOf o.op with
  | none => exact checked_none o w ho hk
  | some k => exact checked_bad o k w hk (by rw [← okO_some hk]; exact h)

def ckE (o : O) : Int := if okO o then 0 else 30
theorem checked_gen (o : O) (ho : o.Ok) : ∃ s c f, ∀ w, Calls Tryd.prog 33 #[o.val] w fun e w' => e = .returned (.tuple #[.agg #[.string s, .int .i8 c, .int .u8 f], .int .i64 (ckE o)]) ∧ Below w.heap.size w w' := by
  cases hO : okO o
  · exact ⟨_, _, _, fun w => by have := checked_no o w ho hO; rw [show (30 : Int) = ckE o by simp [ckE, hO]] at this; exact this⟩
  · cases hk : kOf o.op with
    | none => rw [okO_none hk] at hO; cases hO
    | some k => exact ⟨_, _, _, fun w => by have := checked_yes o k w hk (by rw [← okO_some hk]; exact hO); rw [show (0 : Int) = ckE o by simp [ckE, hO]] at this; exact this⟩
theorem check_any (o : O) (w : World) (ho : o.Ok) : Calls Tryd.prog 87 #[o.val] w fun e w' => e = .returned (.int .i64 (ckE o)) ∧ Below w.heap.size w w' := by
  obtain ⟨s, c, f, h⟩ := checked_gen o ho
  have HC : Hid _ := h
  clear h
  go_enter Tryd.func87, Tryd.ntmps87
  go_wp2_with (first | (go_at_call 33; refine Calls.mono (HC.out _) ?_; rintro e w1 ⟨rfl, hb⟩; obtain ⟨-, hb0, hz⟩ := one_new w _ _ hb; have HB : Hid (Below w.heap.size w w1) := hb0; clear hb hb0))
  go_ret
  exact ⟨rfl, HB.out.trans ((Below.refl _ _).alloc (Nat.le_of_lt hz) _)⟩

end Go.Proofs.YtldfjlepbbmhnaaDoor.Op
namespace Go.Proofs.YtldfjlepbbmhnaaDoor.Op
open Go.ChangeShapes Go.WideShapes Go.ChangeAt Go.RowKit
set_option maxRecDepth 20000

abbrev K.row (k : K) : Value := .agg #[.string k.s, .int .i64 k.cls, .bool k.D, .bool k.A, .bool k.B, .bool k.N, .bool k.I]
end Go.Proofs.YtldfjlepbbmhnaaDoor.Op
namespace Go.Proofs.YtldfjlepbbmhnaaDoor.Op
open Go.ChangeShapes Go.WideShapes Go.ChangeAt Go.RowKit
set_option maxRecDepth 20000

end Go.Proofs.YtldfjlepbbmhnaaDoor.Op
namespace Go.Proofs.YtldfjlepbbmhnaaDoor.Op
open Go.ChangeShapes Go.WideShapes Go.ChangeAt Go.RowKit
set_option maxRecDepth 20000


end Go.Proofs.YtldfjlepbbmhnaaDoor.Op
namespace Go.Proofs.YtldfjlepbbmhnaaDoor.Op
open Go.ChangeShapes Go.WideShapes Go.ChangeAt Go.RowKit
set_option maxRecDepth 20000

def clB (d : Int) : Bool := match kOf d with | some k => !(k.cls == -1) | none => false
def clV (d : Int) : Int := match kOf d with | some k => if k.cls == -1 then 0 else k.cls | none => 0
theorem cls_all : (kindL.all fun k => decide (-1 ≤ k.cls ∧ k.cls ≤ 3)) = true := by decide
theorem cls_in {d : Int} {k : K} (h : kOf d = some k) : -1 ≤ k.cls ∧ k.cls ≤ 3 := by
  obtain ⟨n, hn, -, rfl⟩ := kOf_some h
  have := List.all_eq_true.1 cls_all _ (List.getElem_mem (l := kindL) hn)
  simpa using this
set_option maxHeartbeats 1000000 in
theorem class_any (d : Int) (w : World) (h0 : -128 ≤ d) (h1 : d ≤ 127) : Calls Tryd.prog 20 #[.int .i8 d] w fun e w' => e = .returned (.tuple #[.int .i64 (clV d), .bool (clB d)]) ∧ Below w.heap.size w w' := by
  cases hk : kOf d with
  | none =>
    rw [show clV d = 0 by simp [clV, hk], show clB d = false by simp [clB, hk]]
    have HC : Hid _ := fun w => kindOf_no d w h0 h1 hk
    clear h0 h1 hk
    go_enter Tryd.func20, Tryd.ntmps20
    go_wp2_with (first | (go_at_call 32; refine Calls.mono (HC.out _) ?_; rintro e w1 ⟨rfl, hb⟩))
    go_ret2
    exact ⟨rfl, hb.trans ((Below.refl _ _).alloc hb.size _)⟩
  | some k =>
    have hc := cls_in hk
    have e1 : clV d = if k.cls == -1 then 0 else k.cls := by simp [clV, hk]
    have e2 : clB d = !(k.cls == -1) := by simp [clB, hk]
    have HC : Hid _ := fun w => kindOf_yes d k w hk
    rw [e1, e2]
    clear h0 h1 hk e1 e2
    cases hm : (k.cls == -1)
    all_goals
      go_enter Tryd.func20, Tryd.ntmps20
      go_wp2_with (first | (go_at_call 32; refine Calls.mono (HC.out _) ?_; rintro e w1 ⟨rfl, hb⟩))
      go_ret2
      exact ⟨rfl, hb.trans ((Below.refl _ _).alloc hb.size _)⟩

/-- A slice of n numbers, which are f 0, f 1 and so on. -/
def SlAt (w : World) (v : Value) (n : Nat) (f : Nat → Int) : Prop :=
  (n = 0 ∧ ∃ p c, v = .slice p 0 c) ∨ ∃ b c : Nat, v = .slice (some ⟨b, 0, none⟩) n c ∧ b < w.heap.size ∧ ∀ j, j < n → w.cell? ⟨b, j, none⟩ = some (.int .u8 (f j))
theorem SlAt.on {w w' : World} {v : Value} {n : Nat} {f : Nat → Int} (h : SlAt w v n f) (hb : Below w.heap.size w w') : SlAt w' v n f := by
  rcases h with h | ⟨b, c, h1, h2, h3⟩
  · exact .inl h
  · exact .inr ⟨b, c, h1, Nat.lt_of_lt_of_le h2 hb.size, fun j hj => by rw [(bcell hb).1 _ _ h2]; exact h3 j hj⟩

end Go.Proofs.YtldfjlepbbmhnaaDoor.Op
namespace Go.Proofs.YtldfjlepbbmhnaaDoor.Op
open Go.RowKit

end Go.Proofs.YtldfjlepbbmhnaaDoor.Op
namespace Go.Proofs.YtldfjlepbbmhnaaDoor.Op
open Go.ChangeShapes Go.WideShapes Go.ChangeAt Go.RowKit

end Go.Proofs.YtldfjlepbbmhnaaDoor.Op
