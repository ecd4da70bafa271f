/- What doOperation makes of the machine: an operation is reckoned and, if it may, lands. Read off the program by the walk. Conditions: the machine and its program lie in memory. -/
import Derived.Test.YtddcndlogoajkaaGreatDoorQNb
import Derived.Deep.AppendLies
import Derived.OwnWalk
import Derived.Test.YtddcndlogoajkaaGreatDoorQRk
import Derived.Deep.RegionHeld3
namespace Go.Proofs.YtddcndlogoajkaaGreatDoor.L8.Sm
open Go.ChangeShapes Go.WideShapes Go.ChangeAt Go.RowKit
open _root_.Go.Proofs.YtddcndlogoajkaaGreatDoor.L8.Op _root_.Go.Proofs.YtddcndlogoajkaaGreatDoor.L8.So
set_option maxRecDepth 20000

/-- A list lies outside of what may turn. -/
def Far (T : Nat → Prop) (ao : Option Addr) (n : Nat) : Prop := 0 < n → ∀ a, ao = some a → ¬ T a.block
theorem opsAt_fr {T : Nat → Prop} {w w' : World} {ao : Option Addr} {xs : List O} (h : OpsAt w ao xs) (g : Fr T w w') (hf : Far T ao xs.length) : OpsAt w' ao xs := by
  refine ⟨h.ok, h.len, fun h0 => ?_⟩
  obtain ⟨b, f, e, z, hx⟩ := h.is h0
  have hT : ¬ T b := hf h0 _ e
  refine ⟨b, f, e, Nat.lt_of_lt_of_le z g.size, fun i hi => ?_⟩
  obtain ⟨c0, c1, c2, c3, c4⟩ := hx i hi
  have c := fun o => g.cell z hT o
  exact ⟨(c _).trans c0, (c _).trans c1, (c _).trans c2, (c _).trans c3, (c _).trans c4⟩
theorem far_grow {T T' : Nat → Prop} {w : World} {ao : Option Addr} {xs : List O} (h : OpsAt w ao xs) (hf : Far T ao xs.length) (ht : ∀ k, k < w.heap.size → T' k → T k) : Far T' ao xs.length := fun h0 a e hT => by
  obtain ⟨b, f, e', z, _⟩ := h.is h0
  rw [e'] at e; cases e
  exact hf h0 _ e' (ht _ z hT)
/-- A program in memory, outside of what may turn. -/
structure PIn (w : World) (T : Nat → Prop) (ao : Option Addr) (ps : List Bk) : Prop where
  len : ps.length ≤ 2199023255552
  is : 0 < ps.length → ∃ b f, ao = some ⟨b, f, none⟩ ∧ b < w.heap.size ∧ ¬ T b ∧ ∀ (i : Nat) (h : i < ps.length), ∃ p, BAt w b (f + i * 6) ps[i] p ∧ BIn w ps[i] p ∧ Far T p.oa ps[i].ops.length ∧ Far T p.ba ps[i].body.length
theorem PIn.pat {w : World} {T : Nat → Prop} {ao : Option Addr} {ps : List Bk} (h : PIn w T ao ps) : PAt w ao ps := by
  refine ⟨h.len, fun h0 => ?_⟩
  obtain ⟨b, f, e, z, -, hx⟩ := h.is h0
  refine ⟨b, f, e, z, fun i hi => ?_⟩
  obtain ⟨p, h1, h2, -⟩ := hx i hi
  exact ⟨p, h1, h2⟩
theorem PIn.fr {w w' : World} {T : Nat → Prop} {ao : Option Addr} {ps : List Bk} (h : PIn w T ao ps) (g : Fr T w w') : PIn w' T ao ps := by
  refine ⟨h.len, fun h0 => ?_⟩
  obtain ⟨b, f, e, z, hT, hx⟩ := h.is h0
  refine ⟨b, f, e, Nat.lt_of_lt_of_le z g.size, hT, fun i hi => ?_⟩
  obtain ⟨p, ⟨c0, c1, c2, c3, c4, c5⟩, h2, h3, h4⟩ := hx i hi
  have c := fun o => g.cell z hT o
  exact ⟨p, ⟨(c _).trans c0, (c _).trans c1, (c _).trans c2, (c _).trans c3, (c _).trans c4, (c _).trans c5⟩, ⟨h2.ok, opsAt_fr h2.o g h3, opsAt_fr h2.b g h4, h2.c⟩, h3, h4⟩
theorem PIn.grow {w : World} {T T' : Nat → Prop} {ao : Option Addr} {ps : List Bk} (h : PIn w T ao ps) (ht : ∀ k, k < w.heap.size → T' k → T k) : PIn w T' ao ps := by
  refine ⟨h.len, fun h0 => ?_⟩
  obtain ⟨b, f, e, z, hT, hx⟩ := h.is h0
  refine ⟨b, f, e, z, fun h' => hT (ht _ z h'), fun i hi => ?_⟩
  obtain ⟨p, h1, h2, h3, h4⟩ := hx i hi
  exact ⟨p, h1, h2, far_grow h2.o h3 ht, far_grow h2.b h4 ht⟩
theorem pin_of {w : World} {T : Nat → Prop} {ao : Option Addr} {ps : List Bk} (h : PAt w ao ps) (ht : ∀ k, k < w.heap.size → ¬ T k) : PIn w T ao ps := by
  have fa : ∀ {a : Option Addr} {xs : List O}, OpsAt w a xs → Far T a xs.length := fun {a xs} ho h0 x e hT => by
    obtain ⟨b, f, e', z, _⟩ := ho.is h0
    rw [e'] at e; cases e
    exact ht _ z hT
  refine ⟨h.len, fun h0 => ?_⟩
  obtain ⟨b, f, e, z, hx⟩ := h.is h0
  refine ⟨b, f, e, z, ht _ z, fun i hi => ?_⟩
  obtain ⟨p, h1, h2⟩ := hx i hi
  exact ⟨p, h1, h2, fa h2.o, fa h2.b⟩

/-- Numbers as cells. -/
def nums (l : List Int) : List Value := l.map fun x => .int .i64 x
/-- What may turn goes on as what may turn and what is new. -/
structure Tn (w : World) (T : Nat → Prop) (w' : World) (T' : Nat → Prop) : Prop where
  f : Fr T w w'
  t : ∀ k, T' k → T k ∨ w.heap.size ≤ k
theorem Tn.refl (w : World) (T : Nat → Prop) : Tn w T w T := ⟨Fr.refl _ _, fun _ h => .inl h⟩
theorem Tn.of {w w' : World} {T : Nat → Prop} (h : Below w.heap.size w w') : Tn w T w' T := ⟨Fr.of h, fun _ h => .inl h⟩
theorem Tn.trans {a b c : World} {T U V : Nat → Prop} (h : Tn a T b U) (g : Tn b U c V) : Tn a T c V :=
  ⟨h.f.trans g.f fun k hk hU => (h.t k hU).elim id fun h' => by omega, fun k hV => (g.t k hV).elim (h.t k) fun h' => .inr (Nat.le_trans h.f.size h')⟩
theorem Tn.then {a b c : World} {T U : Nat → Prop} (h : Tn a T b U) (g : Below b.heap.size b c) : Tn a T c U := h.trans (Tn.of g)
theorem Tn.below {a b : World} {T U : Nat → Prop} {B : Nat} (h : Tn a T b U) (hB : B ≤ a.heap.size) (ht : ∀ k, k < B → ¬ T k) : Below B a b := h.f.below hB ht

/-- The program's machine, with its program; T: what it may turn. -/
structure MR (w : World) (q : Nat) (ps : List Bk) (T : Nat → Prop) (M : Ma) : Prop where
  ex : ∃ ba bc po pc, MAt w q ba ps.length bc po pc M ∧ PIn w (fun k => T k ∨ q ≤ k) ba ps ∧ w.ownsRow (q + 1) 2 1 (.slice po M.pr.length pc) M.pr.length (nums M.pr) ∧ ∀ a, po = some a → T a.block
  tq : T q
  tl : ∀ k, T k → k < w.heap.size
structure MM (w : World) (q : Nat) (ps : List Bk) (T : Nat → Prop) (M : Ma) : Prop where
  mr : MR w q ps T M
  inv : Inv ps M
  ps : PsM ps
theorem row_fr {T : Nat → Prop} {w w' : World} {B : Nat} {e : TypeId} {z : Nat} {v : Value} {n : Nat} {xs : List Value} (h : w.ownsRow B e z v n xs) (g : Fr T w w') (hT : ∀ k, v.ownBlock = some k → ¬ T k) : w'.ownsRow B e z v n xs := by
  refine ⟨h.1, h.2.imp id ?_⟩
  rintro ⟨b, cap, cur, rfl, h2, h3, h4⟩
  have hz : b < w.heap.size := (h.lt b rfl).2
  exact ⟨b, cap, cur, rfl, h2, by rw [g.block b hz (hT b rfl)]; exact h3, h4⟩
theorem row_up {w w' : World} {B : Nat} {e : TypeId} {z : Nat} {v : Value} {n : Nat} {xs : List Value} (h : w.ownsRow B e z v n xs) (hb : Below w.heap.size w w') : w'.ownsRow B e z v n xs := row_fr h (Fr.of (X := Non) hb) fun _ _ hk => hk
theorem MR.fr {w w' : World} {q : Nat} {ps : List Bk} {T X : Nat → Prop} {M : Ma} (h : MR w q ps T M) (g : Fr X w w') (hx : ∀ k, k < w.heap.size → X k → False) : MR w' q ps T M := by
  have hb : Below w.heap.size w w' := g.below (Nat.le_refl _) fun k hk hX => hx k hk hX
  obtain ⟨ba, bc, po, pc, h1, h2, h3, h4⟩ := h.ex
  exact ⟨⟨ba, bc, po, pc, h1.up hb, h2.fr (Fr.of hb), row_up h3 hb, h4⟩, h.tq, fun k hk => Nat.lt_of_lt_of_le (h.tl k hk) hb.size⟩
theorem MR.up {w w' : World} {q : Nat} {ps : List Bk} {T : Nat → Prop} {M : Ma} (h : MR w q ps T M) (hb : Below w.heap.size w w') : MR w' q ps T M := h.fr (Fr.of (X := Non) hb) fun _ _ hk => hk
/-- What turns another's leaves this one: a program lies outside of what its machine may turn, and ahead of it. -/
theorem MR.apart {w w' : World} {q : Nat} {ps : List Bk} {T X : Nat → Prop} {M : Ma} (h : MR w q ps T M) (g : Fr X w w') (hx : ∀ k, T k → ¬ X k) (hp : ∀ k, k < w.heap.size → X k → q ≤ k ∨ ∀ j i, w.cell? ⟨k, j, none⟩ ≠ some (.int .i8 i)) : MR w' q ps T M := by
  obtain ⟨ba, bc, po, pc, h1, h2, h3, h4⟩ := h.ex
  have fa : ∀ {a : Option Addr} {xs : List O}, OpsAt w a xs → Far (fun k => T k ∨ q ≤ k) a xs.length → Far X a xs.length := fun {a xs} ho hf h0 x e hx => by
    obtain ⟨b, f, e', z, hc⟩ := ho.is h0
    rw [e'] at e; cases e
    rcases hp b z hx with hq | hq
    · exact hf h0 _ e' (.inr hq)
    · exact hq _ _ (hc 0 h0).c0
  have h2' : PIn w' (fun k => T k ∨ q ≤ k) ba ps := by
    have hA : PIn w (fun k => (T k ∨ q ≤ k) ∨ X k) ba ps := by
      refine ⟨h2.len, fun h0 => ?_⟩
      obtain ⟨b, f, e, z, hT, hc⟩ := h2.is h0
      refine ⟨b, f, e, z, fun h => h.elim hT fun hX => ?_, fun i hi => ?_⟩
      · rcases hp b z hX with hq | hq
        · exact hT (.inr hq)
        · obtain ⟨p, k1, -⟩ := hc 0 h0
          exact hq _ _ k1.c1
      · obtain ⟨p, k1, k2, k3, k4⟩ := hc i hi
        exact ⟨p, k1, k2, fun h a ha hh => hh.elim (k3 h a ha) (fa k2.o k3 h a ha), fun h a ha hh => hh.elim (k4 h a ha) (fa k2.b k4 h a ha)⟩
    exact (hA.fr (g.mono fun _ _ h => .inr h)).grow fun _ _ h => .inl h
  refine ⟨⟨ba, bc, po, pc, h1.fr g (hx q h.tq), h2', row_fr h3 g fun k hk => ?_, h4⟩, h.tq, fun k hk => Nat.lt_of_lt_of_le (h.tl k hk) g.size⟩
  cases po with
  | none => simp [Value.ownBlock] at hk
  | some a =>
    simp only [Value.ownBlock, Option.some.injEq] at hk
    subst hk
    exact hx _ (h4 a rfl)
theorem MM.up {w w' : World} {q : Nat} {ps : List Bk} {T : Nat → Prop} {M : Ma} (h : MM w q ps T M) (hb : Below w.heap.size w w') : MM w' q ps T M := ⟨h.mr.up hb, h.inv, h.ps⟩
theorem MM.apart {w w' : World} {q : Nat} {ps : List Bk} {T X : Nat → Prop} {M : Ma} (h : MM w q ps T M) (g : Fr X w w') (hx : ∀ k, T k → ¬ X k) (hp : ∀ k, k < w.heap.size → X k → q ≤ k ∨ ∀ j i, w.cell? ⟨k, j, none⟩ ≠ some (.int .i8 i)) : MM w' q ps T M := ⟨h.mr.apart g hx hp, h.inv, h.ps⟩
end Go.Proofs.YtddcndlogoajkaaGreatDoor.L8.Sm
namespace Go.Proofs.YtddcndlogoajkaaGreatDoor.L8.Sm
open Go.ChangeShapes Go.WideShapes Go.ChangeAt Go.RowKit
open _root_.Go.Proofs.YtddcndlogoajkaaGreatDoor.L8.Op _root_.Go.Proofs.YtddcndlogoajkaaGreatDoor.L8.So
set_option maxRecDepth 20000

theorem ret_ptr {q a b : Nat} (h : a = b) : Ending.returned (.pointer (some ⟨q, a, none⟩)) = .returned (.pointer (some ⟨q, b, none⟩)) := by rw [h]
theorem wrap_cell (a im : Int) : 73 + (wrap64 (a + im) % 256).toNat = 73 + cellN a im := by unfold cellN wrap64; omega
abbrev ptr (q : Nat) : Value := .pointer (some ⟨q, 0, none⟩)
theorem below_ad (w : World) (o : Obj) : Below w.heap.size w (w.alloc o).drew := ⟨rfl, rfl, rfl, by simp [World.drew], fun k hk => ((Below.refl w.heap.size w).alloc (Nat.le_refl _) o).block k hk⟩
section
variable {w : World} {q bl bc pc : Nat} {ba po : Option Addr} {M : Ma}
theorem number_any (o : O) (w : World) : Calls Tryz.prog 50 #[ptr q, o.val] w fun e w' => e = .returned (.int .i64 o.im) ∧ Below w.heap.size w w' := by
  go_enter Tryz.func50, Tryz.ntmps50
  go_wp2_with fail
  go_ret
  exact ⟨rfl, by go_grown⟩
set_option maxHeartbeats 1000000 in
theorem first_any (o : O) (h : MAt w q ba bl bc po pc M) (ho : OkM o) : Calls Tryz.prog 55 #[ptr q, o.val] w fun e w' => e = .returned (.int .i64 (M.r o.a.toNat)) ∧ Below w.heap.size w w' := by
  have hr := h.r o.a.toNat (by have := ho.a; omega)
  have hq := h.lt
  have h0 := ho.a.1
  have h1 : o.a < 32 := by have := ho.a; omega
  clear h ho
  go_enter Tryz.func55, Tryz.ntmps55
  go_wp2_with fail
  go_quiet (fail)
  go_wp2_with fail
  go_ret
  exact ⟨rfl, drewN_below (by go_grown) _⟩
set_option maxHeartbeats 1000000 in
theorem second_any (o : O) (h : MAt w q ba bl bc po pc M) (ho : OkM o) : Calls Tryz.prog 53 #[ptr q, o.val] w fun e w' => e = .returned (.int .i64 (M.r o.b.toNat)) ∧ Below w.heap.size w w' := by
  have hr := h.r o.b.toNat (by have := ho.b; omega)
  have hq := h.lt
  have h0 := ho.b.1
  have h1 : o.b < 32 := by have := ho.b; omega
  clear h ho
  go_enter Tryz.func53, Tryz.ntmps53
  go_wp2_with fail
  go_quiet (fail)
  go_wp2_with fail
  go_ret
  exact ⟨rfl, drewN_below (by go_grown) _⟩
set_option maxHeartbeats 1000000 in
theorem cell_any (o : O) (h : MAt w q ba bl bc po pc M) (ho : OkM o) : Calls Tryz.prog 78 #[ptr q, o.val] w fun e w' => e = .returned (.pointer (some ⟨q, 73 + cellN (M.r o.a.toNat) o.im, none⟩)) ∧ Below w.heap.size w w' := by
  have hr := h.r o.a.toNat (by have := ho.a; omega)
  have hq := h.lt
  have h0 := ho.a.1
  have h1 : o.a < 32 := by have := ho.a; omega
  have HC : Hid (73 + (wrap64 (M.r o.a.toNat + o.im) % 256).toNat = 73 + cellN (M.r o.a.toNat) o.im) := wrap_cell _ _
  clear h ho
  generalize M.r o.a.toNat = v at *
  go_enter Tryz.func78, Tryz.ntmps78
  go_wp2_with fail
  go_quiet (fail)
  go_wp2_with fail
  go_ret
  exact ⟨ret_ptr HC.out, drewN_below (by go_grown) _⟩
set_option maxHeartbeats 1000000 in
theorem loaded_any (o : O) (h : MAt w q ba bl bc po pc M) (ho : OkM o) : Calls Tryz.prog 52 #[ptr q, o.val] w fun e w' => e = .returned (.int .i64 (M.m (cellN (M.r o.a.toNat) o.im))) ∧ Below w.heap.size w w' := by
  have HC : Hid (∀ W, Below w.heap.size w W → Calls Tryz.prog 78 #[ptr q, o.val] W fun e w' => e = .returned (.pointer (some ⟨q, 73 + cellN (M.r o.a.toNat) o.im, none⟩)) ∧ Below W.heap.size W w') := fun W hb => cell_any o (h.up hb) ho
  have HM : Hid _ := h
  have hlt := cellN_lt (M.r o.a.toNat) o.im
  clear h ho
  generalize cellN (M.r o.a.toNat) o.im = c at *
  go_enter Tryz.func52, Tryz.ntmps52
  go_wp2_with (first | (go_at_call 78; refine Calls.mono (HC.out _ (by go_grown)) ?_; rintro e w1 ⟨rfl, hb⟩; obtain ⟨-, hb0, hz⟩ := one_new w _ _ hb; have HB : Hid (Below w.heap.size w w1) := hb0; have hm := (HM.out.up hb0).m c hlt; clear hb hb0))
  go_ret
  exact ⟨rfl, HB.out⟩
set_option maxHeartbeats 2000000 in
theorem reckoned_ok (o : O) (h : MAt w q ba bl bc po pc M) (ho : OkM o) (hi : In64 (M.r o.a.toNat)) (he : rkE o.op (M.r o.b.toNat) = 0) : Calls Tryz.prog 61 #[ptr q, o.val] w fun e w' => e = .returned (.int .i64 (rkV o.op (M.r o.a.toNat) (M.r o.b.toNat))) ∧ Below w.heap.size w w' := by
  have hr := h.r o.a.toNat (by have := ho.a; omega)
  have hs := h.r o.b.toNat (by have := ho.b; omega)
  have hq := h.lt
  have h0 := ho.a.1
  have h1 : o.a < 32 := by have := ho.a; omega
  have h2 := ho.b.1
  have h3 : o.b < 32 := by have := ho.b; omega
  have HR : Hid (∀ W, Calls Tryz.prog 79 #[.int .i8 o.op, .int .i64 (M.r o.a.toNat), .int .i64 (M.r o.b.toNat)] W fun e w' => e = .returned (.tuple #[.int .i64 (rkV o.op (M.r o.a.toNat) (M.r o.b.toNat)), .int .i64 0]) ∧ w' = W) := fun W => by
    have := rk_any o.op (M.r o.a.toNat) (M.r o.b.toNat) W hi.1 hi.2
    rw [he] at this; exact this
  clear h ho hi he
  generalize rkV o.op (M.r o.a.toNat) (M.r o.b.toNat) = x at *
  generalize M.r o.a.toNat = va at *
  generalize M.r o.b.toNat = vb at *
  go_enter Tryz.func61, Tryz.ntmps61
  go_wp2_with fail
  go_quiet (first | (go_at_call 79; refine Calls.quiet_of_same (HR.out _)))
  go_wp2_with fail
  go_ret
  exact ⟨rfl, drewN_below (by go_grown) _⟩
set_option maxHeartbeats 2000000 in
theorem reckoned_trap (o : O) (h : MAt w q ba bl bc po pc M) (ho : OkM o) (hi : In64 (M.r o.a.toNat)) (he : rkE o.op (M.r o.b.toNat) = 101) : Calls Tryz.prog 61 #[ptr q, o.val] w fun e w' => e = .panicked [{ v := .iface 113 (.agg #[.int .i64 101]), recovered := false }] ∧ Below w.heap.size w w' := by
  have hr := h.r o.a.toNat (by have := ho.a; omega)
  have hs := h.r o.b.toNat (by have := ho.b; omega)
  have hq := h.lt
  have h0 := ho.a.1
  have h1 : o.a < 32 := by have := ho.a; omega
  have h2 := ho.b.1
  have h3 : o.b < 32 := by have := ho.b; omega
  have HR : Hid (∀ W, Calls Tryz.prog 79 #[.int .i8 o.op, .int .i64 (M.r o.a.toNat), .int .i64 (M.r o.b.toNat)] W fun e w' => e = .returned (.tuple #[.int .i64 (rkV o.op (M.r o.a.toNat) (M.r o.b.toNat)), .int .i64 101]) ∧ w' = W) := fun W => by
    have := rk_any o.op (M.r o.a.toNat) (M.r o.b.toNat) W hi.1 hi.2
    rw [he] at this; exact this
  clear h ho hi he
  generalize rkV o.op (M.r o.a.toNat) (M.r o.b.toNat) = x at *
  generalize M.r o.a.toNat = va at *
  generalize M.r o.b.toNat = vb at *
  go_enter Tryz.func61, Tryz.ntmps61
  go_wp2_with fail
  go_quiet (first | (go_at_call 79; refine Calls.quiet_of_same (HR.out _)))
  go_wp2_with fail
  exact ⟨rfl, rfl, drewN_below (by go_grown) _⟩
set_option maxHeartbeats 2000000 in
theorem toRegister_any (o : O) (v : Int) (h : MAt w q ba bl bc po pc M) (ho : OkM o) : Calls Tryz.prog 51 #[ptr q, o.val, .int .i64 v] w fun e w' => e = .returned (.tuple #[]) ∧ MAt w' q ba bl bc po pc { M with r := upd M.r o.d.toNat v } ∧ Fr (One q) w w' := by
  have hl : o.d.toNat < 32 := by have := ho.d; omega
  have hr := h.r o.d.toNat hl
  have hf := h.fz (41 + o.d.toNat)
  have hq := h.lt
  have h0 := ho.d.1
  have h1 : o.d < 32 := by have := ho.d; omega
  have HM : Hid _ := h
  clear h ho
  go_enter Tryz.func51, Tryz.ntmps51
  go_wp2_with fail
  go_region
  all_goals
    go_wp2_with fail
    go_end0
    exact ⟨rfl, (HM.out.set_r hl v).up (below_ad _ _), ((Fr.refl (One q) w).setCell (.inr rfl) _ _).then (below_ad _ _)⟩
set_option maxHeartbeats 2000000 in
theorem toCell_any (o : O) (v : Int) (h : MAt w q ba bl bc po pc M) (ho : OkM o) : Calls Tryz.prog 54 #[ptr q, o.val, .int .i64 v] w fun e w' => e = .returned (.tuple #[]) ∧ MAt w' q ba bl bc po pc { M with m := upd M.m (cellN (M.r o.a.toNat) o.im) v } ∧ Fr (One q) w w' := by
  have HC : Hid (∀ W, Below w.heap.size w W → Calls Tryz.prog 78 #[ptr q, o.val] W fun e w' => e = .returned (.pointer (some ⟨q, 73 + cellN (M.r o.a.toNat) o.im, none⟩)) ∧ Below W.heap.size W w') := fun W hb => cell_any o (h.up hb) ho
  have HM : Hid _ := h
  have hlt := cellN_lt (M.r o.a.toNat) o.im
  clear h ho
  generalize cellN (M.r o.a.toNat) o.im = c at *
  go_enter Tryz.func54, Tryz.ntmps54
  go_wp2_with (first | (go_at_call 78; refine Calls.mono (HC.out _ (by go_grown)) ?_; rintro e w1 ⟨rfl, hb⟩; obtain ⟨-, hb0, hz⟩ := one_new w _ _ hb; have HB : Hid (Below w.heap.size w w1) := hb0; have hm := (HM.out.up hb0).m c hlt; have hq := (HM.out.up hb0).lt; have hf := (HM.out.up hb0).fz (73 + c); clear hb hb0))
  go_end0
  exact ⟨rfl, (HM.out.up HB.out).set_m hlt v, (Fr.of (X := One q) HB.out).setCell (.inr rfl) _ _⟩
/-- What was printed, in a row of its own. -/
structure Pr (w : World) (q : Nat) (po : Option Addr) (pc : Nat) (l : List Int) : Prop where
  r : w.ownsRow (q + 1) 2 1 (.slice po l.length pc) l.length (nums l)
/-- A print on its way. -/
structure Pp (w w' : World) (q : Nat) (po : Option Addr) (g cap : Nat) (l : List Int) : Prop where
  row : w'.ownsRow (q + 1) 2 1 (.slice (some ⟨g, 0, none⟩) l.length cap) l.length (nums l)
  fr : Fr (fun k => ∃ a, po = some a ∧ a.block = k) w w'
  own : (∃ a, po = some a ∧ a.block = g) ∨ w.heap.size ≤ g
theorem fr_grown {X : Nat → Prop} {w w' : World} {row : Option Nat} (h : w.grownBy w' row) (hr : ∀ b, row = some b → X b) : Fr X w w' :=
  ⟨h.os, h.tape, h.output, h.size, fun k hk hx => h.block k hk fun e => hx (hr k e.symm)⟩
theorem Pp.mat {w w' : World} {q bl bc pc g cap : Nat} {ba po : Option Addr} {l : List Int} {M : Ma} (h : Pp w w' q po g cap l) (hm : MAt w q ba bl bc po pc M) (hr : Pr w q po pc M.pr) : MAt w' q ba bl bc po pc M := by
  refine hm.fr h.fr ?_
  rintro ⟨a, rfl, e⟩
  have := (hr.r.lt q (by simp [Value.ownBlock, e])).1
  omega
theorem pp_of {w W w3 : World} {q pc g cap : Nat} {po : Option Addr} {l : List Int} {v : Int} (hW : Below w.heap.size w W) (hgrow : W.grownBy w3 (Value.slice po l.length pc).ownBlock) (hg : (Value.slice po l.length pc).ownBlock = some g ∨ g = W.heap.size)
    (hown : w3.ownsRow (q + 1) 2 1 (.slice (some ⟨g, 0, none⟩) (l.length + 1) cap) (l.length + 1) (nums l ++ [.int .i64 v])) : Pp w w3 q po g cap (l ++ [v]) := by
  have e : (l ++ [v]).length = l.length + 1 := by simp
  have e2 : nums (l ++ [v]) = nums l ++ [.int .i64 v] := by simp [nums]
  refine ⟨by rw [e, e2]; exact hown, ?_, ?_⟩
  · refine (Fr.of hW).trans (Y := fun k => ∃ a, po = some a ∧ a.block = k) (fr_grown hgrow fun b hb => ?_) fun k _ h => h
    cases po with
    | none => simp [Value.ownBlock] at hb
    | some a => simp only [Value.ownBlock, Option.some.injEq] at hb; exact ⟨a, rfl, hb⟩
  · rcases hg with hg | hg
    · left
      cases po with
      | none => simp [Value.ownBlock] at hg
      | some a => simp only [Value.ownBlock, Option.some.injEq] at hg; exact ⟨a, rfl, hg⟩
    · right; rw [hg]; exact hW.size
theorem row_set' {w : World} {B : Nat} {e : TypeId} {z : Nat} {v : Value} {n : Nat} {xs : List Value} (h : w.ownsRow B e z v n xs) {b j : Nat} (hb : b < B) (u : Value) : (w.setCell ⟨b, j, none⟩ u).ownsRow B e z v n xs :=
  row_fr h ((Fr.refl (One b) w).setCell (.inr rfl) j u) fun k hk e => by
    have := (h.lt k hk).1
    omega
theorem info2 : (Tryz.prog.info? 2).map (fun i => (i.zero, i.size, i.bytes)) = some (some (.int .i64 0), 1, 8) := by kernel_rfl
set_option maxHeartbeats 2000000 in
theorem toPrints_any (o : O) (v : Int) (h : MAt w q ba bl bc po pc M) (hl : M.pr.length < 1099511627776) (hr : w.ownsRow (q + 1) 2 1 (.slice po M.pr.length pc) M.pr.length (nums M.pr)) :
    Calls Tryz.prog 56 #[ptr q, o.val, .int .i64 v] w fun e w' => e = .returned (.tuple #[]) ∧ ∃ g cap, MAt w' q ba bl bc (some ⟨g, 0, none⟩) cap { M with pr := M.pr ++ [v] } ∧ w'.ownsRow (q + 1) 2 1 (.slice (some ⟨g, 0, none⟩) (M.pr ++ [v]).length cap) (M.pr ++ [v]).length (nums (M.pr ++ [v])) ∧ Fr (fun k => k = q ∨ ∃ a, po = some a ∧ a.block = k) w w' ∧ ((∃ a, po = some a ∧ a.block = g) ∨ w.heap.size ≤ g) := by
  obtain ⟨i0, hi, hi2⟩ := Option.map_eq_some_iff.1 info2
  simp only [Prod.mk.injEq] at hi2
  obtain ⟨hz0, hz1, hz2⟩ := hi2
  have HI : Hid (Tryz.prog.info? 2 = some i0 ∧ i0.zero = some (.int .i64 0) ∧ i0.size = 1 ∧ i0.bytes = 8) := ⟨hi, hz0, hz1, hz2⟩
  clear hi hz0 hz1 hz2
  have HR : Hid (Pr w q po pc M.pr) := ⟨hr⟩
  have HM : Hid _ := h
  have hp := h.p
  have hq := h.lt
  have hf := h.fz 335
  clear h hr
  go_enter Tryz.func56, Tryz.ntmps56
  go_wp2_with (first
    | (at_builtin; refine wpList_append_lies _ rfl _ _ 33 rfl (q + 1) 2 i0 (.int .i64 0) 1 8 Tryz.underlying33 HI.out.1 HI.out.2.1 HI.out.2.2.1 HI.out.2.2.2 rfl (by decide) _ _ _ rfl ((HR.out.r.alloc _).alloc _) ⟨w.heap.size + 1, 0, none⟩ 1 1 [.int .i64 v] rfl rfl ?hn (by simp [Value.oneCell']) (by decide) (by unfold maxLen; omega) (by omega) (by simp; omega) _ rfl ?_; (case hn => (have := World.news_of_block (heap_alloc_new (w.alloc (.cells #[.int .i8 o.op, .int .u8 o.d, .int .u8 o.a, .int .u8 o.b, .int .i64 o.im] 51)) (.cells #[.int .i64 v] 2)); simpa using this)); intro g cap w3 hown hgrow hg hlt; have HP : Hid (Pp w w3 q po g cap (M.pr ++ [v])) := pp_of (by go_grown) hgrow hg hown; have h3 := HP.out.mat HM.out HR.out; have hp3 := h3.p; have hq3 := h3.lt; have hf3 := h3.fz 335; clear h3 hown hgrow hg hlt hp))
  go_end0
  have e : (M.pr ++ [v]).length = M.pr.length + 1 := by simp
  have hs := (HP.out.mat HM.out HR.out).set_p (some ⟨g, 0, none⟩) cap (M.pr ++ [v])
  rw [e] at hs
  exact ⟨rfl, g, cap, hs, row_set' HP.out.row (by omega) _, (HP.out.fr.mono fun _ _ h => .inr h).setCell (.inr (.inl rfl)) _ _, HP.out.own⟩
/-! ### ends -/
variable {bb bf : Nat} {x : Bk} {p : Pl}
theorem toM_nat {t : Int} (h : 0 ≤ t) : ((t.toNat : Nat) : Int) = t := by omega
theorem to_mem (h : MAt w q ba bl bc po pc M) {t : Int} (ht : 0 ≤ t) : MAt (((w.setCell ⟨q, 329, none⟩ (.int .i64 t)).setCell ⟨q, 330, none⟩ (.bool false)).setCell ⟨q, 331, none⟩ (.int .i64 0)) q ba bl bc po pc (toM t M) := by
  have := ((h.set_b t.toNat).set_y false).set_o 0
  rw [toM_nat ht] at this
  exact this
theorem to_fr {w0 w : World} (h : Fr (One q) w0 w) (t b n : Value) : Fr (One q) w0 (((w.setCell ⟨q, 329, none⟩ t).setCell ⟨q, 330, none⟩ b).setCell ⟨q, 331, none⟩ n) := ((h.setCell (.inr rfl) _ _).setCell (.inr rfl) _ _).setCell (.inr rfl) _ _
theorem drew_up (w : World) : Below w.heap.size w w.drew := ⟨rfl, rfl, rfl, Nat.le_refl _, fun _ _ => rfl⟩
theorem drewN_up (w : World) (n : Nat) : Below w.heap.size w (w.drewN n) := drewN_below (Below.refl _ _) n
set_option maxHeartbeats 2000000 in
theorem jump_any (h : MAt w q ba bl bc po pc M) (hb : BAt w bb bf x p) (ht : 0 ≤ x.thn) : Calls Tryz.prog 57 #[ptr q, .pointer (some ⟨bb, bf, none⟩)] w fun e w' => e = .returned (.tuple #[]) ∧ MAt w' q ba bl bc po pc (toM x.thn M) ∧ Fr (One q) w w' := by
  have c2 := hb.c2
  have c4 := hb.c4
  have c5 := hb.c5
  have a0 := h.b
  have a1 := h.y
  have a2 := h.o
  have f0 := h.fz 329
  have f1 := h.fz 330
  have f2 := h.fz 331
  have hq := h.lt
  have HM : Hid _ := h
  clear h hb
  go_enter Tryz.func57, Tryz.ntmps57
  go_wp2_with fail
  go_end0
  exact ⟨rfl, to_mem HM.out ht, to_fr (Fr.refl _ _) _ _ _⟩
set_option maxHeartbeats 4000000 in
theorem branch_any (h : MAt w q ba bl bc po pc M) (hb : BAt w bb bf x p) (hne : ¬ bb = q) (ht : 0 ≤ x.thn) (he : 0 ≤ x.els) (ha : 0 ≤ x.a ∧ x.a ≤ 31) : Calls Tryz.prog 58 #[ptr q, .pointer (some ⟨bb, bf, none⟩)] w fun e w' => e = .returned (.tuple #[]) ∧ MAt w' q ba bl bc po pc (toM (if M.r x.a.toNat = 0 then x.els else x.thn) M) ∧ Fr (One q) w w' := by
  have c2 := hb.c2
  have c4 := hb.c4
  have c5 := hb.c5
  have a0 := h.b
  have a1 := h.y
  have a2 := h.o
  have f0 := h.fz 329
  have f1 := h.fz 330
  have f2 := h.fz 331
  have hq := h.lt
  have HM : Hid _ := h
  have hr := h.r x.a.toNat (by omega)
  have r0 := ha.1
  have r1 : x.a < 32 := by omega
  have hne' : ¬ q = bb := fun e => hne e.symm
  clear h hb ha
  by_cases h0 : M.r x.a.toNat = 0
  · rw [if_pos h0]
    rw [h0] at hr
    go_enter Tryz.func58, Tryz.ntmps58
    go_wp2_with fail
    go_quiet (fail)
    go_wp2_with fail
    go_end0
    exact ⟨rfl, (to_mem HM.out he).up (drewN_up _ _), (to_fr (Fr.refl _ _) _ _ _).then (drewN_up _ _)⟩
  · rw [if_neg h0]
    have h0' : (M.r x.a.toNat == 0) = false := by simpa using h0
    generalize M.r x.a.toNat = rv at *
    go_enter Tryz.func58, Tryz.ntmps58
    go_wp2_with fail
    go_quiet (fail)
    go_wp2_with fail
    go_end0
    exact ⟨rfl, to_mem ((to_mem HM.out he).up (drewN_up _ _)) ht, to_fr ((to_fr (Fr.refl _ _) _ _ _).then (drewN_up _ _)) _ _ _⟩
set_option maxHeartbeats 4000000 in
theorem halt_any (h : MAt w q ba bl bc po pc M) (hb : BAt w bb bf x p) (hne : ¬ bb = q) (ha : 0 ≤ x.a ∧ x.a ≤ 31) : Calls Tryz.prog 59 #[ptr q, .pointer (some ⟨bb, bf, none⟩)] w fun e w' => e = .returned (.tuple #[]) ∧ MAt w' q ba bl bc po pc { M with e := 0, v := M.r x.a.toNat } ∧ Fr (One q) w w' := by
  have c2 := hb.c2
  have a0 := h.e
  have a1 := h.v
  have f0 := h.fz 333
  have f1 := h.fz 334
  have hq := h.lt
  have HM : Hid _ := h
  have hr := h.r x.a.toNat (by omega)
  have r0 := ha.1
  have r1 : x.a < 32 := by omega
  have hne' : ¬ q = bb := fun e => hne e.symm
  clear h hb ha
  go_enter Tryz.func59, Tryz.ntmps59
  go_wp2_with fail
  go_big_region
  all_goals
    go_wp2_with fail
    go_end0
    exact ⟨rfl, ((HM.out.set_e 0).set_v _).up (drew_up _), (((Fr.refl (One q) w).setCell (.inr rfl) _ _).setCell (.inr rfl) _ _).then (drew_up _)⟩
/-- What comes of a loop's end when so many rounds are left. -/
def loopM (x : Bk) (n : Int) (M : Ma) : Ma := if 0 < n then { M with n := n, y := true, o := 0 } else toM x.thn { M with n := n }
set_option maxHeartbeats 4000000 in
theorem loop_body (h : MAt w q ba bl bc po pc M) (hb : BAt w bb bf x p) (hne : ¬ bb = q) (ht : 0 ≤ x.thn) (ha : 0 ≤ x.a ∧ x.a ≤ 31) (hy : M.y = true) : Calls Tryz.prog 60 #[ptr q, .pointer (some ⟨bb, bf, none⟩)] w fun e w' => e = .returned (.tuple #[]) ∧ MAt w' q ba bl bc po pc (loopM x (wrap64 (M.n - 1)) M) ∧ Fr (One q) w w' := by
  have c2 := hb.c2
  have c4 := hb.c4
  have a0 := h.b
  have a1 := h.y
  have a2 := h.o
  have a3 := h.n
  have f0 := h.fz 329
  have f1 := h.fz 330
  have f2 := h.fz 331
  have f3 := h.fz 332
  have hq := h.lt
  have HM : Hid _ := h
  have hr := h.r x.a.toNat (by omega)
  have r0 := ha.1
  have r1 : x.a < 32 := by omega
  have hne' : ¬ q = bb := fun e => hne e.symm
  clear h hb ha
  rw [hy] at a1
  unfold loopM
  by_cases h0 : 0 < wrap64 (M.n - 1)
  · rw [if_pos h0]
    go_enter Tryz.func60, Tryz.ntmps60
    go_wp2_with fail
    go_end0
    exact ⟨rfl, (((HM.out.set_n (wrap64 (M.n - 1))).set_b M.b).set_y true).set_o 0, to_fr ((Fr.refl (One q) w).setCell (.inr rfl) _ _) _ _ _⟩
  · rw [if_neg h0]
    go_enter Tryz.func60, Tryz.ntmps60
    go_wp2_with fail
    go_end0
    exact ⟨rfl, to_mem (HM.out.set_n (wrap64 (M.n - 1))) ht, to_fr ((Fr.refl (One q) w).setCell (.inr rfl) _ _) _ _ _⟩
set_option maxHeartbeats 4000000 in
theorem loop_ops (h : MAt w q ba bl bc po pc M) (hb : BAt w bb bf x p) (hne : ¬ bb = q) (ht : 0 ≤ x.thn) (ha : 0 ≤ x.a ∧ x.a ≤ 31) (hy : M.y = false) : Calls Tryz.prog 60 #[ptr q, .pointer (some ⟨bb, bf, none⟩)] w fun e w' => e = .returned (.tuple #[]) ∧ MAt w' q ba bl bc po pc (loopM x (max (M.r x.a.toNat) 0) M) ∧ Fr (One q) w w' := by
  have c2 := hb.c2
  have c4 := hb.c4
  have a0 := h.b
  have a1 := h.y
  have a2 := h.o
  have a3 := h.n
  have f0 := h.fz 329
  have f1 := h.fz 330
  have f2 := h.fz 331
  have f3 := h.fz 332
  have hq := h.lt
  have HM : Hid _ := h
  have hr := h.r x.a.toNat (by omega)
  have r0 := ha.1
  have r1 : x.a < 32 := by omega
  have hne' : ¬ q = bb := fun e => hne e.symm
  clear h hb ha
  rw [hy] at a1
  unfold loopM
  rcases Int.lt_trichotomy (M.r x.a.toNat) 0 with h0 | h0 | h0
  · rw [if_neg (by omega), show max (M.r x.a.toNat) 0 = 0 by omega]
    generalize M.r x.a.toNat = rv at *
    go_enter Tryz.func60, Tryz.ntmps60
    go_wp2_with fail
    go_big_region
    all_goals
      go_wp2_with fail
      go_end0
      exact ⟨rfl, (to_mem (HM.out.set_n 0) ht).up (drew_up _), (to_fr ((Fr.refl (One q) w).setCell (.inr rfl) _ _) _ _ _).then (drew_up _)⟩
  · rw [if_neg (by omega), show max (M.r x.a.toNat) 0 = 0 by omega]
    rw [h0] at hr
    clear h0
    go_enter Tryz.func60, Tryz.ntmps60
    go_wp2_with fail
    go_big_region
    all_goals
      go_wp2_with fail
      go_end0
      exact ⟨rfl, (to_mem (HM.out.set_n 0) ht).up (drew_up _), (to_fr ((Fr.refl (One q) w).setCell (.inr rfl) _ _) _ _ _).then (drew_up _)⟩
  · rw [if_pos (by omega), show max (M.r x.a.toNat) 0 = M.r x.a.toNat by omega]
    generalize M.r x.a.toNat = rv at *
    have h1 : ¬ rv < 0 := by omega
    go_enter Tryz.func60, Tryz.ntmps60
    go_wp2_with fail
    go_big_region
    all_goals
      go_wp2_with fail
      go_end0
      exact ⟨rfl, ((((HM.out.set_n rv).set_b M.b).set_y true).set_o 0).up (drew_up _), (to_fr ((Fr.refl (One q) w).setCell (.inr rfl) _ _) _ _ _).then (drew_up _)⟩
end
end Go.Proofs.YtddcndlogoajkaaGreatDoor.L8.Sm
namespace Go.Proofs.YtddcndlogoajkaaGreatDoor.L8.Sm
open Go.ChangeShapes Go.WideShapes Go.ChangeAt Go.RowKit
open _root_.Go.Proofs.YtddcndlogoajkaaGreatDoor.L8.Op _root_.Go.Proofs.YtddcndlogoajkaaGreatDoor.L8.So
set_option maxRecDepth 20000

theorem mr_one {w w' : World} {q bc pc : Nat} {ps : List Bk} {T : Nat → Prop} {M M' : Ma} {ba po : Option Addr} (hP : PIn w (fun k => T k ∨ q ≤ k) ba ps) (hR : w.ownsRow (q + 1) 2 1 (.slice po M.pr.length pc) M.pr.length (nums M.pr)) (hT : ∀ a, po = some a → T a.block) (tq : T q) (tl : ∀ k, T k → k < w.heap.size)
    (hM : MAt w' q ba ps.length bc po pc M') (hF : Fr (One q) w w') (hpr : M'.pr = M.pr) : MR w' q ps T M' ∧ Tn w T w' T := by
  have hF' : Fr T w w' := hF.mono fun k _ e => by rw [show k = q from e]; exact tq
  refine ⟨⟨⟨ba, bc, po, pc, hM, hP.fr (hF'.mono fun _ _ h => .inl h), ?_, hT⟩, tq, fun k hk => Nat.lt_of_lt_of_le (tl k hk) hF.size⟩, hF', fun _ h => .inl h⟩
  rw [hpr]
  exact row_fr hR hF fun k hk e => by have := (hR.lt k hk).1; have e : k = q := e; omega
/-- What a landing leaves. -/
def LandPost (w : World) (q : Nat) (ps : List Bk) (T : Nat → Prop) (M' : Ma) (e : Ending) (w' : World) : Prop := e = .returned (.tuple #[]) ∧ ∃ T', MR w' q ps T' M' ∧ Tn w T w' T'
section
variable {w : World} {q : Nat} {ps : List Bk} {T : Nat → Prop} {M : Ma}
theorem land_reg (o : O) (v : Int) (h : MR w q ps T M) (ho : OkM o) : Calls Tryz.prog 51 #[ptr q, o.val, .int .i64 v] w (LandPost w q ps T { M with r := upd M.r o.d.toNat v }) := by
  obtain ⟨ba, bc, po, pc, hM, hP, hR, hT⟩ := h.ex
  refine (toRegister_any o v hM ho).mono ?_
  rintro e w' ⟨rfl, h1, h2⟩
  exact ⟨rfl, T, mr_one hP hR hT h.tq h.tl h1 h2 rfl⟩
theorem land_cell (o : O) (v : Int) (h : MR w q ps T M) (ho : OkM o) : Calls Tryz.prog 54 #[ptr q, o.val, .int .i64 v] w (LandPost w q ps T { M with m := upd M.m (cellN (M.r o.a.toNat) o.im) v }) := by
  obtain ⟨ba, bc, po, pc, hM, hP, hR, hT⟩ := h.ex
  refine (toCell_any o v hM ho).mono ?_
  rintro e w' ⟨rfl, h1, h2⟩
  exact ⟨rfl, T, mr_one hP hR hT h.tq h.tl h1 h2 rfl⟩
theorem land_print (o : O) (v : Int) (h : MR w q ps T M) (hl : M.pr.length < 1099511627776) : Calls Tryz.prog 56 #[ptr q, o.val, .int .i64 v] w (LandPost w q ps T { M with pr := M.pr ++ [v] }) := by
  obtain ⟨ba, bc, po, pc, hM, hP, hR, hT⟩ := h.ex
  refine (toPrints_any o v hM hl hR).mono ?_
  rintro e w' ⟨rfl, g, cap, h1, h2, h3, h4⟩
  have hgT : ∀ k, k < w.heap.size → (T k ∨ k = g) → T k := fun k hk => by
    rintro (h | rfl)
    · exact h
    · rcases h4 with ⟨a, ha, rfl⟩ | h4
      · exact hT a ha
      · omega
  have hF : Fr T w w' := h3.mono fun k _ hk => by
    rcases hk with hk | ⟨a, ha, hk⟩
    · rw [hk]; exact h.tq
    · rw [← hk]; exact hT a ha
  refine ⟨rfl, fun k => T k ∨ k = g, ⟨⟨ba, bc, some ⟨g, 0, none⟩, cap, h1, (hP.grow fun k hk h => h.elim (fun h => .inl (hgT k hk h)) .inr).fr (hF.mono fun _ _ h => .inl (.inl h)), h2, fun a ha => ?_⟩, .inl h.tq, fun k hk => ?_⟩, hF, fun k hk => ?_⟩
  · cases ha; exact .inr rfl
  · rcases hk with hk | rfl
    · exact Nat.lt_of_lt_of_le (h.tl k hk) hF.size
    · exact (h2.lt k rfl).2
  · rcases hk with hk | rfl
    · exact .inl hk
    · rcases h4 with ⟨a, ha, rfl⟩ | h4
      · exact .inl (hT a ha)
      · exact .inr h4
theorem MR.mat (h : MR w q ps T M) : ∃ ba bc po pc, MAt w q ba ps.length bc po pc M := by
  obtain ⟨ba, bc, po, pc, hM, -⟩ := h.ex
  exact ⟨ba, bc, po, pc, hM⟩
/-- The deeds of a kind. -/
theorem deed_val {k : Nat} (h : 1 ≤ k) : deedF (k * 2) = fnV (valN k) := by
  unfold deedF
  rw [if_neg (by omega), if_pos (by omega), show k * 2 / 2 = k by omega]
theorem deed_land {k : Nat} (h : 1 ≤ k) : deedF (k * 2 + 1) = fnV (landN k) := by
  unfold deedF
  rw [if_neg (by omega), if_neg (by omega), show (k * 2 + 1) / 2 = k by omega]
theorem MR.deeds (h : MR w q ps T M) {o : O} (ho : OkM o) : w.cell? ⟨q, 1 + o.op.toNat * 2, none⟩ = some (fnV (valN o.op.toNat)) ∧ w.cell? ⟨q, 1 + o.op.toNat * 2 + 1, none⟩ = some (fnV (landN o.op.toNat)) := by
  obtain ⟨ba, bc, po, pc, hM⟩ := h.mat
  have hb := ho.op
  have h1 := hM.d (o.op.toNat * 2) (by omega)
  have h2 := hM.d (o.op.toNat * 2 + 1) (by omega)
  rw [deed_val (by omega)] at h1
  rw [deed_land (by omega), ← Nat.add_assoc] at h2
  exact ⟨h1, h2⟩
/-- What reckoning an operation leaves. -/
theorem val_any (o : O) (h : MM w q ps T M) (ho : OkM o) (ht : trapO o M = false) : Calls Tryz.prog (valN o.op.toNat) #[ptr q, o.val] w fun e w' => e = .returned (.int .i64 (valO o M)) ∧ Below w.heap.size w w' := by
  obtain ⟨ba, bc, po, pc, hM⟩ := h.mr.mat
  have hb := ho.op
  unfold valN valO
  by_cases h1 : o.op = 1
  · rw [if_pos h1, if_pos (by omega)]; exact number_any o w
  by_cases h15 : o.op = 15
  · rw [if_neg h1, if_pos h15, if_neg (by omega), if_pos (by omega)]; exact loaded_any o hM ho
  by_cases h16 : o.op = 16
  · rw [if_neg h1, if_neg h15, if_pos h16, if_neg (by omega), if_neg (by omega), if_pos (by omega)]; exact second_any o hM ho
  by_cases h17 : o.op = 17
  · rw [if_neg h1, if_neg h15, if_neg h16, if_pos h17, if_neg (by omega), if_neg (by omega), if_neg (by omega), if_pos (by omega)]; exact first_any o hM ho
  rw [if_neg h1, if_neg h15, if_neg h16, if_neg h17, if_neg (by omega), if_neg (by omega), if_neg (by omega), if_neg (by omega)]
  refine reckoned_ok o hM ho (h.inv.r _) ?_
  unfold rkE
  simp only [trapO, decide_eq_false_iff_not] at ht
  by_cases h12 : o.op ≤ 12
  · rw [if_pos ⟨by omega, h12⟩]
  · rw [if_neg (by omega), if_pos (by omega), if_neg (fun e => ht ⟨by omega, e⟩)]
theorem val_trap (o : O) (h : MM w q ps T M) (ho : OkM o) (ht : trapO o M = true) : Calls Tryz.prog 61 #[ptr q, o.val] w fun e w' => e = .panicked [{ v := .iface 113 (.agg #[.int .i64 101]), recovered := false }] ∧ Below w.heap.size w w' := by
  obtain ⟨ba, bc, po, pc, hM⟩ := h.mr.mat
  simp only [trapO, decide_eq_true_eq] at ht
  refine reckoned_trap o hM ho (h.inv.r _) ?_
  unfold rkE
  rw [if_neg (by omega), if_pos ht.1, if_pos ht.2]
theorem trap_val {o : O} (ht : trapO o M = true) : valN o.op.toNat = 61 := by
  simp only [trapO, decide_eq_true_eq] at ht
  unfold valN
  rcases ht.1 with h | h <;> rw [h] <;> rfl
theorem land_any (o : O) (v : Int) (h : MR w q ps T M) (ho : OkM o) (hl : M.pr.length < 1099511627776) : Calls Tryz.prog (landN o.op.toNat) #[ptr q, o.val, .int .i64 v] w (LandPost w q ps T (landO o v M)) := by
  have hb := ho.op
  unfold landN landO
  by_cases h16 : o.op = 16
  · rw [if_pos h16, if_pos (by omega)]; exact land_cell o v h ho
  by_cases h17 : o.op = 17
  · rw [if_neg h16, if_pos h17, if_neg (by omega), if_pos (by omega)]; exact land_print o v h hl
  rw [if_neg h16, if_neg h17, if_neg (by omega), if_neg (by omega)]
  exact land_reg o v h ho
end
end Go.Proofs.YtddcndlogoajkaaGreatDoor.L8.Sm
