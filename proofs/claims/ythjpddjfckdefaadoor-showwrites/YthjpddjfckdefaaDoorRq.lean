/- The document's end of a block: read off the program by the walk. Conditions: the block's lists lie in memory; its numbers are from 0 on. -/
import Derived.Test.YthjpddjfckdefaaDoorRl
import Derived.Test.YthjpddjfckdefaaDoorSw
namespace Go.Proofs.YthjpddjfckdefaaDoor.Op
open Go.ChangeShapes Go.WideShapes Go.ChangeAt Go.RowKit
set_option maxRecDepth 20000

theorem rdig_int (n : Int) (w : World) (h0 : 0 ≤ n) (h1 : n ≤ 1000000) : Calls Tryd.prog 15 #[.int .i64 n] w fun e w' => e = .returned (.string ⟨(Lib.itoa n).toArray⟩) ∧ Below w.heap.size w w' := by
  obtain ⟨m, rfl⟩ : ∃ m : Nat, n = m := ⟨n.toNat, by omega⟩
  have h := rdig_any m w (by omega)
  rw [show Lib.itoa (m : Int) = Lib.decDigits m by unfold Lib.itoa; rw [if_neg (by omega)]; rfl]
  exact h
/-- A block's box. -/
structure Ee (w V : World) (cs : Array Value) : Prop where
  a : At V w.heap.size cs
  b : Below w.heap.size w V
theorem Ee.up {w V V' : World} {cs : Array Value} (h : Ee w V cs) (hb : Below V.heap.size V V') : Ee w V' cs := ⟨h.a.below hb h.a.lt, h.b.trans (hb.mono h.b.size)⟩
theorem Ee.drew {w V : World} {cs : Array Value} (h : Ee w V cs) : Ee w V.drew cs := h.up (Below.refl _ _).drew
set_option maxHeartbeats 4000000 in
theorem rend_jump (x : Bk) (p : Pl) (w : World) (hx : x.Ok) (hk : BOk x) (hf : x.fin = 0) :
    Calls Tryd.prog 17 #[.agg #[.slice p.oa x.ops.length p.oc, .int .i8 x.fin, .int .u8 x.a, .slice p.ba x.body.length p.bc, .int .i64 x.thn, .int .i64 x.els]] w fun e w' => e = .returned (.string ⟨(endL x).toArray⟩) ∧ Below w.heap.size w w' := by
  have ht := itoa_le x.thn hx.t0 hx.t1
  have hel := itoa_le x.els hx.e0 hx.e1
  have hra := itoa_le x.a (by have := hx.a0; omega) (by have := hx.a1; omega)
  have HA : Hid (∀ W, Calls Tryd.prog 15 #[.int .i64 x.a] W fun e w' => e = .returned (.string ⟨(Lib.itoa x.a).toArray⟩) ∧ Below W.heap.size W w') := fun W => rdig_int x.a W hx.a0 (by have := hx.a1; omega)
  have HQ : Hid (Ee w (w.alloc (.cells #[.slice p.oa x.ops.length p.oc, .int .i8 x.fin, .int .u8 x.a, .slice p.ba x.body.length p.bc, .int .i64 x.thn, .int .i64 x.els] 35)) #[.slice p.oa x.ops.length p.oc, .int .i8 x.fin, .int .u8 x.a, .slice p.ba x.body.length p.bc, .int .i64 x.thn, .int .i64 x.els]) := ⟨At.new _ _ _, (Below.refl _ _).alloc (Nat.le_refl _) _⟩
  have ha0 := hx.a0
  have ha1 := hx.a1
  have s1 := cat_l [32, 114] (Lib.itoa x.a) (by simp; omega)
  have HT : Hid (∀ W, Calls Tryd.prog 15 #[.int .i64 x.thn] W fun e w' => e = .returned (.string ⟨(Lib.itoa x.thn).toArray⟩) ∧ Below W.heap.size W w') := fun W => rdig_int x.thn W hk.t0 (by have := hk.t1; omega)
  have j1 := cat_l ([32, 32, 106, 117, 109, 112, 32]) (Lib.itoa x.thn) (by simp only [List.length_cons, List.length_nil]; omega)
  have j2 := cat_l ([32, 32, 106, 117, 109, 112, 32] ++ Lib.itoa x.thn) ([10]) (by simp only [List.length_append, List.length_cons, List.length_nil]; omega)
  rw [show [32, 32, 106, 117, 109, 112, 32] ++ Lib.itoa x.thn ++ [10] = endL x by simp [endL, hf, two, join_cons, join_one]] at j2
  rw [hf] at HQ ⊢
  clear hx hk
  generalize endL x = E at *
  generalize [32, 32, 106, 117, 109, 112, 32] ++ Lib.itoa x.thn = b0 at *
  generalize [32, 114] ++ Lib.itoa x.a = sa at *
  generalize Lib.itoa x.a = ta at *
  generalize Lib.itoa x.thn = tt at *
  clear hel
  generalize x.thn = t at *
  generalize x.els = el at *
  generalize x.a = a at *
  go_enter Tryd.func17, Tryd.ntmps17
  go_wp2_with (first
    | (go_at_call_of 15 (Value.int .i64 a); refine Calls.mono (HA.out _) ?_; rintro e w1 ⟨rfl, hb⟩; have H1 : Hid _ := HQ.out.up hb; clear hb HQ; have c1 := H1.out.a.c 1 _ rfl; have c2 := H1.out.a.c 2 _ rfl; have c3 := H1.out.a.c 3 _ rfl; have c4 := H1.out.a.c 4 _ rfl; have c5 := H1.out.a.c 5 _ rfl)
    | (go_at_call_of 15 (Value.int .i64 t); refine Calls.mono (HT.out _) ?_; rintro e w2 ⟨rfl, hb⟩; have H2 : Hid _ := H1.out.up hb; clear hb H1))
  go_ret
  exact ⟨rfl, H2.out.b⟩
set_option maxHeartbeats 4000000 in
theorem rend_halt (x : Bk) (p : Pl) (w : World) (hx : x.Ok) (_hk : BOk x) (hf : x.fin = 2) :
    Calls Tryd.prog 17 #[.agg #[.slice p.oa x.ops.length p.oc, .int .i8 x.fin, .int .u8 x.a, .slice p.ba x.body.length p.bc, .int .i64 x.thn, .int .i64 x.els]] w fun e w' => e = .returned (.string ⟨(endL x).toArray⟩) ∧ Below w.heap.size w w' := by
  have ht := itoa_le x.thn hx.t0 hx.t1
  have hel := itoa_le x.els hx.e0 hx.e1
  have hra := itoa_le x.a (by have := hx.a0; omega) (by have := hx.a1; omega)
  have HA : Hid (∀ W, Calls Tryd.prog 15 #[.int .i64 x.a] W fun e w' => e = .returned (.string ⟨(Lib.itoa x.a).toArray⟩) ∧ Below W.heap.size W w') := fun W => rdig_int x.a W hx.a0 (by have := hx.a1; omega)
  have HQ : Hid (Ee w (w.alloc (.cells #[.slice p.oa x.ops.length p.oc, .int .i8 x.fin, .int .u8 x.a, .slice p.ba x.body.length p.bc, .int .i64 x.thn, .int .i64 x.els] 35)) #[.slice p.oa x.ops.length p.oc, .int .i8 x.fin, .int .u8 x.a, .slice p.ba x.body.length p.bc, .int .i64 x.thn, .int .i64 x.els]) := ⟨At.new _ _ _, (Below.refl _ _).alloc (Nat.le_refl _) _⟩
  have ha0 := hx.a0
  have ha1 := hx.a1
  have s1 := cat_l [32, 114] (Lib.itoa x.a) (by simp; omega)
  have j1 := cat_l ([32, 32, 104, 97, 108, 116]) (([32, 114] ++ Lib.itoa x.a)) (by simp only [List.length_append, List.length_cons, List.length_nil]; omega)
  have j2 := cat_l ([32, 32, 104, 97, 108, 116] ++ ([32, 114] ++ Lib.itoa x.a)) ([10]) (by simp only [List.length_append, List.length_cons, List.length_nil]; omega)
  rw [show [32, 32, 104, 97, 108, 116] ++ ([32, 114] ++ Lib.itoa x.a) ++ [10] = endL x by simp [endL, hf, two, join_cons, join_one]] at j2
  rw [hf] at HQ ⊢
  clear hx ht hel
  generalize endL x = E at *
  generalize [32, 32, 104, 97, 108, 116] ++ ([32, 114] ++ Lib.itoa x.a) = b0 at *
  generalize [32, 114] ++ Lib.itoa x.a = sa at *
  generalize Lib.itoa x.a = ta at *
  generalize x.thn = t at *
  generalize x.els = el at *
  generalize x.a = a at *
  go_enter Tryd.func17, Tryd.ntmps17
  go_wp2_with (first
    | (go_at_call_of 15 (Value.int .i64 a); refine Calls.mono (HA.out _) ?_; rintro e w1 ⟨rfl, hb⟩; have H1 : Hid _ := HQ.out.up hb; clear hb HQ; have c1 := H1.out.a.c 1 _ rfl; have c2 := H1.out.a.c 2 _ rfl; have c3 := H1.out.a.c 3 _ rfl; have c4 := H1.out.a.c 4 _ rfl; have c5 := H1.out.a.c 5 _ rfl))
  go_ret
  exact ⟨rfl, H1.out.b⟩
set_option maxHeartbeats 4000000 in
theorem rend_branch (x : Bk) (p : Pl) (w : World) (hx : x.Ok) (hk : BOk x) (hf : x.fin = 1) :
    Calls Tryd.prog 17 #[.agg #[.slice p.oa x.ops.length p.oc, .int .i8 x.fin, .int .u8 x.a, .slice p.ba x.body.length p.bc, .int .i64 x.thn, .int .i64 x.els]] w fun e w' => e = .returned (.string ⟨(endL x).toArray⟩) ∧ Below w.heap.size w w' := by
  have ht := itoa_le x.thn hx.t0 hx.t1
  have hel := itoa_le x.els hx.e0 hx.e1
  have hra := itoa_le x.a (by have := hx.a0; omega) (by have := hx.a1; omega)
  have HA : Hid (∀ W, Calls Tryd.prog 15 #[.int .i64 x.a] W fun e w' => e = .returned (.string ⟨(Lib.itoa x.a).toArray⟩) ∧ Below W.heap.size W w') := fun W => rdig_int x.a W hx.a0 (by have := hx.a1; omega)
  have HQ : Hid (Ee w (w.alloc (.cells #[.slice p.oa x.ops.length p.oc, .int .i8 x.fin, .int .u8 x.a, .slice p.ba x.body.length p.bc, .int .i64 x.thn, .int .i64 x.els] 35)) #[.slice p.oa x.ops.length p.oc, .int .i8 x.fin, .int .u8 x.a, .slice p.ba x.body.length p.bc, .int .i64 x.thn, .int .i64 x.els]) := ⟨At.new _ _ _, (Below.refl _ _).alloc (Nat.le_refl _) _⟩
  have ha0 := hx.a0
  have ha1 := hx.a1
  have s1 := cat_l [32, 114] (Lib.itoa x.a) (by simp; omega)
  have HT : Hid (∀ W, Calls Tryd.prog 15 #[.int .i64 x.thn] W fun e w' => e = .returned (.string ⟨(Lib.itoa x.thn).toArray⟩) ∧ Below W.heap.size W w') := fun W => rdig_int x.thn W hk.t0 (by have := hk.t1; omega)
  have HE : Hid (∀ W, Calls Tryd.prog 15 #[.int .i64 x.els] W fun e w' => e = .returned (.string ⟨(Lib.itoa x.els).toArray⟩) ∧ Below W.heap.size W w') := fun W => rdig_int x.els W hk.e0 (by have := hk.e1; omega)
  have j1 := cat_l ([32, 32, 98, 114, 97, 110, 99, 104]) (([32, 114] ++ Lib.itoa x.a)) (by simp only [List.length_append, List.length_cons, List.length_nil]; omega)
  have j2 := cat_l ([32, 32, 98, 114, 97, 110, 99, 104] ++ ([32, 114] ++ Lib.itoa x.a)) ([32]) (by simp only [List.length_append, List.length_cons, List.length_nil]; omega)
  have j3 := cat_l ([32, 32, 98, 114, 97, 110, 99, 104] ++ ([32, 114] ++ Lib.itoa x.a) ++ [32]) (Lib.itoa x.thn) (by simp only [List.length_append, List.length_cons, List.length_nil]; omega)
  have j4 := cat_l ([32, 32, 98, 114, 97, 110, 99, 104] ++ ([32, 114] ++ Lib.itoa x.a) ++ [32] ++ Lib.itoa x.thn) ([32]) (by simp only [List.length_append, List.length_cons, List.length_nil]; omega)
  have j5 := cat_l ([32, 32, 98, 114, 97, 110, 99, 104] ++ ([32, 114] ++ Lib.itoa x.a) ++ [32] ++ Lib.itoa x.thn ++ [32]) (Lib.itoa x.els) (by simp only [List.length_append, List.length_cons, List.length_nil]; omega)
  have j6 := cat_l ([32, 32, 98, 114, 97, 110, 99, 104] ++ ([32, 114] ++ Lib.itoa x.a) ++ [32] ++ Lib.itoa x.thn ++ [32] ++ Lib.itoa x.els) ([10]) (by simp only [List.length_append, List.length_cons, List.length_nil]; omega)
  rw [show [32, 32, 98, 114, 97, 110, 99, 104] ++ ([32, 114] ++ Lib.itoa x.a) ++ [32] ++ Lib.itoa x.thn ++ [32] ++ Lib.itoa x.els ++ [10] = endL x by simp [endL, hf, two, join_cons, join_one]] at j6
  rw [hf] at HQ ⊢
  clear hx hk
  generalize endL x = E at *
  generalize [32, 32, 98, 114, 97, 110, 99, 104] ++ ([32, 114] ++ Lib.itoa x.a) ++ [32] ++ Lib.itoa x.thn ++ [32] ++ Lib.itoa x.els = b4 at *
  generalize [32, 32, 98, 114, 97, 110, 99, 104] ++ ([32, 114] ++ Lib.itoa x.a) ++ [32] ++ Lib.itoa x.thn ++ [32] = b3 at *
  generalize [32, 32, 98, 114, 97, 110, 99, 104] ++ ([32, 114] ++ Lib.itoa x.a) ++ [32] ++ Lib.itoa x.thn = b2 at *
  generalize [32, 32, 98, 114, 97, 110, 99, 104] ++ ([32, 114] ++ Lib.itoa x.a) ++ [32] = b1 at *
  generalize [32, 32, 98, 114, 97, 110, 99, 104] ++ ([32, 114] ++ Lib.itoa x.a) = b0 at *
  generalize [32, 114] ++ Lib.itoa x.a = sa at *
  generalize Lib.itoa x.a = ta at *
  generalize Lib.itoa x.thn = tt at *
  generalize Lib.itoa x.els = te at *
  generalize x.thn = t at *
  generalize x.els = el at *
  generalize x.a = a at *
  go_enter Tryd.func17, Tryd.ntmps17
  go_wp2_with (first
    | (go_at_call_of 15 (Value.int .i64 a); refine Calls.mono (HA.out _) ?_; rintro e w1 ⟨rfl, hb⟩; have H1 : Hid _ := HQ.out.up hb; clear hb HQ; have c1 := H1.out.a.c 1 _ rfl; have c2 := H1.out.a.c 2 _ rfl; have c3 := H1.out.a.c 3 _ rfl; have c4 := H1.out.a.c 4 _ rfl; have c5 := H1.out.a.c 5 _ rfl))
  go_region_with (first
    | (go_at_call_of 15 (Value.int .i64 t); refine Calls.mono (HT.out _) ?_; rintro e u1 ⟨rfl, hb⟩; have HT' : Hid (Ee w u1 #[.slice p.oa x.ops.length p.oc, .int .i8 1, .int .u8 a, .slice p.ba x.body.length p.bc, .int .i64 t, .int .i64 el]) := (by first | exact H1.out.up hb | exact H1.out.drew.up hb); clear H1 hb; have H1 : Hid _ := HT'.out; clear HT'; have c3 := H1.out.a.c 3 _ rfl; have c4 := H1.out.a.c 4 _ rfl; have c5 := H1.out.a.c 5 _ rfl)
    | (go_at_call_of 15 (Value.int .i64 el); refine Calls.mono (HE.out _) ?_; rintro e u1 ⟨rfl, hb⟩; have HT' : Hid (Ee w u1 #[.slice p.oa x.ops.length p.oc, .int .i8 1, .int .u8 a, .slice p.ba x.body.length p.bc, .int .i64 t, .int .i64 el]) := (by first | exact H1.out.up hb | exact H1.out.drew.up hb); clear H1 hb; have H1 : Hid _ := HT'.out; clear HT'; have c3 := H1.out.a.c 3 _ rfl; have c4 := H1.out.a.c 4 _ rfl; have c5 := H1.out.a.c 5 _ rfl))
  all_goals go_wp2
  all_goals go_ret
  all_goals exact ⟨rfl, H1.out.b⟩
set_option maxHeartbeats 4000000 in
theorem rend_loop (x : Bk) (p : Pl) (w : World) (hx : x.Ok) (hk : BOk x) (hf : x.fin = 3) (hO : OpsAt w p.ba x.body) (hbl : (linesL sp4 x.body).length ≤ 900000) :
    Calls Tryd.prog 17 #[.agg #[.slice p.oa x.ops.length p.oc, .int .i8 x.fin, .int .u8 x.a, .slice p.ba x.body.length p.bc, .int .i64 x.thn, .int .i64 x.els]] w fun e w' => e = .returned (.string ⟨(endL x).toArray⟩) ∧ Below w.heap.size w w' := by
  have ht := itoa_le x.thn hx.t0 hx.t1
  have hel := itoa_le x.els hx.e0 hx.e1
  have hra := itoa_le x.a (by have := hx.a0; omega) (by have := hx.a1; omega)
  have HA : Hid (∀ W, Calls Tryd.prog 15 #[.int .i64 x.a] W fun e w' => e = .returned (.string ⟨(Lib.itoa x.a).toArray⟩) ∧ Below W.heap.size W w') := fun W => rdig_int x.a W hx.a0 (by have := hx.a1; omega)
  have HQ : Hid (Ee w (w.alloc (.cells #[.slice p.oa x.ops.length p.oc, .int .i8 x.fin, .int .u8 x.a, .slice p.ba x.body.length p.bc, .int .i64 x.thn, .int .i64 x.els] 35)) #[.slice p.oa x.ops.length p.oc, .int .i8 x.fin, .int .u8 x.a, .slice p.ba x.body.length p.bc, .int .i64 x.thn, .int .i64 x.els]) := ⟨At.new _ _ _, (Below.refl _ _).alloc (Nat.le_refl _) _⟩
  have ha0 := hx.a0
  have ha1 := hx.a1
  have s1 := cat_l [32, 114] (Lib.itoa x.a) (by simp; omega)
  have HT : Hid (∀ W, Calls Tryd.prog 15 #[.int .i64 x.thn] W fun e w' => e = .returned (.string ⟨(Lib.itoa x.thn).toArray⟩) ∧ Below W.heap.size W w') := fun W => rdig_int x.thn W hk.t0 (by have := hk.t1; omega)
  have HB : Hid (∀ W, Below w.heap.size w W → Calls Tryd.prog 16 #[.slice p.ba x.body.length p.bc, .string ⟨#[32, 32, 32, 32]⟩] W fun e w' => e = .returned (.string ⟨(linesL sp4 x.body).toArray⟩) ∧ Below W.heap.size W w') := fun W hb => rlines_any p.ba p.bc x.body sp4 W (hO.below hb) hk.b hbl (by simp)
  have j1 := cat_l ([32, 32, 108, 111, 111, 112]) (([32, 114] ++ Lib.itoa x.a)) (by simp only [List.length_append, List.length_cons, List.length_nil]; omega)
  have j2 := cat_l ([32, 32, 108, 111, 111, 112] ++ ([32, 114] ++ Lib.itoa x.a)) ([32, 123, 10]) (by simp only [List.length_append, List.length_cons, List.length_nil]; omega)
  have j3 := cat_l ([32, 32, 108, 111, 111, 112] ++ ([32, 114] ++ Lib.itoa x.a) ++ [32, 123, 10]) (linesL sp4 x.body) (by simp only [List.length_append, List.length_cons, List.length_nil]; omega)
  have j4 := cat_l ([32, 32, 108, 111, 111, 112] ++ ([32, 114] ++ Lib.itoa x.a) ++ [32, 123, 10] ++ linesL sp4 x.body) ([32, 32, 125, 10, 32, 32, 106, 117, 109, 112, 32]) (by simp only [List.length_append, List.length_cons, List.length_nil]; omega)
  have j5 := cat_l ([32, 32, 108, 111, 111, 112] ++ ([32, 114] ++ Lib.itoa x.a) ++ [32, 123, 10] ++ linesL sp4 x.body ++ [32, 32, 125, 10, 32, 32, 106, 117, 109, 112, 32]) (Lib.itoa x.thn) (by simp only [List.length_append, List.length_cons, List.length_nil]; omega)
  have j6 := cat_l ([32, 32, 108, 111, 111, 112] ++ ([32, 114] ++ Lib.itoa x.a) ++ [32, 123, 10] ++ linesL sp4 x.body ++ [32, 32, 125, 10, 32, 32, 106, 117, 109, 112, 32] ++ Lib.itoa x.thn) ([10]) (by simp only [List.length_append, List.length_cons, List.length_nil]; omega)
  rw [show [32, 32, 108, 111, 111, 112] ++ ([32, 114] ++ Lib.itoa x.a) ++ [32, 123, 10] ++ linesL sp4 x.body ++ [32, 32, 125, 10, 32, 32, 106, 117, 109, 112, 32] ++ Lib.itoa x.thn ++ [10] = endL x by simp [endL, hf, two, join_cons, join_one]] at j6
  rw [hf] at HQ ⊢
  clear hx hk hO hbl
  generalize endL x = E at *
  generalize [32, 32, 108, 111, 111, 112] ++ ([32, 114] ++ Lib.itoa x.a) ++ [32, 123, 10] ++ linesL sp4 x.body ++ [32, 32, 125, 10, 32, 32, 106, 117, 109, 112, 32] ++ Lib.itoa x.thn = b4 at *
  generalize [32, 32, 108, 111, 111, 112] ++ ([32, 114] ++ Lib.itoa x.a) ++ [32, 123, 10] ++ linesL sp4 x.body ++ [32, 32, 125, 10, 32, 32, 106, 117, 109, 112, 32] = b3 at *
  generalize [32, 32, 108, 111, 111, 112] ++ ([32, 114] ++ Lib.itoa x.a) ++ [32, 123, 10] ++ linesL sp4 x.body = b2 at *
  generalize [32, 32, 108, 111, 111, 112] ++ ([32, 114] ++ Lib.itoa x.a) ++ [32, 123, 10] = b1 at *
  generalize [32, 32, 108, 111, 111, 112] ++ ([32, 114] ++ Lib.itoa x.a) = b0 at *
  generalize [32, 114] ++ Lib.itoa x.a = sa at *
  generalize linesL sp4 x.body = lb at *
  generalize Lib.itoa x.a = ta at *
  generalize Lib.itoa x.thn = tt at *
  clear hel
  generalize x.thn = t at *
  generalize x.els = el at *
  generalize x.a = a at *
  go_enter Tryd.func17, Tryd.ntmps17
  go_wp2_with (first
    | (go_at_call_of 15 (Value.int .i64 a); refine Calls.mono (HA.out _) ?_; rintro e w1 ⟨rfl, hb⟩; have H1 : Hid _ := HQ.out.up hb; clear hb HQ; have c1 := H1.out.a.c 1 _ rfl; have c2 := H1.out.a.c 2 _ rfl; have c3 := H1.out.a.c 3 _ rfl; have c4 := H1.out.a.c 4 _ rfl; have c5 := H1.out.a.c 5 _ rfl))
  go_region_with (first
    | (go_at_call_of 15 (Value.int .i64 t); refine Calls.mono (HT.out _) ?_; rintro e u1 ⟨rfl, hb⟩; have HT' : Hid (Ee w u1 #[.slice p.oa x.ops.length p.oc, .int .i8 3, .int .u8 a, .slice p.ba x.body.length p.bc, .int .i64 t, .int .i64 el]) := (by first | exact H1.out.up hb | exact H1.out.drew.up hb); clear H1 hb; have H1 : Hid _ := HT'.out; clear HT'; have c3 := H1.out.a.c 3 _ rfl; have c4 := H1.out.a.c 4 _ rfl; have c5 := H1.out.a.c 5 _ rfl)
    | (go_at_call 16; refine Calls.mono (HB.out _ ?_) ?_; (first | exact H1.out.b | exact H1.out.drew.b); rintro e u1 ⟨rfl, hb⟩; have HT' : Hid (Ee w u1 #[.slice p.oa x.ops.length p.oc, .int .i8 3, .int .u8 a, .slice p.ba x.body.length p.bc, .int .i64 t, .int .i64 el]) := (by first | exact H1.out.up hb | exact H1.out.drew.up hb); clear H1 hb; have H1 : Hid _ := HT'.out; clear HT'; have c3 := H1.out.a.c 3 _ rfl; have c4 := H1.out.a.c 4 _ rfl; have c5 := H1.out.a.c 5 _ rfl))
  all_goals go_wp2
  all_goals go_ret
  all_goals exact ⟨rfl, H1.out.b⟩
theorem rend_any (x : Bk) (p : Pl) (w : World) (hx : x.Ok) (hk : BOk x) (hO : OpsAt w p.ba x.body) (hbl : (linesL sp4 x.body).length ≤ 900000) :
    Calls Tryd.prog 17 #[.agg #[.slice p.oa x.ops.length p.oc, .int .i8 x.fin, .int .u8 x.a, .slice p.ba x.body.length p.bc, .int .i64 x.thn, .int .i64 x.els]] w fun e w' => e = .returned (.string ⟨(endL x).toArray⟩) ∧ Below w.heap.size w w' := by
  have f0 := hk.f0
  have f3 := hk.f3
  have hf : x.fin = 0 ∨ x.fin = 1 ∨ x.fin = 2 ∨ x.fin = 3 := by omega
  rcases hf with hf | hf | hf | hf
  · exact rend_jump x p w hx hk hf
  · exact rend_branch x p w hx hk hf
  · exact rend_halt x p w hx hk hf
  · exact rend_loop x p w hx hk hf hO hbl
end Go.Proofs.YthjpddjfckdefaaDoor.Op
