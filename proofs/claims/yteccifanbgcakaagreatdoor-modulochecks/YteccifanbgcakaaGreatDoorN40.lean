/- What the statements of layer 16 wake by (wakes): the walk. Conditions: the variables as the program lays them. -/
import Derived.Test.YteccifanbgcakaaGreatDoorN39
namespace Go.Proofs.YteccifanbgcakaaGreatDoor.Mo
open Go.ChangeShapes Go.WideShapes Go.ChangeAt Go.RowKit
open _root_.Go.Proofs.YteccifanbgcakaaGreatDoor.Op _root_.Go.Proofs.YteccifanbgcakaaGreatDoor.So _root_.Go.Proofs.YteccifanbgcakaaGreatDoor.Dp _root_.Go.Proofs.YteccifanbgcakaaGreatDoor.Bn
open _root_.Go.Proofs.YteccifanbgcakaaGreatDoor.Ls (clN clN_at clN_lt Nl arC arC_all arC_yes arC_no areCycles_any)
open _root_.Go.Proofs.YteccifanbgcakaaGreatDoor.Rv (RAt Few frB tkF tk_few take_any evOk NwOut ring_ok tn addK)
open _root_.Go.Proofs.YteccifanbgcakaaGreatDoor.Tb (Tab TabAt Bnds)
set_option maxRecDepth 20000

set_option maxHeartbeats 16000000 in
theorem wakes_any (w : World) (hG : Bnds w) : Calls Tryz.prog 8 #[] w fun e w' => e = .returned (.bool true) ∧ Below w.heap.size w w' := by
  have HOn : Hid (∀ W, Calls Tryz.prog 21 #[] W fun e w' => e = .returned (.agg #[.int .i64 1, .int .i64 1, .int .i64 1, .int .i64 1, .int .i64 1, .int .i64 3, .int .i64 2, .int .i64 1, .int .i64 1, .int .i64 1, .int .i64 1, .int .i64 1, .int .i64 1]) ∧ Below W.heap.size W w') := fun W => one_any W
  have HFb : Hid (∀ W tb lb, Wk w W tb lb → Calls Tryz.prog 14 #[.slice (some ⟨lb, 0, none⟩) 2 2, .agg #[.int .i64 1, .int .i64 1, .int .i64 1, .int .i64 1, .int .i64 1, .int .i64 3, .int .i64 2, .int .i64 1, .int .i64 1, .int .i64 1, .int .i64 1, .int .i64 1, .int .i64 1]] W fun e w' => ∃ ra rc, e = .returned (.tuple #[.agg #[.int .i64 2, .slice ra 2 rc, .int .i64 2], .int .i64 0]) ∧ Nl w' ra 2 cB2 ∧ Below W.heap.size W w') := fun W tb lb h => findB lb W h.l (hG.below h.up hG.big)
  have HFw : Hid (∀ W lb, At W lb xWC → Below w.heap.size w W → Calls Tryz.prog 14 #[.slice (some ⟨lb, 0, none⟩) 1 1, .agg #[.int .i64 1, .int .i64 1, .int .i64 1, .int .i64 1, .int .i64 1, .int .i64 3, .int .i64 2, .int .i64 1, .int .i64 1, .int .i64 1, .int .i64 1, .int .i64 1, .int .i64 1]] W fun e w' => ∃ ra rc, e = .returned (.tuple #[.agg #[.int .i64 3, .slice ra 1 rc, .int .i64 1], .int .i64 0]) ∧ Nl w' ra 1 cW1 ∧ Below W.heap.size W w') := fun W lb h hb => findW lb W h (hG.below hb hG.big)
  have HCy : Hid (∀ W tb lb a c, Wk w W tb lb → Nl W a 2 cB2 → Calls Tryz.prog 10 #[.slice (some ⟨lb, 0, none⟩) 2 2, .agg #[.int .i64 1, .int .i64 1, .int .i64 1, .int .i64 1, .int .i64 1, .int .i64 3, .int .i64 2, .int .i64 1, .int .i64 1, .int .i64 1, .int .i64 1, .int .i64 1, .int .i64 1], .agg #[.int .i64 2, .slice a 2 c, .int .i64 2]] W fun e w' => e = .returned (.bool true) ∧ Below W.heap.size W w') := fun W tb lb a c h hn => by
    have := check_any a (some ⟨lb, 0, none⟩) 2 c 2 xB tW cB2 2 2 W hn (xB_at h.l) (by decide) (hG.below h.up hG.big) (by omega)
    rw [ck_two] at this
    exact this
  have HCn : Hid (∀ W tb lb a c, Wk w W tb lb → Nl W a 2 cB2 → Calls Tryz.prog 10 #[.slice (some ⟨lb, 0, none⟩) 2 2, .agg #[.int .i64 1, .int .i64 1, .int .i64 1, .int .i64 1, .int .i64 1, .int .i64 3, .int .i64 2, .int .i64 1, .int .i64 1, .int .i64 1, .int .i64 1, .int .i64 1, .int .i64 1], .agg #[.int .i64 2, .slice a 2 c, .int .i64 1]] W fun e w' => e = .returned (.bool false) ∧ Below W.heap.size W w') := fun W tb lb a c h hn => by
    have := check_any a (some ⟨lb, 0, none⟩) 2 c 2 xB tW cB2 2 1 W hn (xB_at h.l) (by decide) (hG.below h.up hG.big) (by omega)
    rw [ck_bad] at this
    exact this
  clear hG
  go_enter Tryz.func8, Tryz.ntmps8
  go_upto_region 3 with (first
    | (go_at_call 21; refine Calls.mono (HOn.out _) ?_; rintro e w1 ⟨rfl, b1⟩; have HB0 : Hid (Wk w ((w1.alloc (.cells #[.int .i64 1, .int .i64 1, .int .i64 1, .int .i64 1, .int .i64 1, .int .i64 3, .int .i64 2, .int .i64 1, .int .i64 1, .int .i64 1, .int .i64 1, .int .i64 1, .int .i64 1] 25)).alloc (.cells xBC 46)) w1.heap.size (w1.heap.size + 1)) := (by
        have a1 := At.new w1 #[.int .i64 1, .int .i64 1, .int .i64 1, .int .i64 1, .int .i64 1, .int .i64 3, .int .i64 2, .int .i64 1, .int .i64 1, .int .i64 1, .int .i64 1, .int .i64 1, .int .i64 1] 25
        have a2 := At.new (w1.alloc (.cells #[.int .i64 1, .int .i64 1, .int .i64 1, .int .i64 1, .int .i64 1, .int .i64 3, .int .i64 2, .int .i64 1, .int .i64 1, .int .i64 1, .int .i64 1, .int .i64 1, .int .i64 1] 25)) xBC 46
        rw [show (w1.alloc (.cells #[.int .i64 1, .int .i64 1, .int .i64 1, .int .i64 1, .int .i64 1, .int .i64 3, .int .i64 2, .int .i64 1, .int .i64 1, .int .i64 1, .int .i64 1, .int .i64 1, .int .i64 1] 25)).heap.size = w1.heap.size + 1 by simp] at a2
        exact ⟨a1.alloc _, a2, (b1.alloc b1.size _).alloc (by have := b1.size; simp; omega) _⟩); clear b1 HOn))
  generalize (w1.alloc (.cells #[.int .i64 1, .int .i64 1, .int .i64 1, .int .i64 1, .int .i64 1, .int .i64 3, .int .i64 2, .int .i64 1, .int .i64 1, .int .i64 1, .int .i64 1, .int .i64 1, .int .i64 1] 25)).alloc (.cells xBC 46) = X0 at *
  generalize w1.heap.size + 1 = lb at *
  generalize w1.heap.size = tb at *
  have tf := HB0.out.t
  have tf0 := tf.c 0 _ rfl
  have tf1 := tf.c 1 _ rfl
  have tf2 := tf.c 2 _ rfl
  have tf3 := tf.c 3 _ rfl
  have tf4 := tf.c 4 _ rfl
  have tf5 := tf.c 5 _ rfl
  have tf6 := tf.c 6 _ rfl
  have tf7 := tf.c 7 _ rfl
  have tf8 := tf.c 8 _ rfl
  have tf9 := tf.c 9 _ rfl
  have tf10 := tf.c 10 _ rfl
  have tf11 := tf.c 11 _ rfl
  have tf12 := tf.c 12 _ rfl
  have tfl := tf.lt
  clear tf
  go_upto_region 4 with (first
    | (go_at_call 14; refine Calls.mono (HFb.out _ _ _ HB0.out) ?_; rintro e w2 ⟨ra, rc, rfl, n2, b2⟩; have HB2 : Hid (Wk w (w2.alloc (.cells #[.int .i64 2, .slice ra 2 rc, .int .i64 2] 28)) tb lb ∧ Nl (w2.alloc (.cells #[.int .i64 2, .slice ra 2 rc, .int .i64 2] 28)) ra 2 cB2 ∧ At (w2.alloc (.cells #[.int .i64 2, .slice ra 2 rc, .int .i64 2] 28)) w2.heap.size #[.int .i64 2, .slice ra 2 rc, .int .i64 2]) := (by
        have g : Below w2.heap.size w2 (w2.alloc (.cells #[.int .i64 2, .slice ra 2 rc, .int .i64 2] 28)) := (Below.refl _ _).alloc (Nat.le_refl _) _
        exact ⟨(HB0.out.next b2).next g, n2.up g, At.new _ _ _⟩); clear b2 n2 HFb HB0 tf0 tf1 tf2 tf3 tf4 tf5 tf6 tf7 tf8 tf9 tf10 tf11 tf12 tfl))
  generalize w2.alloc (.cells #[.int .i64 2, .slice ra 2 rc, .int .i64 2] 28) = X2 at *
  generalize w2.heap.size = pb at *
  have HB3 : Hid (Wk w (X2.alloc (.cells xWC 46)) tb lb ∧ Nl (X2.alloc (.cells xWC 46)) ra 2 cB2 ∧ At (X2.alloc (.cells xWC 46)) pb #[.int .i64 2, .slice ra 2 rc, .int .i64 2] ∧ At (X2.alloc (.cells xWC 46)) X2.heap.size xWC) := by
    have g : Below X2.heap.size X2 (X2.alloc (.cells xWC 46)) := (Below.refl _ _).alloc (Nat.le_refl _) _
    exact ⟨HB2.out.1.next g, HB2.out.2.1.up g, HB2.out.2.2.below g HB2.out.2.2.lt, At.new _ _ _⟩
  clear HB2
  have tf := HB3.out.1.t
  have tf0 := tf.c 0 _ rfl
  have tf1 := tf.c 1 _ rfl
  have tf2 := tf.c 2 _ rfl
  have tf3 := tf.c 3 _ rfl
  have tf4 := tf.c 4 _ rfl
  have tf5 := tf.c 5 _ rfl
  have tf6 := tf.c 6 _ rfl
  have tf7 := tf.c 7 _ rfl
  have tf8 := tf.c 8 _ rfl
  have tf9 := tf.c 9 _ rfl
  have tf10 := tf.c 10 _ rfl
  have tf11 := tf.c 11 _ rfl
  have tf12 := tf.c 12 _ rfl
  have tfl := tf.lt
  clear tf
  go_upto_region 5 with (first
    | (go_at_call 14; refine Calls.mono (HFw.out _ _ HB3.out.2.2.2 HB3.out.1.up) ?_; rintro e w3 ⟨sa, sc, rfl, n3, b3⟩; have HB4 : Hid (Wk w (w3.alloc (.cells #[.int .i64 3, .slice sa 1 sc, .int .i64 1] 28)) tb lb ∧ Nl (w3.alloc (.cells #[.int .i64 3, .slice sa 1 sc, .int .i64 1] 28)) ra 2 cB2 ∧ At (w3.alloc (.cells #[.int .i64 3, .slice sa 1 sc, .int .i64 1] 28)) pb #[.int .i64 2, .slice ra 2 rc, .int .i64 2] ∧ At (w3.alloc (.cells #[.int .i64 3, .slice sa 1 sc, .int .i64 1] 28)) w3.heap.size #[.int .i64 3, .slice sa 1 sc, .int .i64 1]) := (by
        have g : Below w3.heap.size w3 (w3.alloc (.cells #[.int .i64 3, .slice sa 1 sc, .int .i64 1] 28)) := (Below.refl _ _).alloc (Nat.le_refl _) _
        exact ⟨(HB3.out.1.next b3).next g, (HB3.out.2.1.up b3).up g, (HB3.out.2.2.1.below b3 HB3.out.2.2.1.lt).below g (Nat.lt_of_lt_of_le HB3.out.2.2.1.lt b3.size), At.new _ _ _⟩); clear b3 n3 HFw HB3 tf0 tf1 tf2 tf3 tf4 tf5 tf6 tf7 tf8 tf9 tf10 tf11 tf12 tfl))
  generalize w3.alloc (.cells #[.int .i64 3, .slice sa 1 sc, .int .i64 1] 28) = X3 at *
  generalize w3.heap.size = qb at *
  have HB5 : Hid (∃ Y, Y = (((X3.alloc (.cells #[.int .i64 0, .int .i64 2] 3)).alloc (.cells #[.int .i64 2, .slice (some ⟨X3.heap.size, 0, none⟩) 2 2, .int .i64 2] 28)).alloc (.cells #[.int .i64 0, .int .i64 2] 3)).alloc (.cells #[.int .i64 2, .slice (some ⟨X3.heap.size + 1 + 1, 0, none⟩) 2 2, .int .i64 1] 28) ∧ Wk w Y tb lb ∧ Nl Y ra 2 cB2 ∧ At Y pb #[.int .i64 2, .slice ra 2 rc, .int .i64 2] ∧ At Y qb #[.int .i64 3, .slice sa 1 sc, .int .i64 1] ∧ At Y (X3.heap.size + 1) #[.int .i64 2, .slice (some ⟨X3.heap.size, 0, none⟩) 2 2, .int .i64 2] ∧ At Y (X3.heap.size + 1 + 1 + 1) #[.int .i64 2, .slice (some ⟨X3.heap.size + 1 + 1, 0, none⟩) 2 2, .int .i64 1] ∧ Nl Y (some ⟨X3.heap.size, 0, none⟩) 2 cB2 ∧ Nl Y (some ⟨X3.heap.size + 1 + 1, 0, none⟩) 2 cB2) := by
    refine ⟨_, rfl, ?_⟩
    have a1 := At.new X3 #[.int .i64 0, .int .i64 2] 3
    have a2 := At.new (X3.alloc (.cells #[.int .i64 0, .int .i64 2] 3)) #[.int .i64 2, .slice (some ⟨X3.heap.size, 0, none⟩) 2 2, .int .i64 2] 28
    have z1 : (X3.alloc (.cells #[.int .i64 0, .int .i64 2] 3)).heap.size = X3.heap.size + 1 := by simp
    rw [z1] at a2
    have a3 := At.new ((X3.alloc (.cells #[.int .i64 0, .int .i64 2] 3)).alloc (.cells #[.int .i64 2, .slice (some ⟨X3.heap.size, 0, none⟩) 2 2, .int .i64 2] 28)) #[.int .i64 0, .int .i64 2] 3
    rw [show ((X3.alloc (.cells #[.int .i64 0, .int .i64 2] 3)).alloc (.cells #[.int .i64 2, .slice (some ⟨X3.heap.size, 0, none⟩) 2 2, .int .i64 2] 28)).heap.size = X3.heap.size + 1 + 1 by simp] at a3
    have a4 := At.new (((X3.alloc (.cells #[.int .i64 0, .int .i64 2] 3)).alloc (.cells #[.int .i64 2, .slice (some ⟨X3.heap.size, 0, none⟩) 2 2, .int .i64 2] 28)).alloc (.cells #[.int .i64 0, .int .i64 2] 3)) #[.int .i64 2, .slice (some ⟨X3.heap.size + 1 + 1, 0, none⟩) 2 2, .int .i64 1] 28
    rw [show (((X3.alloc (.cells #[.int .i64 0, .int .i64 2] 3)).alloc (.cells #[.int .i64 2, .slice (some ⟨X3.heap.size, 0, none⟩) 2 2, .int .i64 2] 28)).alloc (.cells #[.int .i64 0, .int .i64 2] 3)).heap.size = X3.heap.size + 1 + 1 + 1 by simp] at a4
    have g : Below X3.heap.size X3 ((((X3.alloc (.cells #[.int .i64 0, .int .i64 2] 3)).alloc (.cells #[.int .i64 2, .slice (some ⟨X3.heap.size, 0, none⟩) 2 2, .int .i64 2] 28)).alloc (.cells #[.int .i64 0, .int .i64 2] 3)).alloc (.cells #[.int .i64 2, .slice (some ⟨X3.heap.size + 1 + 1, 0, none⟩) 2 2, .int .i64 1] 28)) := by go_grown
    exact ⟨HB4.out.1.next g, HB4.out.2.1.up g, HB4.out.2.2.1.below g HB4.out.2.2.1.lt, HB4.out.2.2.2.below g HB4.out.2.2.2.lt, (a2.alloc _).alloc _, a4, nl2 (((a1.alloc _).alloc _).alloc _), nl2 (a3.alloc _)⟩
  clear HB4
  go_upto_region 7 with fail
  obtain ⟨Y, hY, hY2⟩ := HB5.out
  have HB6 : Hid (Wk w Y tb lb ∧ Nl Y ra 2 cB2 ∧ At Y pb #[.int .i64 2, .slice ra 2 rc, .int .i64 2] ∧ At Y qb #[.int .i64 3, .slice sa 1 sc, .int .i64 1] ∧ At Y (X3.heap.size + 1) #[.int .i64 2, .slice (some ⟨X3.heap.size, 0, none⟩) 2 2, .int .i64 2] ∧ At Y (X3.heap.size + 1 + 1 + 1) #[.int .i64 2, .slice (some ⟨X3.heap.size + 1 + 1, 0, none⟩) 2 2, .int .i64 1] ∧ Nl Y (some ⟨X3.heap.size, 0, none⟩) 2 cB2 ∧ Nl Y (some ⟨X3.heap.size + 1 + 1, 0, none⟩) 2 cB2) := hY2
  clear hY2 HB5
  rw [← hY]
  clear hY
  generalize X3.heap.size + 1 + 1 + 1 = vb at *
  generalize X3.heap.size + 1 + 1 = vc at *
  generalize X3.heap.size + 1 = ub at *
  generalize X3.heap.size = uc at *
  have tf := HB6.out.1.t
  have tf0 := tf.c 0 _ rfl
  have tf1 := tf.c 1 _ rfl
  have tf2 := tf.c 2 _ rfl
  have tf3 := tf.c 3 _ rfl
  have tf4 := tf.c 4 _ rfl
  have tf5 := tf.c 5 _ rfl
  have tf6 := tf.c 6 _ rfl
  have tf7 := tf.c 7 _ rfl
  have tf8 := tf.c 8 _ rfl
  have tf9 := tf.c 9 _ rfl
  have tf10 := tf.c 10 _ rfl
  have tf11 := tf.c 11 _ rfl
  have tf12 := tf.c 12 _ rfl
  have tfl := tf.lt
  have p0 := HB6.out.2.2.1.c 0 _ rfl
  have p1 := HB6.out.2.2.1.c 1 _ rfl
  have p2 := HB6.out.2.2.1.c 2 _ rfl
  have pl := HB6.out.2.2.1.lt
  clear tf
  go_wp2_with (first
    | (go_at_call 10; refine Calls.mono (HCy.out _ _ _ _ _ HB6.out.1 HB6.out.2.1) ?_; rintro e w4 ⟨rfl, b4⟩; have HB7 : Hid (Wk w w4 tb lb ∧ At w4 qb #[.int .i64 3, .slice sa 1 sc, .int .i64 1] ∧ At w4 ub #[.int .i64 2, .slice (some ⟨uc, 0, none⟩) 2 2, .int .i64 2] ∧ At w4 vb #[.int .i64 2, .slice (some ⟨vc, 0, none⟩) 2 2, .int .i64 1] ∧ Nl w4 (some ⟨uc, 0, none⟩) 2 cB2 ∧ Nl w4 (some ⟨vc, 0, none⟩) 2 cB2) := (by
        obtain ⟨h1, h2, h3, h4, h5, h6, h7, h8⟩ := HB6.out
        exact ⟨h1.next b4, h4.below b4 h4.lt, h5.below b4 h5.lt, h6.below b4 h6.lt, h7.up b4, h8.up b4⟩); clear b4 HB6 tf0 tf1 tf2 tf3 tf4 tf5 tf6 tf7 tf8 tf9 tf10 tf11 tf12 tfl p0 p1 p2 pl; have tf0 := HB7.out.1.t.c 0 _ rfl; have tf1 := HB7.out.1.t.c 1 _ rfl; have tf2 := HB7.out.1.t.c 2 _ rfl; have tf3 := HB7.out.1.t.c 3 _ rfl; have tf4 := HB7.out.1.t.c 4 _ rfl; have tf5 := HB7.out.1.t.c 5 _ rfl; have tf6 := HB7.out.1.t.c 6 _ rfl; have tf7 := HB7.out.1.t.c 7 _ rfl; have tf8 := HB7.out.1.t.c 8 _ rfl; have tf9 := HB7.out.1.t.c 9 _ rfl; have tf10 := HB7.out.1.t.c 10 _ rfl; have tf11 := HB7.out.1.t.c 11 _ rfl; have tf12 := HB7.out.1.t.c 12 _ rfl; have tfl := HB7.out.1.t.lt; have q0 := HB7.out.2.1.c 0 _ rfl; have ql := HB7.out.2.1.lt; have p0 := HB7.out.2.2.1.c 0 _ rfl; have p1 := HB7.out.2.2.1.c 1 _ rfl; have p2 := HB7.out.2.2.1.c 2 _ rfl; have pl := HB7.out.2.2.1.lt)
    | (go_at_call 10; refine Calls.mono (HCy.out _ _ _ _ _ HB7.out.1 HB7.out.2.2.2.2.1) ?_; rintro e w5 ⟨rfl, b5⟩; have HB8 : Hid (Wk w w5 tb lb ∧ At w5 vb #[.int .i64 2, .slice (some ⟨vc, 0, none⟩) 2 2, .int .i64 1] ∧ Nl w5 (some ⟨vc, 0, none⟩) 2 cB2) := (by
        obtain ⟨h1, h2, h3, h4, h5, h6⟩ := HB7.out
        exact ⟨h1.next b5, h4.below b5 h4.lt, h6.up b5⟩); clear b5 HB7 HCy tf0 tf1 tf2 tf3 tf4 tf5 tf6 tf7 tf8 tf9 tf10 tf11 tf12 tfl p0 p1 p2 pl q0 ql; have tf0 := HB8.out.1.t.c 0 _ rfl; have tf1 := HB8.out.1.t.c 1 _ rfl; have tf2 := HB8.out.1.t.c 2 _ rfl; have tf3 := HB8.out.1.t.c 3 _ rfl; have tf4 := HB8.out.1.t.c 4 _ rfl; have tf5 := HB8.out.1.t.c 5 _ rfl; have tf6 := HB8.out.1.t.c 6 _ rfl; have tf7 := HB8.out.1.t.c 7 _ rfl; have tf8 := HB8.out.1.t.c 8 _ rfl; have tf9 := HB8.out.1.t.c 9 _ rfl; have tf10 := HB8.out.1.t.c 10 _ rfl; have tf11 := HB8.out.1.t.c 11 _ rfl; have tf12 := HB8.out.1.t.c 12 _ rfl; have tfl := HB8.out.1.t.lt; have p0 := HB8.out.2.1.c 0 _ rfl; have p1 := HB8.out.2.1.c 1 _ rfl; have p2 := HB8.out.2.1.c 2 _ rfl; have pl := HB8.out.2.1.lt)
    | (go_at_call 10; refine Calls.mono (HCn.out _ _ _ _ _ HB8.out.1 HB8.out.2.2) ?_; rintro e w6 ⟨rfl, b6⟩; have HB9 : Hid (Below w.heap.size w w6) := (HB8.out.1.next b6).up; clear b6 HB8 HCn tf0 tf1 tf2 tf3 tf4 tf5 tf6 tf7 tf8 tf9 tf10 tf11 tf12 tfl p0 p1 p2 pl))
  go_ret
  exact ⟨rfl, HB9.out⟩
end Go.Proofs.YteccifanbgcakaaGreatDoor.Mo
