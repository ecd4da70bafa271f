/- Are two lists the same (Same), and what the statements on heights wake by (wakes), read off the program by the walk. Conditions: the lists lie in memory, the variables as the program lays them. -/
import Derived.Test.YtccakjijoadjkaaDoorHo
import Derived.Deep.RegionHeld3
import Derived.BigQuiet
namespace Go.Proofs.YtccakjijoadjkaaDoor.Dp
open Go.ChangeShapes Go.WideShapes Go.ChangeAt Go.RowKit
open _root_.Go.Proofs.YtccakjijoadjkaaDoor.Op _root_.Go.Proofs.YtccakjijoadjkaaDoor.So
open _root_.Go.Proofs.YtccakjijoadjkaaDoor.Tb (Tab TabAt Bnds)
set_option maxRecDepth 20000

set_option maxHeartbeats 2000000 in
theorem same_any (a1 a2 : Option Addr) (n c1 c2 : Nat) (w : World) (hn : (n : Int) ≤ 100000000) (h : ∀ k, k < n → ∃ b1 b2 v, a1 = some ⟨b1, 0, none⟩ ∧ a2 = some ⟨b2, 0, none⟩ ∧ b1 < w.heap.size ∧ b2 < w.heap.size ∧ w.cell? ⟨b1, k, none⟩ = some (.int .i64 v) ∧ w.cell? ⟨b2, k, none⟩ = some (.int .i64 v)) :
    Calls Tryd.prog 25 #[.slice a1 n c1, .slice a2 n c2] w fun e w' => e = .returned (.bool true) ∧ Below w.heap.size w w' := by
  have HE : Hid (∀ k, k < n → ∃ b1 b2 v, a1 = some ⟨b1, 0, none⟩ ∧ a2 = some ⟨b2, 0, none⟩ ∧ b1 < w.heap.size ∧ b2 < w.heap.size ∧ w.cell? ⟨b1, k, none⟩ = some (.int .i64 v) ∧ w.cell? ⟨b2, k, none⟩ = some (.int .i64 v)) := h
  clear h
  go_enter Tryd.func25, Tryd.ntmps25
  go_wp2_with fail
  go_loopw [5] (fun i wr => ∃ (k q : Nat), k ≤ n ∧ i = .int .i64 k ∧ wr = w.drewN q) (fun i _ => n - (intOf i).toNat)
  case atStart => exact ⟨0, 0, by omega, rfl, rfl⟩
  case round =>
    rename World => wy
    obtain ⟨k, q, hk, rfl, rfl⟩ := hrel
    by_cases hlt : k < n
    · have j0 : (0 : Int) ≤ (k : Int) := by omega
      have j1 : (k : Int) < (n : Int) := by omega
      obtain ⟨b1, b2, v, rfl, rfl, l1, l2, f0, g0⟩ := HE.out k hlt
      clear HE
      have f0 : (w.drewN q).cell? _ = _ := f0
      have g0 : (w.drewN q).cell? _ = _ := g0
      have l1 : b1 < (w.drewN q).heap.size := l1
      have l2 : b2 < (w.drewN q).heap.size := l2
      generalize hWq : w.drewN q = W at *
      go_wp2_with fail
      go_quiet (fail)
      go_wp2_with fail
      go_roundw
      case rel => exact ⟨k + 1, q + nq, by omega, by go_num, by rw [← hWq]; simp⟩
      case measure => simp [intOf]; omega
    · have j1 : ¬ (k : Int) < (n : Int) := by omega
      go_wp2_with fail
      go_ret
      have B0 := Below.refl w.heap.size w
      exact ⟨rfl, B0.os, B0.tape, B0.output, B0.size, B0.block⟩
/-- The lists and the table that the statements wake by. -/
def hl1 : List O := [⟨2, 1, 2, 3, 0⟩, ⟨12, 4, 1, 1, 0⟩, ⟨17, 0, 4, 0, 0⟩]
def hl2 : List O := [⟨2, 1, 2, 3, 0⟩, ⟨15, 4, 5, 0, 0⟩, ⟨17, 0, 4, 0, 0⟩]
def hwt : Tab := ⟨fun _ => 1, fun k => if k = 1 then 3 else if k = 2 then 2 else 1, fun _ => 1, 1⟩
theorem hl1_ok : ∀ o ∈ hl1, o.Ok := fun o h => by
  simp only [hl1, List.mem_cons, List.not_mem_nil, or_false] at h
  rcases h with rfl | rfl | rfl <;> constructor <;> decide
theorem hl2_ok : ∀ o ∈ hl2, o.Ok := fun o h => by
  simp only [hl2, List.mem_cons, List.not_mem_nil, or_false] at h
  rcases h with rfl | rfl | rfl <;> constructor <;> decide
theorem hl1_lis : lisE hwt hl1 = 0 := by decide
theorem hl2_lis : lisE hwt hl2 = 0 := by decide
theorem hl1_h : hts (latN hwt hl1) (ofE hwt hl1) 0 = 6 ∧ hts (latN hwt hl1) (ofE hwt hl1) 1 = 5 ∧ hts (latN hwt hl1) (ofE hwt hl1) 2 = 2 := ⟨by kernel_rfl, by kernel_rfl, by kernel_rfl⟩
theorem hl2_h : hts (latN hwt hl2) (ofE hwt hl2) 0 = 1 ∧ hts (latN hwt hl2) (ofE hwt hl2) 1 = 4 ∧ hts (latN hwt hl2) (ofE hwt hl2) 2 = 2 := ⟨by kernel_rfl, by kernel_rfl, by kernel_rfl⟩
abbrev hl1C : Array Value := #[.int .i8 2, .int .u8 1, .int .u8 2, .int .u8 3, .int .i64 0, .int .i8 12, .int .u8 4, .int .u8 1, .int .u8 1, .int .i64 0, .int .i8 17, .int .u8 0, .int .u8 4, .int .u8 0, .int .i64 0]
abbrev hl2C : Array Value := #[.int .i8 2, .int .u8 1, .int .u8 2, .int .u8 3, .int .i64 0, .int .i8 15, .int .u8 4, .int .u8 5, .int .u8 0, .int .i64 0, .int .i8 17, .int .u8 0, .int .u8 4, .int .u8 0, .int .i64 0]
theorem hl1_at {w : World} {b : Nat} (h : At w b hl1C) : OpsAt w (some ⟨b, 0, none⟩) hl1 := by
  refine ⟨hl1_ok, by decide, fun _ => ⟨b, 0, rfl, h.lt, fun i hi => ?_⟩⟩
  have hi : i < 3 := hi
  match i, hi with
  | 0, _ => exact ⟨h.c 0 _ rfl, h.c 1 _ rfl, h.c 2 _ rfl, h.c 3 _ rfl, h.c 4 _ rfl⟩
  | 1, _ => exact ⟨h.c 5 _ rfl, h.c 6 _ rfl, h.c 7 _ rfl, h.c 8 _ rfl, h.c 9 _ rfl⟩
  | 2, _ => exact ⟨h.c 10 _ rfl, h.c 11 _ rfl, h.c 12 _ rfl, h.c 13 _ rfl, h.c 14 _ rfl⟩
theorem hl2_at {w : World} {b : Nat} (h : At w b hl2C) : OpsAt w (some ⟨b, 0, none⟩) hl2 := by
  refine ⟨hl2_ok, by decide, fun _ => ⟨b, 0, rfl, h.lt, fun i hi => ?_⟩⟩
  have hi : i < 3 := hi
  match i, hi with
  | 0, _ => exact ⟨h.c 0 _ rfl, h.c 1 _ rfl, h.c 2 _ rfl, h.c 3 _ rfl, h.c 4 _ rfl⟩
  | 1, _ => exact ⟨h.c 5 _ rfl, h.c 6 _ rfl, h.c 7 _ rfl, h.c 8 _ rfl, h.c 9 _ rfl⟩
  | 2, _ => exact ⟨h.c 10 _ rfl, h.c 11 _ rfl, h.c 12 _ rfl, h.c 13 _ rfl, h.c 14 _ rfl⟩
theorem ord3 {H g : Nat → Int} (h0 : H 0 = 1) (h1 : H 1 = 4) (h2 : H 2 = 2) (o : OrdF 3 H g) : g 0 = 1 ∧ g 1 = 2 ∧ g 2 = 0 := by
  have r0 := o.rg 0 (by omega)
  have r1 := o.rg 1 (by omega)
  have r2 := o.rg 2 (by omega)
  have s1 := o.st 0 1 (by omega) (by omega)
  have s2 := o.st 1 2 (by omega) (by omega)
  have s3 := o.st 0 2 (by omega) (by omega)
  have c0 : g 0 = 0 ∨ g 0 = 1 ∨ g 0 = 2 := by omega
  have c1 : g 1 = 0 ∨ g 1 = 1 ∨ g 1 = 2 := by omega
  have c2 : g 2 = 0 ∨ g 2 = 1 ∨ g 2 = 2 := by omega
  clear r0 r1 r2 o
  rcases c0 with e | e | e <;> rcases c1 with f | f | f <;> rcases c2 with k | k | k <;> first
    | exact ⟨e, f, k⟩
    | (exfalso; simp [Ahd, e, f, k, h0, h1, h2] at s1 s2 s3)
/-- Three numbers at the beginning of a block. -/
def R3 (W : World) (b : Nat) (x y z : Int) : Prop := b < W.heap.size ∧ W.cell? ⟨b, 0, none⟩ = some (.int .i64 x) ∧ W.cell? ⟨b, 1, none⟩ = some (.int .i64 y) ∧ W.cell? ⟨b, 2, none⟩ = some (.int .i64 z)
theorem R3.up {W W' : World} {b : Nat} {x y z : Int} (h : R3 W b x y z) (g : Below W.heap.size W W') : R3 W' b x y z :=
  ⟨Nat.lt_of_lt_of_le h.1 g.size, by rw [(bcell g).1 _ _ h.1]; exact h.2.1, by rw [(bcell g).1 _ _ h.1]; exact h.2.2.1, by rw [(bcell g).1 _ _ h.1]; exact h.2.2.2⟩
theorem same3 (W : World) (b : Nat) (x y z : Int) (t : TypeId) (h : R3 W b x y z) : Calls Tryd.prog 25 #[.slice (some ⟨b, 0, none⟩) 3 3, .slice (some ⟨W.heap.size, 0, none⟩) 3 3] (W.alloc (.cells #[.int .i64 x, .int .i64 y, .int .i64 z] t)) fun e w' => e = .returned (.bool true) ∧ Below W.heap.size W w' := by
  have g : Below W.heap.size W (W.alloc (.cells #[.int .i64 x, .int .i64 y, .int .i64 z] t)) := (Below.refl _ _).alloc (Nat.le_refl _) _
  have a := At.new W #[.int .i64 x, .int .i64 y, .int .i64 z] t
  obtain ⟨h1, h2, h3, h4⟩ := h.up g
  refine (same_any _ _ 3 3 3 _ (by omega) fun k hk => ?_).mono fun e w' h' => ⟨h'.1, g.trans (h'.2.mono g.size)⟩
  match k, hk with
  | 0, _ => exact ⟨b, W.heap.size, x, rfl, rfl, h1, a.lt, h2, a.c 0 _ rfl⟩
  | 1, _ => exact ⟨b, W.heap.size, y, rfl, rfl, h1, a.lt, h3, a.c 1 _ rfl⟩
  | 2, _ => exact ⟨b, W.heap.size, z, rfl, rfl, h1, a.lt, h4, a.c 2 _ rfl⟩
abbrev hwV : Value := .agg #[.int .i64 1, .int .i64 1, .int .i64 1, .int .i64 1, .int .i64 1, .int .i64 3, .int .i64 2, .int .i64 1, .int .i64 1, .int .i64 1, .int .i64 1, .int .i64 1, .int .i64 1]
abbrev hwC : Array Value := #[.int .i64 1, .int .i64 1, .int .i64 1, .int .i64 1, .int .i64 1, .int .i64 3, .int .i64 2, .int .i64 1, .int .i64 1, .int .i64 1, .int .i64 1, .int .i64 1, .int .i64 1]
theorem h_three (w : World) (b : Nat) (h : At w b hl1C) (hG : Bnds w) : Calls Tryd.prog 21 #[.slice (some ⟨b, 0, none⟩) 3 3, hwV] w fun e w' => ∃ hb, e = .returned (.tuple #[.slice (some ⟨hb, 0, none⟩) 3 3, .int .i64 0]) ∧ R3 w' hb 6 5 2 ∧ Below w.heap.size w w' := by
  refine (hof_ok (some ⟨b, 0, none⟩) 3 hl1 hwt w (hl1_at h) (by decide) hG hl1_lis).mono ?_
  rintro e w' ⟨hb, rfl, hi, -, hu⟩
  obtain ⟨h0, h1, h2⟩ := hl1_h
  exact ⟨hb, rfl, ⟨hi.lt, by rw [hi.c 0 (by decide), h0], by rw [hi.c 1 (by decide), h1], by rw [hi.c 2 (by decide), h2]⟩, hu⟩
theorem o_three (w : World) (b : Nat) (h : At w b hl2C) (hG : Bnds w) : Calls Tryd.prog 23 #[.slice (some ⟨b, 0, none⟩) 3 3, hwV] w fun e w' => ∃ hb, e = .returned (.tuple #[.slice (some ⟨hb, 0, none⟩) 3 3, .int .i64 0]) ∧ R3 w' hb 1 2 0 ∧ Below w.heap.size w w' := by
  refine (hord_ok (some ⟨b, 0, none⟩) 3 3 hwt (hts (latN hwt hl2) (ofE hwt hl2)) w (by decide) fun W hW => hof_ok (some ⟨b, 0, none⟩) 3 hl2 hwt W ((hl2_at h).below hW) (by decide) (hG.below hW hG.big) hl2_lis).mono ?_
  rintro e w' ⟨nb, g, rfl, hi, ho, -, hu⟩
  obtain ⟨h0, h1, h2⟩ := hl2_h
  obtain ⟨g0, g1, g2⟩ := ord3 h0 h1 h2 ho
  exact ⟨nb, rfl, ⟨hi.lt, by rw [hi.c 0 (by decide), g0], by rw [hi.c 1 (by decide), g1], by rw [hi.c 2 (by decide), g2]⟩, hu⟩
set_option maxHeartbeats 8000000 in
theorem wakes12_any (w : World) (hG : Bnds w) : Calls Tryd.prog 19 #[] w fun e w' => e = .returned (.bool true) ∧ Below w.heap.size w w' := by
  have HGi : Hid (Bnds w) := hG
  have HF : Hid (∀ W b, Below w.heap.size w W → At W b hl1C → Calls Tryd.prog 21 #[.slice (some ⟨b, 0, none⟩) 3 3, hwV] W fun e w' => ∃ hb, e = .returned (.tuple #[.slice (some ⟨hb, 0, none⟩) 3 3, .int .i64 0]) ∧ R3 w' hb 6 5 2 ∧ Below W.heap.size W w') := fun W b hb h => h_three W b h (HGi.out.below hb HGi.out.big)
  have HO : Hid (∀ W b, Below w.heap.size w W → At W b hl2C → Calls Tryd.prog 23 #[.slice (some ⟨b, 0, none⟩) 3 3, hwV] W fun e w' => ∃ hb, e = .returned (.tuple #[.slice (some ⟨hb, 0, none⟩) 3 3, .int .i64 0]) ∧ R3 w' hb 1 2 0 ∧ Below W.heap.size W w') := fun W b hb h => o_three W b h (HGi.out.below hb HGi.out.big)
  have HSm : Hid (∀ W b x y z, R3 W b x y z → Calls Tryd.prog 25 #[.slice (some ⟨b, 0, none⟩) 3 3, .slice (some ⟨W.heap.size, 0, none⟩) 3 3] (W.alloc (.cells #[.int .i64 x, .int .i64 y, .int .i64 z] 3)) fun e w' => e = .returned (.bool true) ∧ Below W.heap.size W w') := fun W b x y z h => same3 W b x y z 3 h
  clear hG HGi
  go_enter Tryd.func19, Tryd.ntmps19
  have HB0 : Hid (At ((w.alloc (.cells hwC 25)).alloc (.cells hl1C 40)) (w.heap.size + 1) hl1C ∧ At ((w.alloc (.cells hwC 25)).alloc (.cells hl1C 40)) w.heap.size hwC ∧ Below w.heap.size w ((w.alloc (.cells hwC 25)).alloc (.cells hl1C 40))) := by
    have a1 := At.new w hwC 25
    have a2 := At.new (w.alloc (.cells hwC 25)) hl1C 40
    rw [show (w.alloc (.cells hwC 25)).heap.size = w.heap.size + 1 by simp] at a2
    exact ⟨a2, a1.below ((Below.refl _ _).alloc (Nat.le_refl _) _) a1.lt, by go_grown⟩
  go_upto_region 3 with fail
  generalize (w.alloc (.cells hwC 25)).alloc (.cells hl1C 40) = W0 at *
  have tf := HB0.out.2.1
  have tf0 := tf.c 0 _ rfl; have tf1 := tf.c 1 _ rfl; have tf2 := tf.c 2 _ rfl; have tf3 := tf.c 3 _ rfl; have tf4 := tf.c 4 _ rfl; have tf5 := tf.c 5 _ rfl; have tf6 := tf.c 6 _ rfl; have tf7 := tf.c 7 _ rfl; have tf8 := tf.c 8 _ rfl; have tf9 := tf.c 9 _ rfl; have tf10 := tf.c 10 _ rfl; have tf11 := tf.c 11 _ rfl; have tf12 := tf.c 12 _ rfl; have tfl := tf.lt
  clear tf
  go_upto_region 4 with (first
    | (go_at_call 21; refine Calls.mono (HF.out _ _ HB0.out.2.2 HB0.out.1) ?_; rintro e w1 ⟨hb, rfl, hr, b1⟩; have HB1 : Hid (At w1 (w.heap.size + 1) hl1C ∧ At w1 w.heap.size hwC ∧ Below w.heap.size w w1 ∧ R3 w1 hb 6 5 2) := ⟨HB0.out.1.below b1 HB0.out.1.lt, HB0.out.2.1.below b1 HB0.out.2.1.lt, HB0.out.2.2.trans (b1.mono HB0.out.2.2.size), hr⟩; clear b1 hr HB0 HF tf0 tf1 tf2 tf3 tf4 tf5 tf6 tf7 tf8 tf9 tf10 tf11 tf12 tfl))
  have tf := HB1.out.2.1
  have tf0 := tf.c 0 _ rfl; have tf1 := tf.c 1 _ rfl; have tf2 := tf.c 2 _ rfl; have tf3 := tf.c 3 _ rfl; have tf4 := tf.c 4 _ rfl; have tf5 := tf.c 5 _ rfl; have tf6 := tf.c 6 _ rfl; have tf7 := tf.c 7 _ rfl; have tf8 := tf.c 8 _ rfl; have tf9 := tf.c 9 _ rfl; have tf10 := tf.c 10 _ rfl; have tf11 := tf.c 11 _ rfl; have tf12 := tf.c 12 _ rfl; have tfl := tf.lt
  have lf := HB1.out.1
  have lf0 := lf.c 0 _ rfl; have lf1 := lf.c 1 _ rfl; have lf2 := lf.c 2 _ rfl; have lf3 := lf.c 3 _ rfl; have lf4 := lf.c 4 _ rfl; have lf10 := lf.c 10 _ rfl; have lf11 := lf.c 11 _ rfl; have lf12 := lf.c 12 _ rfl; have lf13 := lf.c 13 _ rfl; have lf14 := lf.c 14 _ rfl; have lfl := lf.lt
  clear tf lf
  go_cut [5, 6] (fun s5 s6 wc => ∃ nb, s5 = .slice (some ⟨nb, 0, none⟩) 3 3 ∧ s6 = .int .i64 0 ∧ R3 wc hb 6 5 2 ∧ R3 wc nb 1 2 0 ∧ Below w.heap.size w wc)
  case first =>
    have HX : Hid (∀ w', Below w1.heap.size w1 w' → w'.cell? ⟨w.heap.size + 1, 0, none⟩ = some (.int .i8 2) ∧ w'.cell? ⟨w.heap.size + 1, 1, none⟩ = some (.int .u8 1) ∧ w'.cell? ⟨w.heap.size + 1, 2, none⟩ = some (.int .u8 2) ∧ w'.cell? ⟨w.heap.size + 1, 3, none⟩ = some (.int .u8 3) ∧ w'.cell? ⟨w.heap.size + 1, 4, none⟩ = some (.int .i64 0) ∧ w'.cell? ⟨w.heap.size + 1, 10, none⟩ = some (.int .i8 17) ∧ w'.cell? ⟨w.heap.size + 1, 11, none⟩ = some (.int .u8 0) ∧ w'.cell? ⟨w.heap.size + 1, 12, none⟩ = some (.int .u8 4) ∧ w'.cell? ⟨w.heap.size + 1, 13, none⟩ = some (.int .u8 0) ∧ w'.cell? ⟨w.heap.size + 1, 14, none⟩ = some (.int .i64 0) ∧ w'.cell? ⟨w.heap.size, 0, none⟩ = some (.int .i64 1) ∧ w'.cell? ⟨w.heap.size, 1, none⟩ = some (.int .i64 1) ∧ w'.cell? ⟨w.heap.size, 2, none⟩ = some (.int .i64 1) ∧ w'.cell? ⟨w.heap.size, 3, none⟩ = some (.int .i64 1) ∧ w'.cell? ⟨w.heap.size, 4, none⟩ = some (.int .i64 1) ∧ w'.cell? ⟨w.heap.size, 5, none⟩ = some (.int .i64 3) ∧ w'.cell? ⟨w.heap.size, 6, none⟩ = some (.int .i64 2) ∧ w'.cell? ⟨w.heap.size, 7, none⟩ = some (.int .i64 1) ∧ w'.cell? ⟨w.heap.size, 8, none⟩ = some (.int .i64 1) ∧ w'.cell? ⟨w.heap.size, 9, none⟩ = some (.int .i64 1) ∧ w'.cell? ⟨w.heap.size, 10, none⟩ = some (.int .i64 1) ∧ w'.cell? ⟨w.heap.size, 11, none⟩ = some (.int .i64 1) ∧ w'.cell? ⟨w.heap.size, 12, none⟩ = some (.int .i64 1)) := fun w' g => by
      have a := HB1.out.1.below g HB1.out.1.lt
      have b := HB1.out.2.1.below g HB1.out.2.1.lt
      exact ⟨a.c 0 _ rfl, a.c 1 _ rfl, a.c 2 _ rfl, a.c 3 _ rfl, a.c 4 _ rfl, a.c 10 _ rfl, a.c 11 _ rfl, a.c 12 _ rfl, a.c 13 _ rfl, a.c 14 _ rfl, b.c 0 _ rfl, b.c 1 _ rfl, b.c 2 _ rfl, b.c 3 _ rfl, b.c 4 _ rfl, b.c 5 _ rfl, b.c 6 _ rfl, b.c 7 _ rfl, b.c 8 _ rfl, b.c 9 _ rfl, b.c 10 _ rfl, b.c 11 _ rfl, b.c 12 _ rfl⟩
    have HO1 : Hid (Calls Tryd.prog 23 #[.slice (some ⟨w1.heap.size, 0, none⟩) 3 3, hwV] (w1.alloc (.cells hl2C 40)).drew fun e w' => ∃ nb, e = .returned (.tuple #[.slice (some ⟨nb, 0, none⟩) 3 3, .int .i64 0]) ∧ R3 w' hb 6 5 2 ∧ R3 w' nb 1 2 0 ∧ Below w.heap.size w w' ∧ Below w1.heap.size w1 w') := by
      have g : Below w1.heap.size w1 (w1.alloc (.cells hl2C 40)).drew := ((Below.refl _ _).alloc (Nat.le_refl _) _).drew
      have a := At.new w1 hl2C 40
      refine (HO.out _ w1.heap.size (HB1.out.2.2.1.trans (g.mono HB1.out.2.2.1.size)) ⟨a.c, a.f, a.lt⟩).mono ?_
      rintro e w' ⟨nb, rfl, hr, b2⟩
      have g2 := g.trans (b2.mono g.size)
      exact ⟨nb, rfl, HB1.out.2.2.2.up g2, hr, HB1.out.2.2.1.trans (g2.mono HB1.out.2.2.1.size), g2⟩
    clear HO
    go_region_held3 (fun w' => w'.cell? ⟨w.heap.size + 1, 0, none⟩ = some (.int .i8 2) ∧ w'.cell? ⟨w.heap.size + 1, 1, none⟩ = some (.int .u8 1) ∧ w'.cell? ⟨w.heap.size + 1, 2, none⟩ = some (.int .u8 2) ∧ w'.cell? ⟨w.heap.size + 1, 3, none⟩ = some (.int .u8 3) ∧ w'.cell? ⟨w.heap.size + 1, 4, none⟩ = some (.int .i64 0) ∧ w'.cell? ⟨w.heap.size + 1, 10, none⟩ = some (.int .i8 17) ∧ w'.cell? ⟨w.heap.size + 1, 11, none⟩ = some (.int .u8 0) ∧ w'.cell? ⟨w.heap.size + 1, 12, none⟩ = some (.int .u8 4) ∧ w'.cell? ⟨w.heap.size + 1, 13, none⟩ = some (.int .u8 0) ∧ w'.cell? ⟨w.heap.size + 1, 14, none⟩ = some (.int .i64 0) ∧ w'.cell? ⟨w.heap.size, 0, none⟩ = some (.int .i64 1) ∧ w'.cell? ⟨w.heap.size, 1, none⟩ = some (.int .i64 1) ∧ w'.cell? ⟨w.heap.size, 2, none⟩ = some (.int .i64 1) ∧ w'.cell? ⟨w.heap.size, 3, none⟩ = some (.int .i64 1) ∧ w'.cell? ⟨w.heap.size, 4, none⟩ = some (.int .i64 1) ∧ w'.cell? ⟨w.heap.size, 5, none⟩ = some (.int .i64 3) ∧ w'.cell? ⟨w.heap.size, 6, none⟩ = some (.int .i64 2) ∧ w'.cell? ⟨w.heap.size, 7, none⟩ = some (.int .i64 1) ∧ w'.cell? ⟨w.heap.size, 8, none⟩ = some (.int .i64 1) ∧ w'.cell? ⟨w.heap.size, 9, none⟩ = some (.int .i64 1) ∧ w'.cell? ⟨w.heap.size, 10, none⟩ = some (.int .i64 1) ∧ w'.cell? ⟨w.heap.size, 11, none⟩ = some (.int .i64 1) ∧ w'.cell? ⟨w.heap.size, 12, none⟩ = some (.int .i64 1))
      (first | exact HX.out _ HB2.out.2.2.2 | (refine HX.out _ ?_; go_grown; done) | go_keep)
      (first | (go_at_call 23; refine Calls.mono HO1.out ?_; rintro e w2 ⟨nb, rfl, hr1, hr2, hr3, hr4⟩; have HB2 : Hid (R3 w2 hb 6 5 2 ∧ R3 w2 nb 1 2 0 ∧ Below w.heap.size w w2 ∧ Below w1.heap.size w1 w2) := ⟨hr1, hr2, hr3, hr4⟩; clear hr1 hr2 hr3 hr4 HO1))
    all_goals
      go_wp2_with fail
      go_meet
      case rel => exact ⟨nb, rfl, rfl, HB2.out.1, HB2.out.2.1, HB2.out.2.2.1⟩
  case rest =>
    obtain ⟨nb, rfl, rfl, h1, h2, h3⟩ := hcut
    have HR : Hid (R3 wc hb 6 5 2 ∧ R3 wc nb 1 2 0 ∧ Below w.heap.size w wc) := ⟨h1, h2, h3⟩
    clear h1 h2 h3 HB1 HO lf0 lf1 lf2 lf3 lf4 lf10 lf11 lf12 lf13 lf14 lfl tf0 tf1 tf2 tf3 tf4 tf5 tf6 tf7 tf8 tf9 tf10 tf11 tf12 tfl
    have HS1 : Hid (Calls Tryd.prog 25 #[.slice (some ⟨hb, 0, none⟩) 3 3, .slice (some ⟨wc.heap.size, 0, none⟩) 3 3] (wc.alloc (.cells #[.int .i64 6, .int .i64 5, .int .i64 2] 3)) fun e w' => e = .returned (.bool true) ∧ R3 w' nb 1 2 0 ∧ Below w.heap.size w w') := (HSm.out wc hb 6 5 2 HR.out.1).mono fun e w' h => ⟨h.1, HR.out.2.1.up h.2, HR.out.2.2.trans (h.2.mono HR.out.2.2.size)⟩
    have HS2 : Hid (∀ W, R3 W nb 1 2 0 → Calls Tryd.prog 25 #[.slice (some ⟨nb, 0, none⟩) 3 3, .slice (some ⟨W.heap.size, 0, none⟩) 3 3] (W.alloc (.cells #[.int .i64 1, .int .i64 2, .int .i64 0] 3)) fun e w' => e = .returned (.bool true) ∧ Below W.heap.size W w') := fun W h => HSm.out W nb 1 2 0 h
    clear HSm HR
    go_wp2_with (first
      | (go_at_call 25; refine Calls.mono HS1.out ?_; rintro e w3 ⟨rfl, h1, h2⟩; have HR2 : Hid (R3 w3 nb 1 2 0 ∧ Below w.heap.size w w3) := ⟨h1, h2⟩; clear h1 h2 HS1)
      | (go_at_call 25; refine Calls.mono (HS2.out w3 HR2.out.1) ?_; rintro e w4 ⟨rfl, b4⟩; have HR3 : Hid (Below w.heap.size w w4) := HR2.out.2.trans (b4.mono HR2.out.2.size); clear b4 HR2))
    go_ret
    exact ⟨rfl, HR3.out⟩
end Go.Proofs.YtccakjijoadjkaaDoor.Dp
