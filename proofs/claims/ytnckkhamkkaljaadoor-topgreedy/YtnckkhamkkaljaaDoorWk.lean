/- What the statements of the list wake by (wakes): three operations. Conditions: the variables as the program lays them. -/
import Derived.Test.YtnckkhamkkaljaaDoorHo
import Derived.Deep.RegionHeld3
import Derived.BigQuiet
import Derived.Test.YtnckkhamkkaljaaDoorWi
import Derived.Test.YtnckkhamkkaljaaDoorWj
namespace Go.Proofs.YtnckkhamkkaljaaDoor.Dp
open Go.ChangeShapes Go.WideShapes Go.ChangeAt Go.RowKit
open _root_.Go.Proofs.YtnckkhamkkaljaaDoor.Op _root_.Go.Proofs.YtnckkhamkkaljaaDoor.So
open _root_.Go.Proofs.YtnckkhamkkaljaaDoor.Tb (Tab TabAt Bnds)
set_option maxRecDepth 20000

set_option maxHeartbeats 2000000 in
theorem same_any (a1 a2 : Option Addr) (n c1 c2 : Nat) (w : World) (hn : (n : Int) ≤ 100000000) (h : ∀ k, k < n → ∃ b1 b2 v, a1 = some ⟨b1, 0, none⟩ ∧ a2 = some ⟨b2, 0, none⟩ ∧ b1 < w.heap.size ∧ b2 < w.heap.size ∧ w.cell? ⟨b1, k, none⟩ = some (.int .i64 v) ∧ w.cell? ⟨b2, k, none⟩ = some (.int .i64 v)) :
    Calls Tryd.prog 10 #[.slice a1 n c1, .slice a2 n c2] w fun e w' => e = .returned (.bool true) ∧ Below w.heap.size w w' := by
  have HE : Hid (∀ k, k < n → ∃ b1 b2 v, a1 = some ⟨b1, 0, none⟩ ∧ a2 = some ⟨b2, 0, none⟩ ∧ b1 < w.heap.size ∧ b2 < w.heap.size ∧ w.cell? ⟨b1, k, none⟩ = some (.int .i64 v) ∧ w.cell? ⟨b2, k, none⟩ = some (.int .i64 v)) := h
  clear h
  go_enter Tryd.func10, Tryd.ntmps10
  go_wp2_with fail
  go_loopw [5] (fun i wr => ∃ (k q : Nat), k ≤ n ∧ i = .int .i64 k ∧ wr = w.drewN q) (fun i _ => n - (intOf i).toNat)
  case atStart => exact ⟨0, 0, by omega, rfl, rfl⟩
  case round =>
    rename World => wy
    obtain ⟨k, q, hk, rfl, rfl⟩ := hrel
    by_cases hlt : k < n
    · have j0 : (0 : Int) ≤ (k : Int) := by omega
      have j1 : (k : Int) < (n : Int) := by omega
      obtain ⟨b1, b2, v, rfl, rfl, l1, l2, f0, g0⟩ := HE.out k hlt
      clear HE
      have f0 : (w.drewN q).cell? _ = _ := f0
      have g0 : (w.drewN q).cell? _ = _ := g0
      have l1 : b1 < (w.drewN q).heap.size := l1
      have l2 : b2 < (w.drewN q).heap.size := l2
      generalize hWq : w.drewN q = W at *
      go_wp2_with fail
      go_quiet (fail)
      go_wp2_with fail
      go_roundw
      case rel => exact ⟨k + 1, q + nq, by omega, by go_num, by rw [← hWq]; simp⟩
      case measure => simp [intOf]; omega
    · have j1 : ¬ (k : Int) < (n : Int) := by omega
      go_wp2_with fail
      go_ret
      have B0 := Below.refl w.heap.size w
      exact ⟨rfl, B0.os, B0.tape, B0.output, B0.size, B0.block⟩
/-- The lists and the table that the statements wake by. -/
def hl1 : List O := [⟨2, 1, 2, 3, 0⟩, ⟨12, 4, 1, 1, 0⟩, ⟨17, 0, 4, 0, 0⟩]
def hl2 : List O := [⟨2, 1, 2, 3, 0⟩, ⟨15, 4, 5, 0, 0⟩, ⟨17, 0, 4, 0, 0⟩]
def hwt : Tab := ⟨fun _ => 1, fun k => if k = 1 then 3 else if k = 2 then 2 else 1, fun _ => 1, 1⟩
theorem hl1_ok : ∀ o ∈ hl1, o.Ok := fun o h => by
  simp only [hl1, List.mem_cons, List.not_mem_nil, or_false] at h
  rcases h with rfl | rfl | rfl <;> constructor <;> decide
theorem hl2_ok : ∀ o ∈ hl2, o.Ok := fun o h => by
  simp only [hl2, List.mem_cons, List.not_mem_nil, or_false] at h
  rcases h with rfl | rfl | rfl <;> constructor <;> decide
theorem hl1_lis : lisE hwt hl1 = 0 := by decide
theorem hl2_lis : lisE hwt hl2 = 0 := by decide
theorem hl1_h : hts (latN hwt hl1) (ofE hwt hl1) 0 = 6 ∧ hts (latN hwt hl1) (ofE hwt hl1) 1 = 5 ∧ hts (latN hwt hl1) (ofE hwt hl1) 2 = 2 := ⟨by kernel_rfl, by kernel_rfl, by kernel_rfl⟩
theorem hl2_h : hts (latN hwt hl2) (ofE hwt hl2) 0 = 1 ∧ hts (latN hwt hl2) (ofE hwt hl2) 1 = 4 ∧ hts (latN hwt hl2) (ofE hwt hl2) 2 = 2 := ⟨by kernel_rfl, by kernel_rfl, by kernel_rfl⟩
abbrev hl1C : Array Value := #[.int .i8 2, .int .u8 1, .int .u8 2, .int .u8 3, .int .i64 0, .int .i8 12, .int .u8 4, .int .u8 1, .int .u8 1, .int .i64 0, .int .i8 17, .int .u8 0, .int .u8 4, .int .u8 0, .int .i64 0]
abbrev hl2C : Array Value := #[.int .i8 2, .int .u8 1, .int .u8 2, .int .u8 3, .int .i64 0, .int .i8 15, .int .u8 4, .int .u8 5, .int .u8 0, .int .i64 0, .int .i8 17, .int .u8 0, .int .u8 4, .int .u8 0, .int .i64 0]
theorem hl1_at {w : World} {b : Nat} (h : At w b hl1C) : OpsAt w (some ⟨b, 0, none⟩) hl1 := by
  refine ⟨hl1_ok, by decide, fun _ => ⟨b, 0, rfl, h.lt, fun i hi => ?_⟩⟩
  have hi : i < 3 := hi
  match i, hi with
  | 0, _ => exact ⟨h.c 0 _ rfl, h.c 1 _ rfl, h.c 2 _ rfl, h.c 3 _ rfl, h.c 4 _ rfl⟩
  | 1, _ => exact ⟨h.c 5 _ rfl, h.c 6 _ rfl, h.c 7 _ rfl, h.c 8 _ rfl, h.c 9 _ rfl⟩
  | 2, _ => exact ⟨h.c 10 _ rfl, h.c 11 _ rfl, h.c 12 _ rfl, h.c 13 _ rfl, h.c 14 _ rfl⟩
theorem hl2_at {w : World} {b : Nat} (h : At w b hl2C) : OpsAt w (some ⟨b, 0, none⟩) hl2 := by
  refine ⟨hl2_ok, by decide, fun _ => ⟨b, 0, rfl, h.lt, fun i hi => ?_⟩⟩
  have hi : i < 3 := hi
  match i, hi with
  | 0, _ => exact ⟨h.c 0 _ rfl, h.c 1 _ rfl, h.c 2 _ rfl, h.c 3 _ rfl, h.c 4 _ rfl⟩
  | 1, _ => exact ⟨h.c 5 _ rfl, h.c 6 _ rfl, h.c 7 _ rfl, h.c 8 _ rfl, h.c 9 _ rfl⟩
  | 2, _ => exact ⟨h.c 10 _ rfl, h.c 11 _ rfl, h.c 12 _ rfl, h.c 13 _ rfl, h.c 14 _ rfl⟩
theorem ord3 {H g : Nat → Int} (h0 : H 0 = 1) (h1 : H 1 = 4) (h2 : H 2 = 2) (o : OrdF 3 H g) : g 0 = 1 ∧ g 1 = 2 ∧ g 2 = 0 := by
  have r0 := o.rg 0 (by omega)
  have r1 := o.rg 1 (by omega)
  have r2 := o.rg 2 (by omega)
  have s1 := o.st 0 1 (by omega) (by omega)
  have s2 := o.st 1 2 (by omega) (by omega)
  have s3 := o.st 0 2 (by omega) (by omega)
  have c0 : g 0 = 0 ∨ g 0 = 1 ∨ g 0 = 2 := by omega
  have c1 : g 1 = 0 ∨ g 1 = 1 ∨ g 1 = 2 := by omega
  have c2 : g 2 = 0 ∨ g 2 = 1 ∨ g 2 = 2 := by omega
  clear r0 r1 r2 o
  rcases c0 with e | e | e <;> rcases c1 with f | f | f <;> rcases c2 with k | k | k <;> first
    | exact ⟨e, f, k⟩
    | (exfalso; simp [Ahd, e, f, k, h0, h1, h2] at s1 s2 s3)
/-- Three numbers at the beginning of a block. -/
def R3 (W : World) (b : Nat) (x y z : Int) : Prop := b < W.heap.size ∧ W.cell? ⟨b, 0, none⟩ = some (.int .i64 x) ∧ W.cell? ⟨b, 1, none⟩ = some (.int .i64 y) ∧ W.cell? ⟨b, 2, none⟩ = some (.int .i64 z)
theorem R3.up {W W' : World} {b : Nat} {x y z : Int} (h : R3 W b x y z) (g : Below W.heap.size W W') : R3 W' b x y z :=
  ⟨Nat.lt_of_lt_of_le h.1 g.size, by rw [(bcell g).1 _ _ h.1]; exact h.2.1, by rw [(bcell g).1 _ _ h.1]; exact h.2.2.1, by rw [(bcell g).1 _ _ h.1]; exact h.2.2.2⟩
theorem same3 (W : World) (b : Nat) (x y z : Int) (t : TypeId) (h : R3 W b x y z) : Calls Tryd.prog 10 #[.slice (some ⟨b, 0, none⟩) 3 3, .slice (some ⟨W.heap.size, 0, none⟩) 3 3] (W.alloc (.cells #[.int .i64 x, .int .i64 y, .int .i64 z] t)) fun e w' => e = .returned (.bool true) ∧ Below W.heap.size W w' := by
  have g : Below W.heap.size W (W.alloc (.cells #[.int .i64 x, .int .i64 y, .int .i64 z] t)) := (Below.refl _ _).alloc (Nat.le_refl _) _
  have a := At.new W #[.int .i64 x, .int .i64 y, .int .i64 z] t
  obtain ⟨h1, h2, h3, h4⟩ := h.up g
  refine (same_any _ _ 3 3 3 _ (by omega) fun k hk => ?_).mono fun e w' h' => ⟨h'.1, g.trans (h'.2.mono g.size)⟩
  match k, hk with
  | 0, _ => exact ⟨b, W.heap.size, x, rfl, rfl, h1, a.lt, h2, a.c 0 _ rfl⟩
  | 1, _ => exact ⟨b, W.heap.size, y, rfl, rfl, h1, a.lt, h3, a.c 1 _ rfl⟩
  | 2, _ => exact ⟨b, W.heap.size, z, rfl, rfl, h1, a.lt, h4, a.c 2 _ rfl⟩
abbrev hwV : Value := .agg #[.int .i64 1, .int .i64 1, .int .i64 1, .int .i64 1, .int .i64 1, .int .i64 3, .int .i64 2, .int .i64 1, .int .i64 1, .int .i64 1, .int .i64 1, .int .i64 1, .int .i64 1]
abbrev hwC : Array Value := #[.int .i64 1, .int .i64 1, .int .i64 1, .int .i64 1, .int .i64 1, .int .i64 3, .int .i64 2, .int .i64 1, .int .i64 1, .int .i64 1, .int .i64 1, .int .i64 1, .int .i64 1]
theorem h_three (w : World) (b : Nat) (h : At w b hl1C) (hG : Bnds w) : Calls Tryd.prog 48 #[.slice (some ⟨b, 0, none⟩) 3 3, hwV] w fun e w' => ∃ hb, e = .returned (.tuple #[.slice (some ⟨hb, 0, none⟩) 3 3, .int .i64 0]) ∧ R3 w' hb 6 5 2 ∧ Below w.heap.size w w' := by
  refine (hof_ok (some ⟨b, 0, none⟩) 3 hl1 hwt w (hl1_at h) (by decide) hG hl1_lis).mono ?_
  rintro e w' ⟨hb, rfl, hi, -, hu⟩
  obtain ⟨h0, h1, h2⟩ := hl1_h
  exact ⟨hb, rfl, ⟨hi.lt, by rw [hi.c 0 (by decide), h0], by rw [hi.c 1 (by decide), h1], by rw [hi.c 2 (by decide), h2]⟩, hu⟩
theorem o_three (w : World) (b : Nat) (h : At w b hl2C) (hG : Bnds w) : Calls Tryd.prog 27 #[.slice (some ⟨b, 0, none⟩) 3 3, hwV] w fun e w' => ∃ hb, e = .returned (.tuple #[.slice (some ⟨hb, 0, none⟩) 3 3, .int .i64 0]) ∧ R3 w' hb 1 2 0 ∧ Below w.heap.size w w' := by
  refine (hord_ok (some ⟨b, 0, none⟩) 3 3 hwt (hts (latN hwt hl2) (ofE hwt hl2)) w (by decide) fun W hW => hof_ok (some ⟨b, 0, none⟩) 3 hl2 hwt W ((hl2_at h).below hW) (by decide) (hG.below hW hG.big) hl2_lis).mono ?_
  rintro e w' ⟨nb, g, rfl, hi, ho, -, hu⟩
  obtain ⟨h0, h1, h2⟩ := hl2_h
  obtain ⟨g0, g1, g2⟩ := ord3 h0 h1 h2 ho
  exact ⟨nb, rfl, ⟨hi.lt, by rw [hi.c 0 (by decide), g0], by rw [hi.c 1 (by decide), g1], by rw [hi.c 2 (by decide), g2]⟩, hu⟩
end Go.Proofs.YtnckkhamkkaljaaDoor.Dp

namespace Go.Proofs.YtnckkhamkkaljaaDoor.Ls
open Go.ChangeShapes Go.WideShapes Go.ChangeAt Go.RowKit
open _root_.Go.Proofs.YtnckkhamkkaljaaDoor.Op _root_.Go.Proofs.YtnckkhamkkaljaaDoor.So _root_.Go.Proofs.YtnckkhamkkaljaaDoor.Dp _root_.Go.Proofs.YtnckkhamkkaljaaDoor.ListWay
open _root_.Go.Proofs.YtnckkhamkkaljaaDoor.Tb (Tab TabAt Bnds)
set_option maxRecDepth 20000

def tA : Tab := ⟨fun _ => 1, fun k => if k = 1 then 3 else if k = 2 then 2 else 1, fun k => if k = 1 then 2 else 1, 0⟩
def tZ : Tab := ⟨fun k => if k = 1 then 0 else 1, fun k => if k = 1 then 3 else if k = 2 then 2 else 1, fun k => if k = 1 then 2 else 1, 0⟩
def xA : List O := [⟨12, 1, 2, 3, 0⟩, ⟨12, 4, 2, 2, 0⟩, ⟨12, 5, 2, 2, 0⟩]
def f3 (x y z : Int) : Nat → Int := fun k => if k = 0 then x else if k = 1 then y else z
theorem tA_lis : lisE tA xA = 0 := by kernel_rfl
theorem tZ_lis : lisE tZ xA = 0 := by kernel_rfl
theorem tA_of : ofE tA xA = [] := by kernel_rfl
theorem tA_hv : hvU tA xA = true := by kernel_rfl
theorem tZ_hv : hvU tZ xA = false := by kernel_rfl
theorem tA_ord : ordC (hts (latN tA xA) []) 3 = [0, 1, 2] := by kernel_rfl
theorem stp_yes {s : ListWay.Sys} {ord : List Nat} {c : Nat → Int} {y : Int} {i : Nat} (h1 : placed s c < s.n) (h2 : ord.find? (okB s c y) = some i) : stp s ord (c, y) = (ListWay.upd c i y, y) := by
  unfold stp
  simp only [h1, if_true, h2]
theorem stp_no {s : ListWay.Sys} {ord : List Nat} {c : Nat → Int} {y : Int} (h1 : placed s c < s.n) (h2 : ord.find? (okB s c y) = none) : stp s ord (c, y) = (c, y + 1) := by
  unfold stp
  simp only [h1, if_true, h2]
abbrev sA : ListWay.Sys := sysL tA xA []
abbrev cA0 : Nat → Int := fun _ => -1
abbrev cA1 : Nat → Int := ListWay.upd cA0 0 0
abbrev cA2 : Nat → Int := ListWay.upd cA1 1 2
abbrev cA3 : Nat → Int := ListWay.upd cA2 2 4
theorem wA : way sA [0, 1, 2] 7 = (cA3, 4) := by
  have w1 : way sA [0, 1, 2] 1 = (cA1, 0) := stp_yes (by decide) (by kernel_rfl)
  have w2 : way sA [0, 1, 2] 2 = (cA1, 1) := by show stp _ _ (way sA [0, 1, 2] 1) = _; rw [w1]; exact stp_no (by decide) (by kernel_rfl)
  have w3 : way sA [0, 1, 2] 3 = (cA1, 2) := by show stp _ _ (way sA [0, 1, 2] 2) = _; rw [w2]; exact stp_no (by decide) (by kernel_rfl)
  have w4 : way sA [0, 1, 2] 4 = (cA2, 2) := by show stp _ _ (way sA [0, 1, 2] 3) = _; rw [w3]; exact stp_yes (by decide) (by kernel_rfl)
  have w5 : way sA [0, 1, 2] 5 = (cA2, 3) := by show stp _ _ (way sA [0, 1, 2] 4) = _; rw [w4]; exact stp_no (by decide) (by kernel_rfl)
  have w6 : way sA [0, 1, 2] 6 = (cA2, 4) := by show stp _ _ (way sA [0, 1, 2] 5) = _; rw [w5]; exact stp_no (by decide) (by kernel_rfl)
  show stp _ _ (way sA [0, 1, 2] 6) = _
  rw [w6]
  exact stp_yes (by decide) (by kernel_rfl)
theorem xA_ok : ∀ o ∈ xA, o.Ok := fun o h => by
  simp only [xA, List.mem_cons, List.not_mem_nil, or_false] at h
  rcases h with rfl | rfl | rfl <;> constructor <;> decide
theorem cA_is : cyL tA xA = cA3 := by
  have ho : ∀ i, i ∈ ([0, 1, 2] : List Nat) ↔ i < sA.n := fun i => by
    show i ∈ ([0, 1, 2] : List Nat) ↔ i < 3
    simp
    omega
  have hE : EOk xA.length [] := by
    have := (lis_parts xA_ok tA_lis).1
    rw [tA_of] at this
    exact this
  unfold cyL
  rw [tA_of]
  have h3 : xA.length = 3 := rfl
  rw [h3, tA_ord]
  have hp : placed sA (way sA [0, 1, 2] 7).1 = sA.n := by rw [wA]; decide
  have := sch_is (sysL_ok (lis_all tA_lis).1 tA_hv hE) ho hp
  rw [wA] at this
  exact this.symm
abbrev xAC : Array Value := #[.int .i8 12, .int .u8 1, .int .u8 2, .int .u8 3, .int .i64 0, .int .i8 12, .int .u8 4, .int .u8 2, .int .u8 2, .int .i64 0, .int .i8 12, .int .u8 5, .int .u8 2, .int .u8 2, .int .i64 0]
theorem xA_at {w : World} {b : Nat} (h : At w b xAC) : OpsAt w (some ⟨b, 0, none⟩) xA := by
  refine ⟨xA_ok, by decide, fun _ => ⟨b, 0, rfl, h.lt, fun i hi => ?_⟩⟩
  have hi : i < 3 := hi
  match i, hi with
  | 0, _ => exact ⟨h.c 0 _ rfl, h.c 1 _ rfl, h.c 2 _ rfl, h.c 3 _ rfl, h.c 4 _ rfl⟩
  | 1, _ => exact ⟨h.c 5 _ rfl, h.c 6 _ rfl, h.c 7 _ rfl, h.c 8 _ rfl, h.c 9 _ rfl⟩
  | 2, _ => exact ⟨h.c 10 _ rfl, h.c 11 _ rfl, h.c 12 _ rfl, h.c 13 _ rfl, h.c 14 _ rfl⟩
theorem nl3 {W : World} {b : Nat} {x y z : Int} (h : R3 W b x y z) (hx : 0 ≤ x ∧ x ≤ 100) (hy : 0 ≤ y ∧ y ≤ 100) (hz : 0 ≤ z ∧ z ≤ 100) : Nl W (some ⟨b, 0, none⟩) 3 (f3 x y z) := by
  refine ⟨fun _ => ⟨b, 0, rfl, h.1, fun k hk => ?_⟩, fun k hk => ?_⟩
  · match k, hk with
    | 0, _ => exact h.2.1
    | 1, _ => exact h.2.2.1
    | 2, _ => exact h.2.2.2
  · unfold f3
    split
    · omega
    · split <;> omega
theorem ck_yes : ckB tA xA 3 (f3 0 2 4) = true := by kernel_rfl
theorem ck_no : ckB tA xA 3 (f3 0 1 4) = false := by kernel_rfl
theorem r3_new (W : World) (x y z : Int) (t : TypeId) : R3 (W.alloc (.cells #[.int .i64 x, .int .i64 y, .int .i64 z] t)) W.heap.size x y z := by
  have a := At.new W #[.int .i64 x, .int .i64 y, .int .i64 z] t
  exact ⟨a.lt, a.c 0 _ rfl, a.c 1 _ rfl, a.c 2 _ rfl⟩
set_option maxHeartbeats 8000000 in
theorem wakes_any (w : World) (hG : Bnds w) : Calls Tryd.prog 7 #[] w fun e w' => e = .returned (.bool true) ∧ Below w.heap.size w w' := by
  have HGi : Hid (Bnds w) := hG
  have HCy : Hid (∀ W b, Below w.heap.size w W → At W b xAC → Calls Tryd.prog 11 #[.slice (some ⟨b, 0, none⟩) 3 3, .agg #[.int .i64 1, .int .i64 1, .int .i64 1, .int .i64 1, .int .i64 1, .int .i64 3, .int .i64 2, .int .i64 1, .int .i64 1, .int .i64 2, .int .i64 1, .int .i64 1, .int .i64 0]] W fun e w' => ∃ hb, e = .returned (.tuple #[.slice (some ⟨hb, 0, none⟩) 3 3, .int .i64 0]) ∧ R3 w' hb 0 2 4 ∧ Below W.heap.size W w') := fun W b hb h => by
    refine (cycles_ok (some ⟨b, 0, none⟩) 3 xA tA W (xA_at h) (by decide) (HGi.out.below hb HGi.out.big) tA_lis tA_hv).mono ?_
    rintro e w' ⟨hb, rfl, hi, -, hu⟩
    rw [cA_is] at hi
    exact ⟨hb, rfl, ⟨hi.lt, hi.c 0 (by decide), hi.c 1 (by decide), hi.c 2 (by decide)⟩, hu⟩
  have HCz : Hid (∀ W b, Below w.heap.size w W → At W b xAC → Calls Tryd.prog 11 #[.slice (some ⟨b, 0, none⟩) 3 3, .agg #[.int .i64 1, .int .i64 0, .int .i64 1, .int .i64 1, .int .i64 1, .int .i64 3, .int .i64 2, .int .i64 1, .int .i64 1, .int .i64 2, .int .i64 1, .int .i64 1, .int .i64 0]] W fun e w' => e = .returned (.tuple #[.slice none 0 0, .int .i64 21]) ∧ Below W.heap.size W w') := fun W b hb h => cycles_unit (some ⟨b, 0, none⟩) 3 xA tZ W (xA_at h) (by decide) (HGi.out.below hb HGi.out.big) tZ_lis tZ_hv
  have HCk : Hid (∀ W b hb, Below w.heap.size w W → At W b xAC → R3 W hb 0 2 4 → Calls Tryd.prog 8 #[.slice (some ⟨b, 0, none⟩) 3 3, .agg #[.int .i64 1, .int .i64 1, .int .i64 1, .int .i64 1, .int .i64 1, .int .i64 3, .int .i64 2, .int .i64 1, .int .i64 1, .int .i64 2, .int .i64 1, .int .i64 1, .int .i64 0], .slice (some ⟨hb, 0, none⟩) 3 3] W fun e w' => e = .returned (.bool true) ∧ Below W.heap.size W w') := fun W b hb hu h h3 => by
    rw [← ck_yes]
    exact check_any (some ⟨hb, 0, none⟩) (some ⟨b, 0, none⟩) 3 3 3 xA tA (f3 0 2 4) W (nl3 h3 (by omega) (by omega) (by omega)) (xA_at h) (by decide) (HGi.out.below hu HGi.out.big) (by decide) (by omega)
  have HCn : Hid (∀ W b hb, Below w.heap.size w W → At W b xAC → R3 W hb 0 1 4 → Calls Tryd.prog 8 #[.slice (some ⟨b, 0, none⟩) 3 3, .agg #[.int .i64 1, .int .i64 1, .int .i64 1, .int .i64 1, .int .i64 1, .int .i64 3, .int .i64 2, .int .i64 1, .int .i64 1, .int .i64 2, .int .i64 1, .int .i64 1, .int .i64 0], .slice (some ⟨hb, 0, none⟩) 3 3] W fun e w' => e = .returned (.bool false) ∧ Below W.heap.size W w') := fun W b hb hu h h3 => by
    rw [← ck_no]
    exact check_any (some ⟨hb, 0, none⟩) (some ⟨b, 0, none⟩) 3 3 3 xA tA (f3 0 1 4) W (nl3 h3 (by omega) (by omega) (by omega)) (xA_at h) (by decide) (HGi.out.below hu HGi.out.big) (by decide) (by omega)
  have HSm : Hid (∀ W b x y z, R3 W b x y z → Calls Tryd.prog 10 #[.slice (some ⟨b, 0, none⟩) 3 3, .slice (some ⟨W.heap.size, 0, none⟩) 3 3] (W.alloc (.cells #[.int .i64 x, .int .i64 y, .int .i64 z] 3)) fun e w' => e = .returned (.bool true) ∧ Below W.heap.size W w') := fun W b x y z h => same3 W b x y z 3 h
  clear hG HGi
  go_enter Tryd.func7, Tryd.ntmps7
  have HB0 : Hid (At ((w.alloc (.cells #[.int .i64 1, .int .i64 1, .int .i64 1, .int .i64 1, .int .i64 1, .int .i64 3, .int .i64 2, .int .i64 1, .int .i64 1, .int .i64 2, .int .i64 1, .int .i64 1, .int .i64 0] 25)).alloc (.cells xAC 40)) (w.heap.size + 1) xAC ∧ At ((w.alloc (.cells #[.int .i64 1, .int .i64 1, .int .i64 1, .int .i64 1, .int .i64 1, .int .i64 3, .int .i64 2, .int .i64 1, .int .i64 1, .int .i64 2, .int .i64 1, .int .i64 1, .int .i64 0] 25)).alloc (.cells xAC 40)) w.heap.size #[.int .i64 1, .int .i64 1, .int .i64 1, .int .i64 1, .int .i64 1, .int .i64 3, .int .i64 2, .int .i64 1, .int .i64 1, .int .i64 2, .int .i64 1, .int .i64 1, .int .i64 0] ∧ Below w.heap.size w ((w.alloc (.cells #[.int .i64 1, .int .i64 1, .int .i64 1, .int .i64 1, .int .i64 1, .int .i64 3, .int .i64 2, .int .i64 1, .int .i64 1, .int .i64 2, .int .i64 1, .int .i64 1, .int .i64 0] 25)).alloc (.cells xAC 40))) := by
    have a1 := At.new w #[.int .i64 1, .int .i64 1, .int .i64 1, .int .i64 1, .int .i64 1, .int .i64 3, .int .i64 2, .int .i64 1, .int .i64 1, .int .i64 2, .int .i64 1, .int .i64 1, .int .i64 0] 25
    have a2 := At.new (w.alloc (.cells #[.int .i64 1, .int .i64 1, .int .i64 1, .int .i64 1, .int .i64 1, .int .i64 3, .int .i64 2, .int .i64 1, .int .i64 1, .int .i64 2, .int .i64 1, .int .i64 1, .int .i64 0] 25)) xAC 40
    rw [show (w.alloc (.cells #[.int .i64 1, .int .i64 1, .int .i64 1, .int .i64 1, .int .i64 1, .int .i64 3, .int .i64 2, .int .i64 1, .int .i64 1, .int .i64 2, .int .i64 1, .int .i64 1, .int .i64 0] 25)).heap.size = w.heap.size + 1 by simp] at a2
    exact ⟨a2, a1.below ((Below.refl _ _).alloc (Nat.le_refl _) _) a1.lt, by go_grown⟩
  go_upto_region 3 with fail
  generalize (w.alloc (.cells #[.int .i64 1, .int .i64 1, .int .i64 1, .int .i64 1, .int .i64 1, .int .i64 3, .int .i64 2, .int .i64 1, .int .i64 1, .int .i64 2, .int .i64 1, .int .i64 1, .int .i64 0] 25)).alloc (.cells xAC 40) = W0 at *
  generalize w.heap.size + 1 = lb at *
  have tf := HB0.out.2.1
  have tf0 := tf.c 0 _ rfl; have tf1 := tf.c 1 _ rfl; have tf2 := tf.c 2 _ rfl; have tf3 := tf.c 3 _ rfl; have tf4 := tf.c 4 _ rfl; have tf5 := tf.c 5 _ rfl; have tf6 := tf.c 6 _ rfl; have tf7 := tf.c 7 _ rfl; have tf8 := tf.c 8 _ rfl; have tf9 := tf.c 9 _ rfl; have tf10 := tf.c 10 _ rfl; have tf11 := tf.c 11 _ rfl; have tf12 := tf.c 12 _ rfl; have tfl := tf.lt; clear tf
  go_upto_region 4 with (first
    | (go_at_call 11; refine Calls.mono (HCy.out _ _ HB0.out.2.2 HB0.out.1) ?_; rintro e w1 ⟨hb, rfl, hr, b1⟩; have HB1 : Hid (At w1 lb xAC ∧ At w1 w.heap.size #[.int .i64 1, .int .i64 1, .int .i64 1, .int .i64 1, .int .i64 1, .int .i64 3, .int .i64 2, .int .i64 1, .int .i64 1, .int .i64 2, .int .i64 1, .int .i64 1, .int .i64 0] ∧ Below w.heap.size w w1 ∧ R3 w1 hb 0 2 4) := ⟨HB0.out.1.below b1 HB0.out.1.lt, HB0.out.2.1.below b1 HB0.out.2.1.lt, HB0.out.2.2.trans (b1.mono HB0.out.2.2.size), hr⟩; clear b1 hr HB0 HCy tf0 tf1 tf2 tf3 tf4 tf5 tf6 tf7 tf8 tf9 tf10 tf11 tf12 tfl))
  have tf := HB1.out.2.1
  have tf0 := tf.c 0 _ rfl; have tf1 := tf.c 1 _ rfl; have tf2 := tf.c 2 _ rfl; have tf3 := tf.c 3 _ rfl; have tf4 := tf.c 4 _ rfl; have tf5 := tf.c 5 _ rfl; have tf6 := tf.c 6 _ rfl; have tf7 := tf.c 7 _ rfl; have tf8 := tf.c 8 _ rfl; have tf9 := tf.c 9 _ rfl; have tf10 := tf.c 10 _ rfl; have tf11 := tf.c 11 _ rfl; have tf12 := tf.c 12 _ rfl; have tfl := tf.lt; clear tf
  have HB2 : Hid (At (w1.alloc (.cells #[.int .i64 1, .int .i64 0, .int .i64 1, .int .i64 1, .int .i64 1, .int .i64 3, .int .i64 2, .int .i64 1, .int .i64 1, .int .i64 2, .int .i64 1, .int .i64 1, .int .i64 0] 25)) lb xAC ∧ At (w1.alloc (.cells #[.int .i64 1, .int .i64 0, .int .i64 1, .int .i64 1, .int .i64 1, .int .i64 3, .int .i64 2, .int .i64 1, .int .i64 1, .int .i64 2, .int .i64 1, .int .i64 1, .int .i64 0] 25)) w.heap.size #[.int .i64 1, .int .i64 1, .int .i64 1, .int .i64 1, .int .i64 1, .int .i64 3, .int .i64 2, .int .i64 1, .int .i64 1, .int .i64 2, .int .i64 1, .int .i64 1, .int .i64 0] ∧ Below w.heap.size w (w1.alloc (.cells #[.int .i64 1, .int .i64 0, .int .i64 1, .int .i64 1, .int .i64 1, .int .i64 3, .int .i64 2, .int .i64 1, .int .i64 1, .int .i64 2, .int .i64 1, .int .i64 1, .int .i64 0] 25)) ∧ R3 (w1.alloc (.cells #[.int .i64 1, .int .i64 0, .int .i64 1, .int .i64 1, .int .i64 1, .int .i64 3, .int .i64 2, .int .i64 1, .int .i64 1, .int .i64 2, .int .i64 1, .int .i64 1, .int .i64 0] 25)) hb 0 2 4 ∧ At (w1.alloc (.cells #[.int .i64 1, .int .i64 0, .int .i64 1, .int .i64 1, .int .i64 1, .int .i64 3, .int .i64 2, .int .i64 1, .int .i64 1, .int .i64 2, .int .i64 1, .int .i64 1, .int .i64 0] 25)) w1.heap.size #[.int .i64 1, .int .i64 0, .int .i64 1, .int .i64 1, .int .i64 1, .int .i64 3, .int .i64 2, .int .i64 1, .int .i64 1, .int .i64 2, .int .i64 1, .int .i64 1, .int .i64 0]) := by
    have g : Below w1.heap.size w1 (w1.alloc (.cells #[.int .i64 1, .int .i64 0, .int .i64 1, .int .i64 1, .int .i64 1, .int .i64 3, .int .i64 2, .int .i64 1, .int .i64 1, .int .i64 2, .int .i64 1, .int .i64 1, .int .i64 0] 25)) := (Below.refl _ _).alloc (Nat.le_refl _) _
    exact ⟨HB1.out.1.below g HB1.out.1.lt, HB1.out.2.1.below g HB1.out.2.1.lt, HB1.out.2.2.1.trans (g.mono HB1.out.2.2.1.size), HB1.out.2.2.2.up g, At.new _ _ _⟩
  go_upto_region 6 with fail
  clear tf0 tf1 tf2 tf3 tf4 tf5 tf6 tf7 tf8 tf9 tf10 tf11 tf12 tfl HB1
  generalize w1.alloc (.cells #[.int .i64 1, .int .i64 0, .int .i64 1, .int .i64 1, .int .i64 1, .int .i64 3, .int .i64 2, .int .i64 1, .int .i64 1, .int .i64 2, .int .i64 1, .int .i64 1, .int .i64 0] 25) = W2 at *
  generalize w1.heap.size = zb at *
  have tf := HB2.out.2.2.2.2
  have tf0 := tf.c 0 _ rfl; have tf1 := tf.c 1 _ rfl; have tf2 := tf.c 2 _ rfl; have tf3 := tf.c 3 _ rfl; have tf4 := tf.c 4 _ rfl; have tf5 := tf.c 5 _ rfl; have tf6 := tf.c 6 _ rfl; have tf7 := tf.c 7 _ rfl; have tf8 := tf.c 8 _ rfl; have tf9 := tf.c 9 _ rfl; have tf10 := tf.c 10 _ rfl; have tf11 := tf.c 11 _ rfl; have tf12 := tf.c 12 _ rfl; have tfl := tf.lt; clear tf
  go_upto_region 7 with (first
    | (go_at_call 11; refine Calls.mono (HCz.out _ _ HB2.out.2.2.1 HB2.out.1) ?_; rintro e w3 ⟨rfl, b3⟩; have HB3 : Hid (At w3 lb xAC ∧ At w3 w.heap.size #[.int .i64 1, .int .i64 1, .int .i64 1, .int .i64 1, .int .i64 1, .int .i64 3, .int .i64 2, .int .i64 1, .int .i64 1, .int .i64 2, .int .i64 1, .int .i64 1, .int .i64 0] ∧ Below w.heap.size w w3 ∧ R3 w3 hb 0 2 4) := ⟨HB2.out.1.below b3 HB2.out.1.lt, HB2.out.2.1.below b3 HB2.out.2.1.lt, HB2.out.2.2.1.trans (b3.mono HB2.out.2.2.1.size), HB2.out.2.2.2.1.up b3⟩; clear b3 HB2 HCz tf0 tf1 tf2 tf3 tf4 tf5 tf6 tf7 tf8 tf9 tf10 tf11 tf12 tfl))
  go_wp2_with (first
    | (go_at_call 10; refine Calls.mono (HSm.out _ _ _ _ _ HB3.out.2.2.2) ?_; rintro e w4 ⟨rfl, b4⟩; have HB4 : Hid (At w4 lb xAC ∧ At w4 w.heap.size #[.int .i64 1, .int .i64 1, .int .i64 1, .int .i64 1, .int .i64 1, .int .i64 3, .int .i64 2, .int .i64 1, .int .i64 1, .int .i64 2, .int .i64 1, .int .i64 1, .int .i64 0] ∧ Below w.heap.size w w4 ∧ R3 w4 hb 0 2 4) := ⟨HB3.out.1.below b4 HB3.out.1.lt, HB3.out.2.1.below b4 HB3.out.2.1.lt, HB3.out.2.2.1.trans (b4.mono HB3.out.2.2.1.size), HB3.out.2.2.2.up b4⟩; clear b4 HB3 HSm; have tf := HB4.out.2.1; have tf0 := tf.c 0 _ rfl; have tf1 := tf.c 1 _ rfl; have tf2 := tf.c 2 _ rfl; have tf3 := tf.c 3 _ rfl; have tf4 := tf.c 4 _ rfl; have tf5 := tf.c 5 _ rfl; have tf6 := tf.c 6 _ rfl; have tf7 := tf.c 7 _ rfl; have tf8 := tf.c 8 _ rfl; have tf9 := tf.c 9 _ rfl; have tf10 := tf.c 10 _ rfl; have tf11 := tf.c 11 _ rfl; have tf12 := tf.c 12 _ rfl; have tfl := tf.lt; clear tf)
    | (go_at_call 8; refine Calls.mono (HCk.out _ _ _ HB4.out.2.2.1 HB4.out.1 HB4.out.2.2.2) ?_; rintro e w5 ⟨rfl, b5⟩; have HB5 : Hid (At w5 lb xAC ∧ At w5 w.heap.size #[.int .i64 1, .int .i64 1, .int .i64 1, .int .i64 1, .int .i64 1, .int .i64 3, .int .i64 2, .int .i64 1, .int .i64 1, .int .i64 2, .int .i64 1, .int .i64 1, .int .i64 0] ∧ Below w.heap.size w w5) := ⟨HB4.out.1.below b5 HB4.out.1.lt, HB4.out.2.1.below b5 HB4.out.2.1.lt, HB4.out.2.2.1.trans (b5.mono HB4.out.2.2.1.size)⟩; clear b5 HB4 HCk tf0 tf1 tf2 tf3 tf4 tf5 tf6 tf7 tf8 tf9 tf10 tf11 tf12 tfl; have tf := HB5.out.2.1; have tf0 := tf.c 0 _ rfl; have tf1 := tf.c 1 _ rfl; have tf2 := tf.c 2 _ rfl; have tf3 := tf.c 3 _ rfl; have tf4 := tf.c 4 _ rfl; have tf5 := tf.c 5 _ rfl; have tf6 := tf.c 6 _ rfl; have tf7 := tf.c 7 _ rfl; have tf8 := tf.c 8 _ rfl; have tf9 := tf.c 9 _ rfl; have tf10 := tf.c 10 _ rfl; have tf11 := tf.c 11 _ rfl; have tf12 := tf.c 12 _ rfl; have tfl := tf.lt; clear tf)
    | (go_at_call 8; refine Calls.mono (HCn.out _ _ _ (HB5.out.2.2.alloc HB5.out.2.2.size _) (HB5.out.1.alloc _) (r3_new w5 0 1 4 3)) ?_; rintro e w6 ⟨rfl, b6⟩; have HB6 : Hid (Below w.heap.size w w6) := (HB5.out.2.2.alloc HB5.out.2.2.size _).trans (b6.mono (by have := HB5.out.2.2.size; simp; omega)); clear b6 HB5 HCn tf0 tf1 tf2 tf3 tf4 tf5 tf6 tf7 tf8 tf9 tf10 tf11 tf12 tfl))
  go_ret
  exact ⟨rfl, HB6.out⟩
end Go.Proofs.YtnckkhamkkaljaaDoor.Ls
