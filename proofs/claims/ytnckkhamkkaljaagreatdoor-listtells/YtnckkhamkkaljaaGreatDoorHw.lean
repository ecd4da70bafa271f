/- The statement HeightTells over the program: how long the way from each operation to the end is, and which operation comes first, as the document says. Conditions: the list lies in memory. -/
import Derived.Test.YtnckkhamkkaljaaGreatDoorHo
import Derived.Deep.RegionHeld3
import Derived.BigQuiet
import Derived.Test.YtnckkhamkkaljaaGreatDoorHn
import Derived.Test.YtnckkhamkkaljaaGreatDoorDe
import Derived.Deep.AppendLies
import Derived.Test.YtnckkhamkkaljaaGreatDoorEl
import Derived.Test.YtnckkhamkkaljaaGreatDoorPm
import Derived.Test.YtnckkhamkkaljaaGreatDoorKd
import Derived.OwnWalk
import Derived.Deep.QuietTactic
namespace Go.Proofs.YtnckkhamkkaljaaGreatDoor.Dp
open Go.ChangeShapes Go.WideShapes Go.ChangeAt Go.RowKit
open _root_.Go.Proofs.YtnckkhamkkaljaaGreatDoor.Op _root_.Go.Proofs.YtnckkhamkkaljaaGreatDoor.So
open _root_.Go.Proofs.YtnckkhamkkaljaaGreatDoor.Tb (Tab TabAt Bnds)
set_option maxRecDepth 20000

set_option maxHeartbeats 2000000 in
theorem same_any (a1 a2 : Option Addr) (n c1 c2 : Nat) (w : World) (hn : (n : Int) ≤ 100000000) (h : ∀ k, k < n → ∃ b1 b2 v, a1 = some ⟨b1, 0, none⟩ ∧ a2 = some ⟨b2, 0, none⟩ ∧ b1 < w.heap.size ∧ b2 < w.heap.size ∧ w.cell? ⟨b1, k, none⟩ = some (.int .i64 v) ∧ w.cell? ⟨b2, k, none⟩ = some (.int .i64 v)) :
    Calls Tryz.prog 8 #[.slice a1 n c1, .slice a2 n c2] w fun e w' => e = .returned (.bool true) ∧ Below w.heap.size w w' := by
  have HE : Hid (∀ k, k < n → ∃ b1 b2 v, a1 = some ⟨b1, 0, none⟩ ∧ a2 = some ⟨b2, 0, none⟩ ∧ b1 < w.heap.size ∧ b2 < w.heap.size ∧ w.cell? ⟨b1, k, none⟩ = some (.int .i64 v) ∧ w.cell? ⟨b2, k, none⟩ = some (.int .i64 v)) := h
  clear h
  go_enter Tryz.func8, Tryz.ntmps8
  go_wp2_with fail
  go_loopw [5] (fun i wr => ∃ (k q : Nat), k ≤ n ∧ i = .int .i64 k ∧ wr = w.drewN q) (fun i _ => n - (intOf i).toNat)
  case atStart => exact ⟨0, 0, by omega, rfl, rfl⟩
  case round =>
    rename World => wy
    obtain ⟨k, q, hk, rfl, rfl⟩ := hrel
    by_cases hlt : k < n
    · have j0 : (0 : Int) ≤ (k : Int) := by omega
      have j1 : (k : Int) < (n : Int) := by omega
      obtain ⟨b1, b2, v, rfl, rfl, l1, l2, f0, g0⟩ := HE.out k hlt
      clear HE
      have f0 : (w.drewN q).cell? _ = _ := f0
      have g0 : (w.drewN q).cell? _ = _ := g0
      have l1 : b1 < (w.drewN q).heap.size := l1
      have l2 : b2 < (w.drewN q).heap.size := l2
      generalize hWq : w.drewN q = W at *
      go_wp2_with fail
      go_quiet (fail)
      go_wp2_with fail
      go_roundw
      case rel => exact ⟨k + 1, q + nq, by omega, by go_num, by rw [← hWq]; simp⟩
      case measure => simp [intOf]; omega
    · have j1 : ¬ (k : Int) < (n : Int) := by omega
      go_wp2_with fail
      go_ret
      have B0 := Below.refl w.heap.size w
      exact ⟨rfl, B0.os, B0.tape, B0.output, B0.size, B0.block⟩
/-- The lists and the table that the statements wake by. -/
def hl1 : List O := [⟨2, 1, 2, 3, 0⟩, ⟨12, 4, 1, 1, 0⟩, ⟨17, 0, 4, 0, 0⟩]
def hl2 : List O := [⟨2, 1, 2, 3, 0⟩, ⟨15, 4, 5, 0, 0⟩, ⟨17, 0, 4, 0, 0⟩]
def hwt : Tab := ⟨fun _ => 1, fun k => if k = 1 then 3 else if k = 2 then 2 else 1, fun _ => 1, 1⟩
theorem hl1_ok : ∀ o ∈ hl1, o.Ok := fun o h => by
  simp only [hl1, List.mem_cons, List.not_mem_nil, or_false] at h
  rcases h with rfl | rfl | rfl <;> constructor <;> decide
theorem hl2_ok : ∀ o ∈ hl2, o.Ok := fun o h => by
  simp only [hl2, List.mem_cons, List.not_mem_nil, or_false] at h
  rcases h with rfl | rfl | rfl <;> constructor <;> decide
theorem hl1_lis : lisE hwt hl1 = 0 := by decide
theorem hl2_lis : lisE hwt hl2 = 0 := by decide
theorem hl1_h : hts (latN hwt hl1) (ofE hwt hl1) 0 = 6 ∧ hts (latN hwt hl1) (ofE hwt hl1) 1 = 5 ∧ hts (latN hwt hl1) (ofE hwt hl1) 2 = 2 := ⟨by kernel_rfl, by kernel_rfl, by kernel_rfl⟩
theorem hl2_h : hts (latN hwt hl2) (ofE hwt hl2) 0 = 1 ∧ hts (latN hwt hl2) (ofE hwt hl2) 1 = 4 ∧ hts (latN hwt hl2) (ofE hwt hl2) 2 = 2 := ⟨by kernel_rfl, by kernel_rfl, by kernel_rfl⟩
abbrev hl1C : Array Value := #[.int .i8 2, .int .u8 1, .int .u8 2, .int .u8 3, .int .i64 0, .int .i8 12, .int .u8 4, .int .u8 1, .int .u8 1, .int .i64 0, .int .i8 17, .int .u8 0, .int .u8 4, .int .u8 0, .int .i64 0]
abbrev hl2C : Array Value := #[.int .i8 2, .int .u8 1, .int .u8 2, .int .u8 3, .int .i64 0, .int .i8 15, .int .u8 4, .int .u8 5, .int .u8 0, .int .i64 0, .int .i8 17, .int .u8 0, .int .u8 4, .int .u8 0, .int .i64 0]
theorem hl1_at {w : World} {b : Nat} (h : At w b hl1C) : OpsAt w (some ⟨b, 0, none⟩) hl1 := by
  refine ⟨hl1_ok, by decide, fun _ => ⟨b, 0, rfl, h.lt, fun i hi => ?_⟩⟩
  have hi : i < 3 := hi
  match i, hi with
  | 0, _ => exact ⟨h.c 0 _ rfl, h.c 1 _ rfl, h.c 2 _ rfl, h.c 3 _ rfl, h.c 4 _ rfl⟩
  | 1, _ => exact ⟨h.c 5 _ rfl, h.c 6 _ rfl, h.c 7 _ rfl, h.c 8 _ rfl, h.c 9 _ rfl⟩
  | 2, _ => exact ⟨h.c 10 _ rfl, h.c 11 _ rfl, h.c 12 _ rfl, h.c 13 _ rfl, h.c 14 _ rfl⟩
theorem hl2_at {w : World} {b : Nat} (h : At w b hl2C) : OpsAt w (some ⟨b, 0, none⟩) hl2 := by
  refine ⟨hl2_ok, by decide, fun _ => ⟨b, 0, rfl, h.lt, fun i hi => ?_⟩⟩
  have hi : i < 3 := hi
  match i, hi with
  | 0, _ => exact ⟨h.c 0 _ rfl, h.c 1 _ rfl, h.c 2 _ rfl, h.c 3 _ rfl, h.c 4 _ rfl⟩
  | 1, _ => exact ⟨h.c 5 _ rfl, h.c 6 _ rfl, h.c 7 _ rfl, h.c 8 _ rfl, h.c 9 _ rfl⟩
  | 2, _ => exact ⟨h.c 10 _ rfl, h.c 11 _ rfl, h.c 12 _ rfl, h.c 13 _ rfl, h.c 14 _ rfl⟩
theorem ord3 {H g : Nat → Int} (h0 : H 0 = 1) (h1 : H 1 = 4) (h2 : H 2 = 2) (o : OrdF 3 H g) : g 0 = 1 ∧ g 1 = 2 ∧ g 2 = 0 := by
  have r0 := o.rg 0 (by omega)
  have r1 := o.rg 1 (by omega)
  have r2 := o.rg 2 (by omega)
  have s1 := o.st 0 1 (by omega) (by omega)
  have s2 := o.st 1 2 (by omega) (by omega)
  have s3 := o.st 0 2 (by omega) (by omega)
  have c0 : g 0 = 0 ∨ g 0 = 1 ∨ g 0 = 2 := by omega
  have c1 : g 1 = 0 ∨ g 1 = 1 ∨ g 1 = 2 := by omega
  have c2 : g 2 = 0 ∨ g 2 = 1 ∨ g 2 = 2 := by omega
  clear r0 r1 r2 o
  rcases c0 with e | e | e <;> rcases c1 with f | f | f <;> rcases c2 with k | k | k <;> first
    | exact ⟨e, f, k⟩
    | (exfalso; simp [Ahd, e, f, k, h0, h1, h2] at s1 s2 s3)
/-- Three numbers at the beginning of a block. -/
def R3 (W : World) (b : Nat) (x y z : Int) : Prop := b < W.heap.size ∧ W.cell? ⟨b, 0, none⟩ = some (.int .i64 x) ∧ W.cell? ⟨b, 1, none⟩ = some (.int .i64 y) ∧ W.cell? ⟨b, 2, none⟩ = some (.int .i64 z)
theorem R3.up {W W' : World} {b : Nat} {x y z : Int} (h : R3 W b x y z) (g : Below W.heap.size W W') : R3 W' b x y z :=
  ⟨Nat.lt_of_lt_of_le h.1 g.size, by rw [(bcell g).1 _ _ h.1]; exact h.2.1, by rw [(bcell g).1 _ _ h.1]; exact h.2.2.1, by rw [(bcell g).1 _ _ h.1]; exact h.2.2.2⟩
theorem same3 (W : World) (b : Nat) (x y z : Int) (t : TypeId) (h : R3 W b x y z) : Calls Tryz.prog 8 #[.slice (some ⟨b, 0, none⟩) 3 3, .slice (some ⟨W.heap.size, 0, none⟩) 3 3] (W.alloc (.cells #[.int .i64 x, .int .i64 y, .int .i64 z] t)) fun e w' => e = .returned (.bool true) ∧ Below W.heap.size W w' := by
  have g : Below W.heap.size W (W.alloc (.cells #[.int .i64 x, .int .i64 y, .int .i64 z] t)) := (Below.refl _ _).alloc (Nat.le_refl _) _
  have a := At.new W #[.int .i64 x, .int .i64 y, .int .i64 z] t
  obtain ⟨h1, h2, h3, h4⟩ := h.up g
  refine (same_any _ _ 3 3 3 _ (by omega) fun k hk => ?_).mono fun e w' h' => ⟨h'.1, g.trans (h'.2.mono g.size)⟩
  match k, hk with
  | 0, _ => exact ⟨b, W.heap.size, x, rfl, rfl, h1, a.lt, h2, a.c 0 _ rfl⟩
  | 1, _ => exact ⟨b, W.heap.size, y, rfl, rfl, h1, a.lt, h3, a.c 1 _ rfl⟩
  | 2, _ => exact ⟨b, W.heap.size, z, rfl, rfl, h1, a.lt, h4, a.c 2 _ rfl⟩
abbrev hwV : Value := .agg #[.int .i64 1, .int .i64 1, .int .i64 1, .int .i64 1, .int .i64 1, .int .i64 3, .int .i64 2, .int .i64 1, .int .i64 1, .int .i64 1, .int .i64 1, .int .i64 1, .int .i64 1]
abbrev hwC : Array Value := #[.int .i64 1, .int .i64 1, .int .i64 1, .int .i64 1, .int .i64 1, .int .i64 3, .int .i64 2, .int .i64 1, .int .i64 1, .int .i64 1, .int .i64 1, .int .i64 1, .int .i64 1]
theorem h_three (w : World) (b : Nat) (h : At w b hl1C) (hG : Bnds w) : Calls Tryz.prog 24 #[.slice (some ⟨b, 0, none⟩) 3 3, hwV] w fun e w' => ∃ hb, e = .returned (.tuple #[.slice (some ⟨hb, 0, none⟩) 3 3, .int .i64 0]) ∧ R3 w' hb 6 5 2 ∧ Below w.heap.size w w' := by
  refine (hof_ok (some ⟨b, 0, none⟩) 3 hl1 hwt w (hl1_at h) (by decide) hG hl1_lis).mono ?_
  rintro e w' ⟨hb, rfl, hi, -, hu⟩
  obtain ⟨h0, h1, h2⟩ := hl1_h
  exact ⟨hb, rfl, ⟨hi.lt, by rw [hi.c 0 (by decide), h0], by rw [hi.c 1 (by decide), h1], by rw [hi.c 2 (by decide), h2]⟩, hu⟩
theorem o_three (w : World) (b : Nat) (h : At w b hl2C) (hG : Bnds w) : Calls Tryz.prog 11 #[.slice (some ⟨b, 0, none⟩) 3 3, hwV] w fun e w' => ∃ hb, e = .returned (.tuple #[.slice (some ⟨hb, 0, none⟩) 3 3, .int .i64 0]) ∧ R3 w' hb 1 2 0 ∧ Below w.heap.size w w' := by
  refine (hord_ok (some ⟨b, 0, none⟩) 3 3 hwt (hts (latN hwt hl2) (ofE hwt hl2)) w (by decide) fun W hW => hof_ok (some ⟨b, 0, none⟩) 3 hl2 hwt W ((hl2_at h).below hW) (by decide) (hG.below hW hG.big) hl2_lis).mono ?_
  rintro e w' ⟨nb, g, rfl, hi, ho, -, hu⟩
  obtain ⟨h0, h1, h2⟩ := hl2_h
  obtain ⟨g0, g1, g2⟩ := ord3 h0 h1 h2 ho
  exact ⟨nb, rfl, ⟨hi.lt, by rw [hi.c 0 (by decide), g0], by rw [hi.c 1 (by decide), g1], by rw [hi.c 2 (by decide), g2]⟩, hu⟩
end Go.Proofs.YtnckkhamkkaljaaGreatDoor.Dp

namespace Go.Proofs.YtnckkhamkkaljaaGreatDoor.Dp
open Go.ChangeShapes Go.WideShapes Go.ChangeAt Go.RowKit
open _root_.Go.Proofs.YtnckkhamkkaljaaGreatDoor.Op _root_.Go.Proofs.YtnckkhamkkaljaaGreatDoor.So
open _root_.Go.Proofs.YtnckkhamkkaljaaGreatDoor.Tb (Tab TabAt Bnds)
set_option maxRecDepth 20000

theorem clV_lat : ∀ d : Nat, 1 ≤ d → d ≤ 17 → (clV (d : Int)).toNat = if 15 ≤ (d : Int) then 2 else if 12 ≤ (d : Int) then 1 else 0
  | 0, h, _ => absurd h (by decide)
  | 1, _, _ => by decide
  | 2, _, _ => by decide
  | 3, _, _ => by decide
  | 4, _, _ => by decide
  | 5, _, _ => by decide
  | 6, _, _ => by decide
  | 7, _, _ => by decide
  | 8, _, _ => by decide
  | 9, _, _ => by decide
  | 10, _, _ => by decide
  | 11, _, _ => by decide
  | 12, _, _ => by decide
  | 13, _, _ => by decide
  | 14, _, _ => by decide
  | 15, _, _ => by decide
  | 16, _, _ => by decide
  | 17, _, _ => by decide
  | _ + 18, _, h => absurd h (by omega)
theorem updI_twice (L : Nat → Int) (k : Nat) (v u : Int) : updI (updI L k v) k u = updI L k u := by
  funext j
  unfold updI
  split <;> rfl
theorem latO_V (t : Tab) {o : O} (h : okL o = true) : t.l (clV o.op).toNat = latV t o.op := by
  unfold okL at h
  simp only [Bool.and_eq_true, decide_eq_true_eq] at h
  obtain ⟨d, hd⟩ : ∃ d : Nat, o.op = d := ⟨o.op.toNat, by omega⟩
  unfold latV
  rw [hd, clV_lat d (by omega) (by omega)]
theorem ofRefN {ao : Option Addr} {cap : Nat} {xs : List O} {t : Tab} {w : World} (h : OpsAt w ao xs) (hq : lisE t xs = 0 → xs.length ≤ 200) : ∀ W, Below w.heap.size w W → Calls Tryz.prog 17 #[.slice ao xs.length cap, t.val] W (EdOut W (lisE t xs) (erE t xs (ofE t xs))) := fun W hb => by
  have e1 : erE t xs (ofE t xs) = erE t xs (ofD t xs xs.length) := by
    unfold erE
    by_cases he : lisE t xs = 0
    · obtain ⟨-, -, hok⟩ := lis_all he
      rw [if_pos he, if_pos he, ofD_eq t fun o ho => ⟨h.ok o ho, hok o ho⟩]
    · rw [if_neg he, if_neg he]
  rw [e1]
  exact refOf_any ao cap xs t W (h.below hb) hq
set_option maxHeartbeats 4000000 in
theorem refHof_no (ao : Option Addr) (cap : Nat) (xs : List O) (t : Tab) (w : World) (h : OpsAt w ao xs) (he : ¬ lisE t xs = 0) :
    Calls Tryz.prog 33 #[.slice ao xs.length cap, t.val] w fun e w' => e = .returned (.tuple #[.slice none 0 0, .int .i64 (lisE t xs)]) ∧ Below w.heap.size w w' := by
  have HOf : Hid (∀ W, Below w.heap.size w W → Calls Tryz.prog 17 #[.slice ao xs.length cap, t.val] W (EdOut W (lisE t xs) (erE t xs (ofE t xs)))) := ofRefN h fun e => absurd e he
  generalize erE t xs (ofE t xs) = es at *
  generalize lisE t xs = er at *
  clear h
  unfold Tab.val at *
  go_enter Tryz.func33, Tryz.ntmps33
  go_wp2_with (first
    | (go_at_call 17; refine Calls.mono (HOf.out _ (by go_grown)) ?_; rintro e w1 ⟨a1, c1, rfl, o1, b1⟩; have HT : Hid (Tc w w1 t) := Tc.start w t rfl b1; clear o1 b1 HOf))
  go_ret2
  exact ⟨rfl, HT.out.up⟩
set_option maxHeartbeats 8000000 in
theorem refHof_ok (ao : Option Addr) (cap : Nat) (xs : List O) (t : Tab) (w : World) (h : OpsAt w ao xs) (hq : xs.length ≤ 200) (he : lisE t xs = 0) :
    Calls Tryz.prog 33 #[.slice ao xs.length cap, t.val] w (HtOut w xs.length (hts (latN t xs) (ofE t xs))) := by
  have HOf : Hid (∀ W, Below w.heap.size w W → Calls Tryz.prog 17 #[.slice ao xs.length cap, t.val] W (EdOut W 0 (ofE t xs))) := fun W hb => by
    have := ofRefN (cap := cap) (t := t) h (fun _ => hq) W hb
    unfold erE at this
    rw [if_pos he, he] at this
    exact this
  obtain ⟨ht, hn, hok⟩ := lis_all he
  have HEO : Hid (EOk xs.length (ofE t xs)) := ofE_ok t xs (pts_ok t xs (fun o ho => ⟨h.ok o ho, okL_okO (hok o ho)⟩) ht)
  have HLn : Hid ((ofE t xs).length ≤ 100000000) := Nat.le_trans (withinE_len _ _ _ hn) (by omega)
  have HCl : Hid (∀ d W, Calls Tryz.prog 34 #[.int .i8 d] W fun e w' => e = .returned (.tuple #[.int .i64 (clV d), .bool (clB d)]) ∧ Below W.heap.size W w') := fun d W => refClass_any d W
  have HLi : Hid (∀ i, i < xs.length → 1 ≤ latN t xs i ∧ latN t xs i ≤ 8) := fun i hi => by rw [latN_at t hi]; exact latV_in ht _
  have HLv : Hid (∀ i (hi : i < xs.length), t.l (clV xs[i].op).toNat = latN t xs i) := fun i hi => by rw [latN_at t hi]; exact latO_V t (hok _ (List.getElem_mem hi))
  have HO : Hid (OpsAt w ao xs) := h
  have hn' : (xs.length : Int) ≤ 200 := by omega
  clear h hok he ht hn
  obtain ⟨es, hes⟩ : ∃ es, ofE t xs = es := ⟨_, rfl⟩
  rw [hes] at HOf HEO HLn ⊢
  clear hes
  obtain ⟨lat, hlat⟩ : ∃ lat, latN t xs = lat := ⟨_, rfl⟩
  rw [hlat] at HLi HLv ⊢
  clear hlat
  obtain ⟨N, hN⟩ : ∃ N, es.length = N := ⟨_, rfl⟩
  have HNl : Hid (es.length = N) := hN
  have hNb : (N : Int) ≤ 100000000 := by have := HLn.out; omega
  clear HLn hN
  have HOf2 : Hid (∀ W, Below w.heap.size w W → Calls Tryz.prog 17 #[.slice ao xs.length cap, t.val] W fun e w' => ∃ a c, e = .returned (.tuple #[.slice a N c, .int .i64 0]) ∧ EOwn W.heap.size w' a c es ∧ Below W.heap.size W w') := fun W hb => by
    have := HOf.out W hb
    rw [← HNl.out]; exact this
  clear HOf
  obtain ⟨i0, hi, hi2⟩ := Option.map_eq_some_iff.1 info3
  simp only [Prod.mk.injEq] at hi2
  obtain ⟨hz0, hz1, hz2⟩ := hi2
  have HI : Hid (Tryz.prog.info? 3 = some i0 ∧ i0.zero = some (.int .i64 0) ∧ i0.size = 1 ∧ i0.bytes = 8) := ⟨hi, hz0, hz1, hz2⟩
  clear hi hz0 hz1 hz2
  unfold Tab.val at *
  go_enter Tryz.func33, Tryz.ntmps33
  go_upto_region 5 with (first
    | (go_at_call 17; refine Calls.mono (HOf2.out _ (by go_grown)) ?_; rintro e w1 ⟨a1, cq, rfl, o1, b1⟩; have HT : Hid (Tc w w1 t ∧ EOwn (w.heap.size + 1) w1 a1 cq es ∧ w.heap.size < w1.heap.size) := ⟨Tc.start w t rfl b1, (by have := o1; simpa using this), (by have := b1.size; simp at this; omega)⟩; clear o1 b1 HOf2)
    | (at_make; refine wpList_make_row _ rfl _ _ 28 rfl 3 i0 (.int .i64 0) Tryz.underlying28 HI.out.1 HI.out.2.1 HI.out.2.2.1 rfl .i64 .i64 xs.length rfl rfl (by rw [HI.out.2.2.2]; omega) (by omega) ?_))
  have HS : Hid (Hs w (w1.alloc (.cells (madeCells #[.int .i64 0] xs.length) 3)) t w1.heap.size xs.length (fun _ => 0) a1 cq es) := hs_start HT.out.1 HT.out.2.1 HT.out.2.2
  generalize w1.alloc (.cells (madeCells #[.int .i64 0] xs.length) 3) = W0 at *
  generalize w1.heap.size = hb at *
  clear HT
  go_wp2_with fail
  go_loopw [9] (fun v wr => ∃ m : Nat, m ≤ xs.length ∧ v = .int .i64 ((m : Int) - 1) ∧ Hs w wr t hb xs.length (dh lat es xs.length (xs.length - m)) a1 cq es) (fun v _ => ((intOf v) + 1).toNat)
  case atStart => exact ⟨xs.length, Nat.le_refl _, by first | rfl | go_num, by rw [Nat.sub_self]; exact HS.out⟩
  case round =>
    rename World => wr
    obtain ⟨m, hm, rfl, hs⟩ := hrel
    have HQ : Hid (Hs w wr t hb xs.length (dh lat es xs.length (xs.length - m)) a1 cq es) := hs
    clear hs HS
    by_cases hm0 : m = 0
    · subst hm0
      have k1 : ¬ (0 : Int) ≤ ((0 : Nat) : Int) - 1 := by omega
      go_wp2_with fail
      go_ret2
      refine ⟨hb, rfl, HQ.out.ir.same fun i hi => ?_, Nat.le_of_lt HQ.out.hw, HQ.out.up⟩
      rw [Nat.sub_zero]
      exact dh_eq HEO.out i hi
    · obtain ⟨j, rfl⟩ : ∃ j, m = j + 1 := ⟨m - 1, by omega⟩
      have ej : ((j + 1 : Nat) : Int) - 1 = (j : Int) := by omega
      rw [ej]
      have j0 : (0 : Int) ≤ (j : Int) := by omega
      have j1 : (j : Int) < (xs.length : Int) := by omega
      have hlt : j < xs.length := by omega
      have HEnd : Hid (dh lat es xs.length (xs.length - j) = updI (dh lat es xs.length (xs.length - (j + 1))) j (dIn j (dh lat es xs.length (xs.length - (j + 1))) es (lat j))) := by
        show dh lat es xs.length (xs.length - j) = _
        have e1 : xs.length - j = (xs.length - (j + 1)) + 1 := by omega
        have e2 : xs.length - 1 - (xs.length - (j + 1)) = j := by omega
        rw [e1]
        show updI _ (xs.length - 1 - (xs.length - (j + 1))) _ = _
        rw [e2]
      have HDl : Hid (∀ i, j < i → i < xs.length → 1 ≤ dh lat es xs.length (xs.length - (j + 1)) i ∧ dh lat es xs.length (xs.length - (j + 1)) i ≤ 8 * (xs.length - i : Nat)) := fun i h1 h2 => dh_le HEO.out HLi.out (by omega) i (by omega) h2
      obtain ⟨D, hD⟩ : ∃ D, dh lat es xs.length (xs.length - (j + 1)) = D := ⟨_, rfl⟩
      rw [hD] at HEnd HDl HQ
      clear hD ej hm0
      have HIn : Hid (∀ k, 1 ≤ dIn j D (es.take k) (lat j) ∧ dIn j D (es.take k) (lat j) ≤ 1600) := fun k => by
        have h1 := HLi.out j hlt
        have h2 := dIn_ge j D (es.take k) (lat j)
        refine ⟨by omega, ?_⟩
        rcases dIn_ex j D (es.take k) (lat j) with h3 | ⟨e, he, hf, h3⟩
        · omega
        · have hm := List.mem_of_mem_take he
          have g2 := HEO.out.ft _ hm
          have g3 := HEO.out.tn _ hm
          obtain ⟨g4, g5⟩ := HEO.out.l0 _ hm
          have g6 := HDl.out e.t.toNat (by omega) (by omega)
          omega
      obtain ⟨b, f, rfl, hz2, hx⟩ := (HO.out.below HQ.out.up).is (by omega)
      obtain ⟨q0, q1, q2, q3, q4⟩ := hx j hlt
      have HLj : Hid (t.l (clV xs[j].op).toNat = lat j) := HLv.out j hlt
      have hc := clV_in xs[j].op
      have HC1 : Hid (∀ W, Calls Tryz.prog 34 #[.int .i8 xs[j].op] W fun e w' => e = .returned (.tuple #[.int .i64 (clV xs[j].op), .bool (clB xs[j].op)]) ∧ Below W.heap.size W w') := fun W => HCl.out _ W
      clear hx
      generalize clB xs[j].op = cb at *
      obtain ⟨c, hcn⟩ : ∃ n : Nat, clV xs[j].op = n := ⟨(clV xs[j].op).toNat, by omega⟩
      rw [hcn] at HC1 HLj hc
      have HLj : Hid (t.l c = lat j) := by have := HLj.out; rw [Int.toNat_natCast] at this; exact this
      clear hcn
      have c0 : (0 : Int) ≤ (c : Int) := by omega
      have c1 : (c : Int) < 4 := by omega
      have c2 : c < 4 := by omega
      clear hc
      generalize xs[j] = o at *
      go_upto_region 9 with (first
        | (go_at_call 34; refine Calls.mono (HC1.out _) ?_; rintro e w2 ⟨rfl, hb2⟩; have HQ2 : Hid (Hs w w2 t hb xs.length D a1 cq es) := HQ.out.next hb2; clear hb2 HC1 HQ q0 q1 q2 q3 q4 hz2))
      have tl := HQ2.out.t.cl c c2
      have tz := HQ2.out.t.lt
      have hcj := HQ2.out.ir.c j hlt
      have hfj := HQ2.out.ir.f j
      have hl := HQ2.out.ir.lt
      rw [HLj.out] at tl
      have HSt : Hid (Hs w (w2.setCell ⟨hb, j, none⟩ (.int .i64 (lat j))) t hb xs.length (updI D j (lat j)) a1 cq es) := HQ2.out.set hlt (lat j)
      go_upto_region 10 with fail
      generalize w2.setCell ⟨hb, j, none⟩ (.int .i64 (lat j)) = W2 at *
      clear HQ2 tl tz hcj hfj hl
      go_wp2_with fail
      go_loopw [12] (fun v wz => ∃ k : Nat, k ≤ N ∧ v = .int .i64 k ∧ Hs w wz t hb xs.length (updI D j (dIn j D (es.take k) (lat j))) a1 cq es) (fun v _ => N - (intOf v).toNat)
      case atStart => exact ⟨0, by omega, rfl, HSt.out⟩
      case round =>
        rename World => wz
        obtain ⟨k, hk, rfl, hs⟩ := hrel
        have HZ : Hid (Hs w wz t hb xs.length (updI D j (dIn j D (es.take k) (lat j))) a1 cq es) := hs
        clear hs HSt
        by_cases hlt2 : k < N
        · have k0 : (0 : Int) ≤ (k : Int) := by omega
          have k1 : (k : Int) < (N : Int) := by omega
          have hke : k < es.length := by rw [HNl.out]; omega
          obtain ⟨eb, rfl, l1, lb1, f0, f1, f2, f3, f4⟩ := eOwn_at HZ.out.es hke
          have HNx := dIn_take j D (lat j) es k hke
          have hm := List.getElem_mem hke
          have g1 := HEO.out.f0 _ hm
          have g2 := HEO.out.ft _ hm
          have g3 := HEO.out.tn _ hm
          obtain ⟨g4, g5⟩ := HEO.out.l0 _ hm
          obtain ⟨n1, n2⟩ := HIn.out k
          have HNx : Hid _ := HNx
          obtain ⟨mv, hmv⟩ : ∃ mv, dIn j D (es.take k) (lat j) = mv := ⟨_, rfl⟩
          rw [hmv] at HNx HZ n1 n2
          clear hm hmv
          generalize es[k] = x at *
          obtain ⟨xf, xt, xl, xd, xy⟩ := x
          by_cases hf : xf = (j : Int)
          · subst hf
            have g2 : (j : Int) < xt := g2
            have g3 : xt < (xs.length : Int) := g3
            have g4 : 0 ≤ xl := g4
            have g5 : xl ≤ 8 := g5
            obtain ⟨ti, rfl⟩ : ∃ ti : Nat, xt = ti := ⟨xt.toNat, by omega⟩
            have HNx : Hid (dIn j D (es.take (k + 1)) (lat j) = max mv (xl + D ti)) := by
              have h1 := HNx.out
              rw [if_pos rfl] at h1
              exact h1
            have t0 : (0 : Int) ≤ (ti : Int) := by omega
            have h34 := HDl.out ti (by omega) (by omega)
            have cf := HZ.out.ir.c j hlt
            have ct := HZ.out.ir.c ti (by omega)
            rw [updI_same] at cf
            rw [updI_other _ _ (by omega)] at ct
            have zf := HZ.out.ir.f j
            have hl := HZ.out.ir.lt
            have hneb : ¬ eb = hb := HZ.out.ne _ rfl
            have hG2 : D ti ≤ 1600 ∧ 1 ≤ D ti := by omega
            clear h34 g1
            have HSet : Hid (∀ v, Hs w (wz.setCell ⟨hb, j, none⟩ (.int .i64 v)).drew t hb xs.length (updI D j v) (some ⟨eb, 0, none⟩) cq es) := fun v => by
              have := (HZ.out.set hlt v).next ((Below.refl _ _).drew)
              rw [updI_twice] at this
              exact this
            obtain ⟨hG3, hG4⟩ := hG2
            go_upto_region 14 with fail
            by_cases hmx : mv < xl + D ti
            · have HV : Hid (max mv (xl + D ti) = xl + D ti) := by show max mv (xl + D ti) = xl + D ti; omega
              generalize hgt : D ti = gt at *
              go_region
              all_goals
                go_wp2_with fail
                go_roundw
                case rel => exact ⟨k + 1, by omega, by go_num, by rw [HNx.out, HV.out]; exact HSet.out _⟩
                case measure => simp [intOf]; omega
            · have HV : Hid (max mv (xl + D ti) = mv) := by show max mv (xl + D ti) = mv; omega
              generalize hgt : D ti = gt at *
              go_region
              all_goals
                go_wp2_with fail
                go_roundw
                case rel => exact ⟨k + 1, by omega, by go_num, by rw [HNx.out, HV.out]; exact HSet.out _⟩
                case measure => simp [intOf]; omega
          · have g1 : 0 ≤ xf := g1
            have HNx : Hid (dIn j D (es.take (k + 1)) (lat j) = mv) := by
              have h1 := HNx.out
              rw [if_neg hf] at h1
              exact h1
            have hfb : (xf == (j : Int)) = false := by simpa using hf
            go_wp2_with fail
            go_roundw
            case rel => exact ⟨k + 1, by omega, by go_num, by rw [HNx.out]; exact HZ.out⟩
            case measure => simp [intOf]; omega
        · obtain rfl : k = N := by omega
          have k1 : ¬ (k : Int) < (k : Int) := by omega
          have HFin : Hid (Hs w wz t hb xs.length (dh lat es xs.length (xs.length - j)) a1 cq es) := by
            show Hs w wz t hb xs.length (dh lat es xs.length (xs.length - j)) a1 cq es
            rw [HEnd.out]
            have := HZ.out
            rw [List.take_of_length_le (by rw [HNl.out]; omega)] at this
            exact this
          clear HZ
          go_wp2_with fail
          go_roundw
          case rel => exact ⟨j, by omega, by first | rfl | go_num, HFin.out⟩
          case measure => first | (simp [intOf]; done) | (simp [intOf]; omega)
end Go.Proofs.YtnckkhamkkaljaaGreatDoor.Dp

namespace Go.Proofs.YtnckkhamkkaljaaGreatDoor.Dp
open Go.ChangeShapes Go.WideShapes Go.ChangeAt Go.RowKit
open _root_.Go.Proofs.YtnckkhamkkaljaaGreatDoor.Op _root_.Go.Proofs.YtnckkhamkkaljaaGreatDoor.So
open _root_.Go.Proofs.YtnckkhamkkaljaaGreatDoor.Tb (Tab TabAt Bnds)
set_option maxRecDepth 20000

theorem rowBase {W : World} {B B' e s n : Nat} {v : Value} {xs : List Value} (h : W.ownsRow B e s v n xs) (hB : B' ≤ B) : W.ownsRow B' e s v n xs := by
  obtain ⟨h1, h2⟩ := h
  rcases h2 with h0 | ⟨g, cap, cur, e1, e2, e3⟩
  · exact ⟨h1, .inl h0⟩
  · exact ⟨h1, .inr ⟨g, cap, cur, e1, by omega, e3⟩⟩
theorem levN_len (H : Nat → Int) (x : Int) : ∀ n, (lev H x n).length ≤ n
  | 0 => Nat.le_refl _
  | n + 1 => by
    unfold lev
    rw [List.length_append]
    have := levN_len H x n
    split <;> simp <;> omega
theorem dOrd_len (H : Nat → Int) (n : Nat) (most : Int) : ∀ k, (dOrd H n most k).length ≤ k * n
  | 0 => by simp [dOrd]
  | k + 1 => by
    unfold dOrd
    rw [List.length_append, Nat.add_mul, Nat.one_mul]
    have := dOrd_len H n most k
    have := levN_len H (most - k) n
    omega
theorem ordLen (H : Nat → Int) (n : Nat) (mo : Int) (k j : Nat) (hn : n ≤ 200) (hk : k ≤ 1601) : (dOrd H n mo k ++ lev H (mo - k) j).length ≤ 320200 + j := by
  rw [List.length_append]
  have h1 := dOrd_len H n mo k
  have h2 := levN_len H (mo - k) j
  have h3 : k * n ≤ 1601 * 200 := Nat.mul_le_mul hk hn
  omega
/-- Numbers put down so far, in a row of their own. -/
structure Lw (w1 W : World) (a : Option Addr) (c : Nat) (L : List Int) : Prop where
  row : W.ownsRow w1.heap.size 3 1 (.slice a L.length c) L.length (L.map (Value.int .i64))
  up : Below w1.heap.size w1 W
theorem Lw.next {w1 W W' : World} {a : Option Addr} {c : Nat} {L : List Int} (s : Lw w1 W a c L) (g : Below W.heap.size W W') : Lw w1 W' a c L := ⟨row_up s.row g, s.up.trans (g.mono s.up.size)⟩
theorem Lw.add {w1 W X w4 : World} {a : Option Addr} {c g cap : Nat} {L : List Int} {e : Int} (s : Lw w1 W a c L) (g0 : Below W.heap.size W X) (hgrow : X.grownBy w4 (Value.slice a L.length c).ownBlock) (hown : w4.ownsRow w1.heap.size 3 1 (.slice (some ⟨g, 0, none⟩) (L.length + 1) cap) (L.length + 1) (L.map (Value.int .i64) ++ [.int .i64 e])) : Lw w1 w4 (some ⟨g, 0, none⟩) cap (L ++ [e]) := by
  have s2 := s.next g0
  have hl := s2.up.size
  have B : Below w1.heap.size X w4 := (grown_fr hgrow).below (by omega) fun k hk e => by
    have := (s2.row.lt k e).1
    omega
  refine ⟨?_, s2.up.trans B⟩
  rw [List.map_append, List.length_append]
  exact hown
/-- The document's order is the program's. -/
theorem ord_same {n : Nat} {H g : Nat → Int} {most : Int} {k : Nat} (ho : OrdF n H g) (hk : most - k < 0) (hH : ∀ i, i < n → 0 ≤ H i ∧ H i ≤ most) : (List.range n).map g = dOrd H n most k := by
  refine pw_uniq (ahd_asym H) _ _ ?_ (dOrd_pw H n most k) fun x => ?_
  · rw [List.pairwise_map]
    rw [List.pairwise_iff_getElem]
    intro i j hi hj hij
    simp only [List.getElem_range, List.length_range] at hi hj ⊢
    exact ho.st i j hij hj
  · rw [dOrd_mem, List.mem_map]
    constructor
    · rintro ⟨i, hi, rfl⟩
      have hi := List.mem_range.1 hi
      obtain ⟨h1, h2⟩ := ho.rg i hi
      have h3 := hH (g i).toNat (by omega)
      exact ⟨(g i).toNat, by omega, by omega, by omega, h3.2⟩
    · rintro ⟨j, hj, rfl, -, -⟩
      obtain ⟨i, hi, e⟩ := ho.all j hj
      exact ⟨i, List.mem_range.2 hi, e⟩
theorem refOrd_no (ao : Option Addr) (cap : Nat) (n : Nat) (t : Tab) (er : Int) (w : World) (he : ¬ er = 0) (h22 : ∀ W, Below w.heap.size w W → Calls Tryz.prog 33 #[.slice ao n cap, t.val] W fun e w' => e = .returned (.tuple #[.slice none 0 0, .int .i64 er]) ∧ Below W.heap.size W w') :
    Calls Tryz.prog 15 #[.slice ao n cap, t.val] w fun e w' => e = .returned (.tuple #[.slice none 0 0, .int .i64 er]) ∧ Below w.heap.size w w' := by
  have HOf : Hid _ := h22
  clear h22
  unfold Tab.val at *
  go_enter Tryz.func15, Tryz.ntmps15
  go_wp2_with (first
    | (go_at_call 33; refine Calls.mono (HOf.out _ (by go_grown)) ?_; rintro e w1 ⟨rfl, b1⟩; have HT : Hid (Below w.heap.size w w1) := Below.trans (by go_grown) (b1.mono (by simp)); clear b1 HOf))
  go_ret2
  exact ⟨rfl, HT.out⟩
/-- What the document's order hands back. -/
def DoOut (w : World) (n : Nat) (H : Nat → Int) (e : Ending) (w' : World) : Prop := ∃ a c L, e = .returned (.tuple #[.slice a L.length c, .int .i64 0]) ∧ w'.ownsRow w.heap.size 3 1 (.slice a L.length c) L.length (L.map (Value.int .i64)) ∧ (∃ (most : Int) (k : Nat), L = dOrd H n most k ∧ most - k < 0 ∧ ∀ i, i < n → 0 ≤ H i ∧ H i ≤ most) ∧ Below w.heap.size w w'
set_option maxHeartbeats 8000000 in
theorem refOrd_ok (ao : Option Addr) (cap n : Nat) (t : Tab) (H : Nat → Int) (w : World) (hn : n ≤ 200) (hH : ∀ i, i < n → 1 ≤ H i ∧ H i ≤ 1600) (h22 : ∀ W, Below w.heap.size w W → Calls Tryz.prog 33 #[.slice ao n cap, t.val] W (HtOut W n H)) :
    Calls Tryz.prog 15 #[.slice ao n cap, t.val] w (DoOut w n H) := by
  have HOf : Hid (∀ W, Below w.heap.size w W → Calls Tryz.prog 33 #[.slice ao n cap, t.val] W fun e w' => ∃ hb, e = .returned (.tuple #[.slice (some ⟨hb, 0, none⟩) n n, .int .i64 0]) ∧ Ir w' hb n H ∧ W.heap.size ≤ hb ∧ Below W.heap.size W w') := h22
  have HH : Hid (∀ i, i < n → 1 ≤ H i ∧ H i ≤ 1600) := hH
  have hn' : (n : Int) ≤ 200 := by omega
  clear h22 hH
  obtain ⟨i0, hi, hi2⟩ := Option.map_eq_some_iff.1 info3
  simp only [Prod.mk.injEq] at hi2
  obtain ⟨hz0, hz1, hz2⟩ := hi2
  have HI : Hid (Tryz.prog.info? 3 = some i0 ∧ i0.zero = some (.int .i64 0) ∧ i0.size = 1 ∧ i0.bytes = 8) := ⟨hi, hz0, hz1, hz2⟩
  clear hi hz0 hz1 hz2
  unfold Tab.val at *
  go_enter Tryz.func15, Tryz.ntmps15
  go_wp2_with (first
    | (go_at_call 33; refine Calls.mono (HOf.out _ (by go_grown)) ?_; rintro e w1 ⟨hb, rfl, i1, -, b1⟩; have HR : Hid (Ir w1 hb n H ∧ Below w.heap.size w w1) := ⟨i1, Below.trans (by go_grown) (b1.mono (by simp))⟩; clear i1 b1 HOf))
  go_loop [9, 10] (fun m v => ∃ (i : Nat) (most : Int), i ≤ n ∧ m = .int .i64 most ∧ v = .int .i64 i ∧ 0 ≤ most ∧ most ≤ 1600 ∧ ∀ k, k < i → H k ≤ most) (fun _ v => n - (intOf v).toNat)
  case atStart => exact ⟨0, 0, by omega, rfl, rfl, by omega, by omega, fun k hk => by omega⟩
  case round =>
    obtain ⟨i, most, hi, rfl, rfl, m0, m1, hmost⟩ := hrel
    have HMs : Hid (∀ k, k < i → H k ≤ most) := hmost
    clear hmost
    by_cases hlt : i < n
    · have j0 : (0 : Int) ≤ (i : Int) := by omega
      have j1 : (i : Int) < (n : Int) := by omega
      have hc := HR.out.1.c i hlt
      have hl := HR.out.1.lt
      obtain ⟨h1, h2⟩ := HH.out i hlt
      by_cases hmx : most < H i
      · have HNx : Hid (∀ k, k < i + 1 → H k ≤ H i) := fun k hk => by
          by_cases e : k = i
          · subst e; exact Int.le_refl _
          · have := HMs.out k (by omega); omega
        generalize hx : H i = x at *
        clear hx
        go_wp2_with fail
        go_round
        case rel => exact ⟨i + 1, x, by omega, by first | rfl | (congr 1; omega) | simp, by go_num, by omega, by omega, HNx.out⟩
        case measure => simp [intOf]; omega
      · have HNx : Hid (∀ k, k < i + 1 → H k ≤ most) := fun k hk => by
          by_cases e : k = i
          · subst e; omega
          · exact HMs.out k (by omega)
        generalize hx : H i = x at *
        clear hx
        go_wp2_with fail
        go_round
        case rel => exact ⟨i + 1, most, by omega, by first | rfl | (congr 1; omega) | simp, by go_num, by omega, by omega, HNx.out⟩
        case measure => simp [intOf]; omega
    · obtain rfl : i = n := by omega
      have j1 : ¬ (i : Int) < (i : Int) := by omega
      obtain ⟨mo, rfl⟩ : ∃ mo : Nat, most = mo := ⟨most.toNat, by omega⟩
      have HL0 : Hid (Lw w1 w1 none 0 []) := ⟨World.ownsRow_nil _ _ _ _, Below.refl _ _⟩
      go_upto_region 11 with fail
      go_loopw [8, 11] (fun l v wr => ∃ (k : Nat) (a : Option Addr) (c : Nat), k ≤ mo + 1 ∧ l = .slice a (dOrd H i mo k).length c ∧ v = .int .i64 ((mo : Int) - k) ∧ Lw w1 wr a c (dOrd H i mo k)) (fun _ v _ => ((intOf v) + 1).toNat)
      case atStart => exact ⟨0, none, 0, by omega, rfl, by first | rfl | simp, HL0.out⟩
      case round =>
        rename World => wr
        obtain ⟨k, a, c, hk, rfl, rfl, hs⟩ := hrel
        have HQ : Hid (Lw w1 wr a c (dOrd H i mo k)) := hs
        clear hs HL0
        by_cases hlt2 : k < mo + 1
        · have x0 : (0 : Int) ≤ (mo : Int) - k := by omega
          have HEnd : Hid (dOrd H i mo (k + 1) = dOrd H i mo k ++ lev H ((mo : Int) - k) i) := rfl
          have HLn : Hid (∀ j, j ≤ i → (dOrd H i mo k ++ lev H ((mo : Int) - k) j).length ≤ 1000000) := fun j hj => Nat.le_trans (ordLen H i mo k j (by omega) (by omega)) (by omega)
          obtain ⟨D, hD⟩ : ∃ D, dOrd H i mo k = D := ⟨_, rfl⟩
          rw [hD] at HEnd HLn HQ ⊢
          clear hD
          obtain ⟨x, hx⟩ : ∃ x : Int, (mo : Int) - k = x := ⟨_, rfl⟩
          have HX : Hid ((mo : Int) - k = x) := hx
          rw [hx] at HEnd HLn x0 ⊢
          clear hx
          go_wp2_with fail
          go_loopw [8, 12] (fun l v wz => ∃ (j : Nat) (a : Option Addr) (c : Nat), j ≤ i ∧ l = .slice a (D ++ lev H x j).length c ∧ v = .int .i64 j ∧ Lw w1 wz a c (D ++ lev H x j)) (fun _ v _ => i - (intOf v).toNat)
          case atStart => exact ⟨0, a, c, by omega, by simp [lev], rfl, by simpa [lev] using HQ.out⟩
          case round =>
            rename World => wz
            obtain ⟨j, a2, c2, hj, rfl, rfl, hs⟩ := hrel
            have HZ : Hid (Lw w1 wz a2 c2 (D ++ lev H x j)) := hs
            clear hs HQ
            by_cases hlt3 : j < i
            · have j0 : (0 : Int) ≤ (j : Int) := by omega
              have j3 : (j : Int) < (i : Int) := by omega
              have hir := HR.out.1.up HZ.out.up
              have hc := hir.c j hlt3
              have hl := hir.lt
              have hlen := HLn.out j (by omega)
              have HNx : Hid (lev H x (j + 1) = lev H x j ++ (if H j = x then [(j : Int)] else [])) := rfl
              clear hir
              obtain ⟨E, hE⟩ : ∃ E, D ++ lev H x j = E := ⟨_, rfl⟩
              have HE : Hid (D ++ lev H x j = E) := hE
              rw [hE] at HZ hlen ⊢
              clear hE
              by_cases hx : H j = x
              · rw [if_pos hx] at HNx
                have hxb : (H j == x) = true := by simpa using hx
                subst hx
                generalize H j = y at *
                go_wp2_with (first | (at_builtin; refine wpList_append_lies _ rfl _ _ 28 rfl w1.heap.size 3 i0 (.int .i64 0) 1 8 Tryz.underlying28 HI.out.1 HI.out.2.1 HI.out.2.2.1 HI.out.2.2.2 rfl (by decide) (.slice a2 E.length c2) E.length (E.map (Value.int .i64)) rfl (World.ownsRow.alloc HZ.out.row _) ⟨wz.heap.size, 0, none⟩ 1 1 [.int .i64 (j : Int)] rfl rfl (World.news_of_block (heap_alloc_new wz _)) (by simp [Value.oneCell']) (by decide) (by unfold maxLen; omega) (by omega) (by have h5 := HZ.out.up.size; simp; omega) (wz.heap.size + 1) (by simp) ?_; intro g cp w4 hown hgrow hat hlt4; have HZ2 : Hid (Lw w1 w4 (some ⟨g, 0, none⟩) cp (E ++ [(j : Int)])) := HZ.out.add ((Below.refl _ _).alloc (Nat.le_refl _) _) hgrow hown; clear hown hgrow hat hlt4))
                go_roundw
                case rel => exact ⟨j + 1, some ⟨g, 0, none⟩, cp, by omega, by rw [HNx.out, ← List.append_assoc, HE.out]; simp, by go_num, by rw [HNx.out, ← List.append_assoc, HE.out]; exact HZ2.out⟩
                case measure => simp [intOf]; omega
              · rw [if_neg hx] at HNx
                have hxb : (H j == x) = false := by simpa using hx
                generalize H j = y at *
                go_wp2_with fail
                go_roundw
                case rel => exact ⟨j + 1, a2, c2, by omega, by rw [HNx.out, List.append_nil, HE.out], by go_num, by rw [HNx.out, List.append_nil, HE.out]; exact HZ.out⟩
                case measure => simp [intOf]; omega
            · obtain rfl : j = i := by omega
              have j3 : ¬ (j : Int) < (j : Int) := by omega
              have h64 : -1 ≤ x - 1 := by omega
              have h65 : x ≤ 1600 := by have := HX.out; omega
              go_wp2_with fail
              go_roundw
              case rel => exact ⟨k + 1, a2, c2, by omega, by rw [HEnd.out], by have := HX.out; first | (congr 1; omega) | (rw [show ((k + 1 : Nat) : Int) = (k : Int) + 1 by omega]; congr 1; omega), by rw [HEnd.out]; exact HZ.out⟩
              case measure => simp [intOf]; omega
        · obtain rfl : k = mo + 1 := by omega
          have x0 : ¬ (0 : Int) ≤ (mo : Int) - ((mo + 1 : Nat) : Int) := by omega
          have HL : Hid (∀ q, q < i → 0 ≤ H q ∧ H q ≤ (mo : Int)) := fun q hq => ⟨by have := HH.out q hq; omega, HMs.out q hq⟩
          obtain ⟨D, hD⟩ : ∃ D, dOrd H i mo (mo + 1) = D := ⟨_, rfl⟩
          have HD : Hid (dOrd H i mo (mo + 1) = D) := hD
          rw [hD] at HQ ⊢
          clear hD
          go_wp2_with fail
          go_ret2
          refine ⟨a, c, D, rfl, ?_, ⟨(mo : Int), mo + 1, HD.out.symm, by omega, HL.out⟩, HR.out.2.trans (HQ.out.up.mono HR.out.2.size)⟩
          exact rowBase HQ.out.row HR.out.2.size
end Go.Proofs.YtnckkhamkkaljaaGreatDoor.Dp

namespace Go.Proofs.YtnckkhamkkaljaaGreatDoor.Dp
open Go.ChangeShapes Go.WideShapes Go.ChangeAt Go.RowKit
open _root_.Go.Proofs.YtnckkhamkkaljaaGreatDoor.Op _root_.Go.Proofs.YtnckkhamkkaljaaGreatDoor.So
open _root_.Go.Proofs.YtnckkhamkkaljaaGreatDoor.Al
open _root_.Go.Proofs.YtnckkhamkkaljaaGreatDoor.Tb (Tab TabAt Bnds)
set_option maxRecDepth 20000

end Go.Proofs.YtnckkhamkkaljaaGreatDoor.Dp

namespace Go.Proofs.YtnckkhamkkaljaaGreatDoor.Dp
open Go.ChangeShapes Go.WideShapes Go.ChangeAt Go.RowKit
open _root_.Go.Proofs.YtnckkhamkkaljaaGreatDoor.Op _root_.Go.Proofs.YtnckkhamkkaljaaGreatDoor.So
open _root_.Go.Proofs.YtnckkhamkkaljaaGreatDoor.Al
open _root_.Go.Proofs.YtnckkhamkkaljaaGreatDoor.Tb (Tab TabAt Bnds)
set_option maxRecDepth 20000

theorem opsAt_take {w : World} {ao : Option Addr} {xs : List O} (h : OpsAt w ao xs) (n : Nat) : OpsAt w ao (xs.take n) := by
  refine ⟨fun o ho => h.ok o (List.mem_of_mem_take ho), by have := h.len; rw [List.length_take]; omega, fun h0 => ?_⟩
  obtain ⟨b, f, e, z, hx⟩ := h.is (by rw [List.length_take] at h0; omega)
  refine ⟨b, f, e, z, fun i hi => ?_⟩
  rw [List.getElem_take]
  exact hx i _
/-- The table's box, and what stands below. -/
theorem tab_next {w W W' : World} {t : Tab} (h : TabAt W w.heap.size t ∧ Below w.heap.size w W) (hb : Below W.heap.size W W') : TabAt W' w.heap.size t ∧ Below w.heap.size w W' := ⟨h.1.below hb h.1.lt, h.2.trans (hb.mono h.2.size)⟩
end Go.Proofs.YtnckkhamkkaljaaGreatDoor.Dp

namespace Go.Proofs.YtnckkhamkkaljaaGreatDoor.Op
open Go.ChangeShapes Go.WideShapes Go.ChangeAt Go.RowKit
set_option maxRecDepth 20000

theorem info37 : (Tryz.prog.info? 37).map (fun i => (i.zero, i.size, i.bytes)) = some (some (.agg #[.int .i8 0, .int .u8 0, .int .u8 0, .int .u8 0, .int .i64 0]), 5, 16) := by kernel_rfl
theorem add_at (b f j : Nat) : (⟨b, f, none⟩ : Addr).add j = ⟨b, f + j, none⟩ := by simp [Addr.add]
/-- The cells of operations in a row. -/
def ocells (xs : List O) : List Value := xs.flatMap fun o => [.int .i8 o.op, .int .u8 o.d, .int .u8 o.a, .int .u8 o.b, .int .i64 o.im]
theorem ocells_len (xs : List O) : (ocells xs).length = xs.length * 5 := by
  induction xs with
  | nil => rfl
  | cons o r ih => unfold ocells at ih ⊢; rw [List.flatMap_cons, List.length_append, ih]; simp; omega
theorem ocells_cons (o : O) (r : List O) : ocells (o :: r) = .int .i8 o.op :: .int .u8 o.d :: .int .u8 o.a :: .int .u8 o.b :: .int .i64 o.im :: ocells r := rfl
theorem ocells_get (xs : List O) : ∀ (i : Nat) (h : i < xs.length), (ocells xs)[i * 5]? = some (.int .i8 xs[i].op) ∧ (ocells xs)[i * 5 + 1]? = some (.int .u8 xs[i].d) ∧ (ocells xs)[i * 5 + 2]? = some (.int .u8 xs[i].a) ∧ (ocells xs)[i * 5 + 3]? = some (.int .u8 xs[i].b) ∧ (ocells xs)[i * 5 + 4]? = some (.int .i64 xs[i].im) := by
  induction xs with
  | nil => intro i h; simp at h
  | cons o r ih =>
    intro i h
    rw [ocells_cons]
    cases i with
    | zero => exact ⟨rfl, rfl, rfl, rfl, rfl⟩
    | succ i =>
      have := ih i (by simpa using h)
      rw [show (i + 1) * 5 = i * 5 + 1 + 1 + 1 + 1 + 1 by omega]
      simpa using this
theorem ocells_one (xs : List O) : ∀ u, u ∈ ocells xs → u.oneCell' = true := by
  intro u hu
  obtain ⟨o, _, h⟩ := List.mem_flatMap.1 hu
  simp at h
  rcases h with rfl | rfl | rfl | rfl | rfl <;> rfl
theorem ocells_at {w : World} {b f : Nat} (xs : List O) (h : ∀ (i : Nat) (h : i < xs.length), OAt w b (f + i * 5) xs[i]) : ∀ j u, (ocells xs)[j]? = some u → w.cell? ((⟨b, f, none⟩ : Addr).add j) = some u := by
  intro j u hu
  have hj : j < (ocells xs).length := by
    rcases Nat.lt_or_ge j (ocells xs).length with h' | h'
    · exact h'
    · rw [List.getElem?_eq_none h'] at hu; cases hu
  rw [ocells_len] at hj
  have hi : j / 5 < xs.length := by omega
  obtain ⟨c0, c1, c2, c3, c4⟩ := h (j / 5) hi
  obtain ⟨g0, g1, g2, g3, g4⟩ := ocells_get xs (j / 5) hi
  have hq : j = j / 5 * 5 + j % 5 := by omega
  have hm : j % 5 = 0 ∨ j % 5 = 1 ∨ j % 5 = 2 ∨ j % 5 = 3 ∨ j % 5 = 4 := by omega
  rw [add_at]
  generalize j / 5 = q at *
  rcases hm with hm | hm | hm | hm | hm
  · obtain rfl : j = q * 5 := by omega
    rw [g0] at hu; rw [← hu]; exact c0
  · obtain rfl : j = q * 5 + 1 := by omega
    rw [g1] at hu; rw [← hu, ← Nat.add_assoc]; exact c1
  · obtain rfl : j = q * 5 + 2 := by omega
    rw [g2] at hu; rw [← hu, ← Nat.add_assoc]; exact c2
  · obtain rfl : j = q * 5 + 3 := by omega
    rw [g3] at hu; rw [← hu, ← Nat.add_assoc]; exact c3
  · obtain rfl : j = q * 5 + 4 := by omega
    rw [g4] at hu; rw [← hu, ← Nat.add_assoc]; exact c4
/-- A row of operations is a list in memory. -/
theorem opsAt_row {w : World} {B c : Nat} {a : Option Addr} {xs : List O} (h : w.ownsRow B 37 5 (.slice a xs.length c) xs.length (ocells xs)) (hok : ∀ o, o ∈ xs → o.Ok) (hl : xs.length ≤ 8796093021952) : OpsAt w a xs := by
  refine ⟨hok, by omega, fun h0 => ?_⟩
  rcases h.2 with ⟨_, h1⟩ | ⟨g, cap, cur, h1, h2, h3, h4⟩
  · omega
  · injection h1 with e1 e2 e3
    subst e1
    have hc := h.cells (g := g) rfl
    refine ⟨g, 0, rfl, (h.lt g rfl).2, fun i hi => ?_⟩
    obtain ⟨g0, g1, g2, g3, g4⟩ := ocells_get xs i hi
    have k : ∀ j u, (ocells xs)[j]? = some u → w.cell? ⟨g, 0 + j, none⟩ = some u := fun j u hj => by have := hc j u hj; rw [add_at] at this; exact this
    exact ⟨k _ _ g0, k _ _ g1, k _ _ g2, k _ _ g3, k _ _ g4⟩

theorem grown_below {w w' : World} {row : Option Nat} (h : w.grownBy w' row) (hr : ∀ b, row = some b → w.heap.size ≤ b) : Below w.heap.size w w' :=
  ⟨h.os, h.tape, h.output, h.size, fun k hk => h.block k hk fun e => by have := hr k e.symm; omega⟩

/-- What make leaves. -/
structure Mk (w w1 : World) (n : Nat) : Prop where
  own : w1.ownsRow w.heap.size 37 5 (.slice (some ⟨w.heap.size, 0, none⟩) 0 (n + 1)) 0 []
  grown : w.grownBy w1 none
set_option maxHeartbeats 1000000 in
theorem copiedOps_some (a : Addr) (cap : Nat) (xs : List O) (w : World) (hl : xs.length ≤ 8796093021952) (hn : ∀ j u, (ocells xs)[j]? = some u → w.cell? (a.add j) = some u) :
    Calls Tryz.prog 5 #[.slice (some a) xs.length cap] w fun e w' => ∃ a c, e = .returned (.slice a xs.length c) ∧ w'.ownsRow w.heap.size 37 5 (.slice a xs.length c) xs.length (ocells xs) ∧ Below w.heap.size w w' := by
  obtain ⟨i0, hi, hi2⟩ := Option.map_eq_some_iff.1 info37
  simp only [Prod.mk.injEq] at hi2
  obtain ⟨hz0, hz1, hz2⟩ := hi2
  have HI : Hid (Tryz.prog.info? 37 = some i0 ∧ i0.zero = some (.agg #[.int .i8 0, .int .u8 0, .int .u8 0, .int .u8 0, .int .i64 0]) ∧ i0.size = 5 ∧ i0.bytes = 16) := ⟨hi, hz0, hz1, hz2⟩
  clear hi hz0 hz1 hz2
  have HN : Hid _ := hn
  clear hn
  have hlz : (xs.length : Int) ≤ 8796093021952 := by omega
  go_enter Tryz.func5, Tryz.ntmps5
  go_wp2_with (first
    | (at_make; refine wpList_make_own _ rfl _ _ 22 rfl w.heap.size 37 i0 (.agg #[.int .i8 0, .int .u8 0, .int .u8 0, .int .u8 0, .int .i64 0]) 5 Tryz.underlying22 HI.out.1 HI.out.2.1 HI.out.2.2.1 .i64 .i64 _ (xs.length + 1) rfl rfl (by omega) (by rw [HI.out.2.2.2]; omega) (by unfold maxLen; omega) (Nat.le_refl _) ?_; intro w1 hown1 hgrow1; have HM : Hid (Mk w w1 xs.length) := ⟨hown1, hgrow1⟩; clear hgrow1 hown1)
    | (at_builtin; refine wpList_append_own _ rfl (.tmp 8) (.tmp 9) 22 rfl w.heap.size 37 i0 (.agg #[.int .i8 0, .int .u8 0, .int .u8 0, .int .u8 0, .int .i64 0]) 5 16 Tryz.underlying22 HI.out.1 HI.out.2.1 HI.out.2.2.1 HI.out.2.2.2 rfl (by decide) _ _ _ rfl HM.out.own a xs.length cap (ocells xs) rfl (ocells_len xs) (fun j u hj => HM.out.grown.cell (HN.out j u hj) (by simp)) (ocells_one xs) (by unfold maxLen; omega) (by omega) (by have := HM.out.grown.size; omega) ?_; intro v' w2 hown2 hgrow2 hnil; have HF : Hid (w2.ownsRow w.heap.size 37 5 v' xs.length (ocells xs) ∧ w1.grownBy w2 (some w.heap.size)) := ⟨by have := hown2; simp only [Nat.zero_add, List.nil_append] at this; exact this, hgrow2⟩; clear hown2 hgrow2 hnil))
  go_ret
  obtain ⟨h1, h2⟩ := HF.out
  have hb : Below w.heap.size w w2 := (grown_below HM.out.grown (fun b hb => by cases hb)).grown h2 HM.out.grown.size (fun b hb => by cases hb; exact Nat.le_refl _)
  rcases h1.2 with ⟨rfl, h0⟩ | ⟨g, c, cur, rfl, _⟩
  · exact ⟨none, 0, by rw [h0]; rfl, by rw [h0] at h1 ⊢; exact h1, hb⟩
  · exact ⟨_, _, rfl, h1, hb⟩
set_option maxHeartbeats 1000000 in
theorem copiedOps_none (cap : Nat) (w : World) :
    Calls Tryz.prog 5 #[.slice none 0 cap] w fun e w' => ∃ a c, e = .returned (.slice a 0 c) ∧ w'.ownsRow w.heap.size 37 5 (.slice a 0 c) 0 [] ∧ Below w.heap.size w w' := by
  obtain ⟨i0, hi, hi2⟩ := Option.map_eq_some_iff.1 info37
  simp only [Prod.mk.injEq] at hi2
  obtain ⟨hz0, hz1, hz2⟩ := hi2
  have HI : Hid (Tryz.prog.info? 37 = some i0 ∧ i0.zero = some (.agg #[.int .i8 0, .int .u8 0, .int .u8 0, .int .u8 0, .int .i64 0]) ∧ i0.size = 5 ∧ i0.bytes = 16) := ⟨hi, hz0, hz1, hz2⟩
  clear hi hz0 hz1 hz2
  go_enter Tryz.func5, Tryz.ntmps5
  go_wp2_with (first
    | (at_make; refine wpList_make_own _ rfl _ _ 22 rfl w.heap.size 37 i0 (.agg #[.int .i8 0, .int .u8 0, .int .u8 0, .int .u8 0, .int .i64 0]) 5 Tryz.underlying22 HI.out.1 HI.out.2.1 HI.out.2.2.1 .i64 .i64 _ 1 rfl rfl (by omega) (by rw [HI.out.2.2.2]; omega) (by unfold maxLen; omega) (Nat.le_refl _) ?_; intro w1 hown1 hgrow1; have HM : Hid (Mk w w1 0) := ⟨hown1, hgrow1⟩; clear hgrow1 hown1))
  go_ret
  exact ⟨_, _, rfl, HM.out.own, grown_below HM.out.grown (fun b hb => by cases hb)⟩
theorem copiedOps_any (ao : Option Addr) (cap : Nat) (xs : List O) (w : World) (h : OpsAt w ao xs) (hl : xs.length ≤ 8796093021952) :
    Calls Tryz.prog 5 #[.slice ao xs.length cap] w fun e w' => ∃ a c, e = .returned (.slice a xs.length c) ∧ w'.ownsRow w.heap.size 37 5 (.slice a xs.length c) xs.length (ocells xs) ∧ Below w.heap.size w w' := by
  rcases Nat.eq_zero_or_pos xs.length with h0 | h0
  · obtain rfl : xs = [] := List.eq_nil_of_length_eq_zero h0
    cases ao with
    | none => exact copiedOps_none cap w
    | some a => exact copiedOps_some a cap [] w hl fun j u hu => by simp [ocells] at hu
  · obtain ⟨b, f, rfl, _, hx⟩ := h.is h0
    exact copiedOps_some _ cap xs w hl (ocells_at xs hx)
end Go.Proofs.YtnckkhamkkaljaaGreatDoor.Op

namespace Go.Proofs.YtnckkhamkkaljaaGreatDoor.Op
open Go.ChangeShapes Go.WideShapes Go.ChangeAt Go.RowKit
set_option maxRecDepth 20000

theorem drewN_lk {B : Nat} {a w : World} (h : Below B a w) (n : Nat) : Below B a (w.drewN n) := ⟨h.os, h.tape, h.output, h.size, h.block⟩
set_option maxHeartbeats 1000000 in
theorem likeOps_any (ao bo : Option Addr) (c d : Nat) (xs : List O) (w : World) (h : OpsAt w ao xs) (h' : OpsAt w bo xs) :
    Calls Tryz.prog 9 #[.slice ao xs.length c, .slice bo xs.length d] w fun e w' => e = .returned (.bool true) ∧ Below w.heap.size w w' := by
  have HA : Hid (OpsAt w ao xs) := h
  have HB : Hid (OpsAt w bo xs) := h'
  have hlen := h.len
  clear h h'
  go_enter Tryz.func9, Tryz.ntmps9
  go_wp2
  go_loopw [5] (fun i wr => ∃ k : Nat, k ≤ xs.length ∧ i = .int .i64 k ∧ Below w.heap.size w wr) (fun i _ => xs.length - (intOf i).toNat)
  case atStart => exact ⟨0, by omega, rfl, Below.refl _ _⟩
  case round =>
    rename World => wr
    obtain ⟨k, hk, rfl, hbw⟩ := hrel
    by_cases hlt : k < xs.length
    · obtain ⟨b, f, rfl, hz, hx⟩ := HA.out.is (by omega)
      obtain ⟨b', f', rfl, hz', hx'⟩ := HB.out.is (by omega)
      obtain ⟨c0, c1, c2, c3, c4⟩ := (hx k hlt).below hbw hz
      obtain ⟨d0, d1, d2, d3, d4⟩ := (hx' k hlt).below hbw hz'
      clear hx hx' HA HB
      generalize xs[k] = o at *
      go_wp2
      go_quiet (fail)
      go_wp2
      go_roundw
      case rel => exact ⟨k + 1, by omega, by go_num, drewN_lk hbw nq⟩
      case measure => simp [intOf]; omega
    · obtain rfl : k = xs.length := by omega
      go_wp2
      go_ret
      exact ⟨rfl, hbw⟩
end Go.Proofs.YtnckkhamkkaljaaGreatDoor.Op

namespace Go.Proofs.YtnckkhamkkaljaaGreatDoor.Dp
open Go.ChangeShapes Go.WideShapes Go.ChangeAt Go.RowKit
open _root_.Go.Proofs.YtnckkhamkkaljaaGreatDoor.Op _root_.Go.Proofs.YtnckkhamkkaljaaGreatDoor.So
open _root_.Go.Proofs.YtnckkhamkkaljaaGreatDoor.Tb (Tab TabAt Bnds)
set_option maxRecDepth 20000

theorem own_cap {w : World} {B c n : Nat} {a : Option Addr} {xs : List Value} (h : w.ownsRow B 37 5 (.slice a n c) n xs) : n ≤ c := by
  rcases h.2 with ⟨e, e0⟩ | ⟨g, cap, cur, e, -, -, hc, -⟩
  · rw [e0]; exact Nat.zero_le _
  · injection e with _ _ e3
    rw [e3]; exact hc
/-- A list of numbers in memory. -/
def Lr (W : World) (a : Option Addr) (n : Nat) (g : Nat → Int) : Prop := ∀ k, k < n → ∃ b, a = some ⟨b, 0, none⟩ ∧ b < W.heap.size ∧ W.cell? ⟨b, k, none⟩ = some (.int .i64 (g k))
theorem Lr.up {W W' : World} {a : Option Addr} {n : Nat} {g : Nat → Int} (h : Lr W a n g) (hb : Below W.heap.size W W') : Lr W' a n g := fun k hk => by
  obtain ⟨b, e, h1, h2⟩ := h k hk
  exact ⟨b, e, Nat.lt_of_lt_of_le h1 hb.size, by rw [(bcell hb).1 _ _ h1]; exact h2⟩
theorem same_lr {W : World} {nb n : Nat} {a : Option Addr} {g : Nat → Int} (c : Nat) (hn : (n : Int) ≤ 100000000) (h1 : Ir W nb n g) (h2 : Lr W a n g) : Calls Tryz.prog 8 #[.slice (some ⟨nb, 0, none⟩) n n, .slice a n c] W fun e w' => e = .returned (.bool true) ∧ Below W.heap.size W w' :=
  same_any _ _ n n c W hn fun k hk => by
    obtain ⟨b, e, h3, h4⟩ := h2 k hk
    exact ⟨nb, b, g k, rfl, e, h1.lt, h3, h1.c k hk, h4⟩
theorem same_ir {W : World} {n1 n2 n : Nat} {g : Nat → Int} (hn : (n : Int) ≤ 100000000) (h1 : Ir W n1 n g) (h2 : Ir W n2 n g) : Calls Tryz.prog 8 #[.slice (some ⟨n1, 0, none⟩) n n, .slice (some ⟨n2, 0, none⟩) n n] W fun e w' => e = .returned (.bool true) ∧ Below W.heap.size W w' :=
  same_lr n hn h1 fun k hk => ⟨n2, rfl, h2.lt, h2.c k hk⟩
/-- The document's order beside the program's. -/
theorem refOrd_with (ao : Option Addr) (cap : Nat) (xs : List O) (t : Tab) (w : World) (h : OpsAt w ao xs) (hq : xs.length ≤ 120) (he : lisE t xs = 0) (g : Nat → Int) (ho : OrdF xs.length (hts (latN t xs) (ofE t xs)) g) :
    Calls Tryz.prog 15 #[.slice ao xs.length cap, t.val] w fun e w' => ∃ a c, e = .returned (.tuple #[.slice a xs.length c, .int .i64 0]) ∧ Lr w' a xs.length g ∧ Below w.heap.size w w' := by
  obtain ⟨ht, hn, hok⟩ := lis_all he
  have hEO : EOk xs.length (ofE t xs) := ofE_ok t xs (pts_ok t xs (fun o ho => ⟨h.ok o ho, okL_okO (hok o ho)⟩) ht)
  have hle := (hts_is (lat := latN t xs) hEO).le hEO (fun i hi => by rw [latN_at t hi]; exact latV_in ht _)
  refine (refOrd_ok ao cap xs.length t _ w (by omega) (fun i hi => ?_) fun W hb => refHof_ok ao cap xs t W (h.below hb) (by omega) he).mono fun e w' h' => ?_
  · have := hle i hi
    omega
  · obtain ⟨a, c, L, rfl, hrow, ⟨most, k, hL, hk, hH⟩, hb⟩ := h'
    have hLg := ord_same ho hk hH
    rw [← hL] at hLg
    subst hLg
    have hlen : ((List.range xs.length).map g).length = xs.length := by simp
    rw [hlen] at hrow ⊢
    refine ⟨a, c, rfl, fun j hj => ?_, hb⟩
    rcases hrow.2 with ⟨-, e0⟩ | ⟨b, cap2, cur, e, -⟩
    · omega
    · injection e with e1 _ _
      subst e1
      refine ⟨b, rfl, (hrow.lt b rfl).2, ?_⟩
      rw [hrow.cellAt j (by omega)]
      simp [hj]
end Go.Proofs.YtnckkhamkkaljaaGreatDoor.Dp
