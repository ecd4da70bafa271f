/- Two programs that are the same are said to be (LikeOps, LikeProgram): read off the program by the walk. Conditions: both lie in memory. -/
import Derived.Test.YtddcndlogoajkaaGreatDoorGk
import Derived.Test.YtddcndlogoajkaaGreatDoorQPk
import Derived.Deep.QuietTactic
import Derived.BigQuiet
namespace Go.Proofs.YtddcndlogoajkaaGreatDoor.L8.Bt
open Go.ChangeShapes Go.WideShapes Go.ChangeAt Go.RowKit Go.Great
open _root_.Go.Proofs.YtddcndlogoajkaaGreatDoor.L8.Op _root_.Go.Proofs.YtddcndlogoajkaaGreatDoor.L8.So
open _root_.Go.Proofs.YtddcndlogoajkaaGreatDoor.L8.Lv (rdL wOf PsOk psOk_of PB bOf)
set_option maxRecDepth 20000

def oW1 : O := ⟨1, 1, 0, 0, 2⟩
def oW2 : O := ⟨1, 2, 0, 0, 3⟩
def oW3 : O := ⟨12, 3, 1, 2, 0⟩
def oW4 : O := ⟨1, 3, 0, 0, 6⟩
def bW (l : List O) : Bk := ⟨l, 2, 3, [], 0, 0⟩
def pW : List Bk := [bW [oW1, oW2, oW3]]
theorem pW_fold : fdP pW = [bW [oW1, oW2, oW4]] := by kernel_rfl
theorem pW_ck : ckP pW = 0 := by decide +kernel
theorem pW_ok : PsOk pW := fun x hx => by
  have : x = bW [oW1, oW2, oW3] := by simpa [pW] using hx
  subst this
  refine ⟨⟨by decide, by decide, by decide, by decide, by decide, by decide, by decide, by decide⟩, fun o ho => ?_, fun o ho => by simp [bW] at ho⟩
  have : o = oW1 ∨ o = oW2 ∨ o = oW3 := by simpa [bW] using ho
  rcases this with rfl | rfl | rfl
  · exact ⟨by decide, by decide, by decide, by decide, by decide, by decide, by decide, by decide, by decide, by decide⟩
  · exact ⟨by decide, by decide, by decide, by decide, by decide, by decide, by decide, by decide, by decide, by decide⟩
  · exact ⟨by decide, by decide, by decide, by decide, by decide, by decide, by decide, by decide, by decide, by decide⟩
theorem pW_g : PsG pW := psG_of pW_ok pW_ck
theorem endW (P : List Lv.B) (l : List O) (r : Nat) : EndP P (bOf (bW l)) r ↔ r = 3 := by
  have e : (bOf (bW l)).e = .halt 3 := rfl
  unfold EndP Lv.endGen
  rw [e]
  simp [Lv.E.own, Lv.E.isLoop, Lv.E.succ]
theorem pW_fin : Fin (fdP pW) [bW [oW4]] := by
  rw [pW_fold]
  have k : ∀ (P : List Lv.B) (l m : List O) (d : Nat), Lv.gen (m.map wOf) d = false → d ≠ 3 → ¬ NdP (m.map wOf) (EndP P (bOf (bW l))) d := fun P l m d h1 h2 q => by
    rcases q with q | ⟨-, q⟩
    · rw [h1] at q; cases q
    · exact h2 ((endW P l d).1 q)
  refine ⟨?_, 2, [bW [oW2, oW4]], ⟨0, by decide, [oW2, oW4], .inl ⟨by decide +kernel, by decide, by decide, k _ _ _ _ (by decide +kernel) (by decide), rfl⟩, rfl⟩, [bW [oW4]], ⟨0, by decide, [oW4], .inl ⟨by decide +kernel, by decide, by decide, k _ _ _ _ (by decide +kernel) (by decide), rfl⟩, rfl⟩, rfl⟩
  rintro qs ⟨i, hi, l, ht, -⟩
  have hi0 : i = 0 := by
    have : i < 1 := hi
    omega
  subst hi0
  rcases ht with ⟨-, -, -, h, -⟩ | ⟨m, -, h⟩
  · exact h ((ndP_nil _ _).2 ((endW _ _ _).2 rfl))
  · exact h
theorem pW_laid (w : World) : PAt (((w.alloc (.cells #[.int .i8 1, .int .u8 1, .int .u8 0, .int .u8 0, .int .i64 2, .int .i8 1, .int .u8 2, .int .u8 0, .int .u8 0, .int .i64 3, .int .i8 12, .int .u8 3, .int .u8 1, .int .u8 2, .int .i64 0] 51)).alloc (.cells #[.slice (some ⟨w.heap.size, 0, none⟩) 3 3, .int .i8 2, .int .u8 3, .slice none 0 0, .int .i64 0, .int .i64 0] 49)).alloc (.cells #[.slice (some ⟨w.heap.size + 1, 0, none⟩) 1 1] 24)) (some ⟨w.heap.size + 1, 0, none⟩) pW ∧ Below w.heap.size w (((w.alloc (.cells #[.int .i8 1, .int .u8 1, .int .u8 0, .int .u8 0, .int .i64 2, .int .i8 1, .int .u8 2, .int .u8 0, .int .u8 0, .int .i64 3, .int .i8 12, .int .u8 3, .int .u8 1, .int .u8 2, .int .i64 0] 51)).alloc (.cells #[.slice (some ⟨w.heap.size, 0, none⟩) 3 3, .int .i8 2, .int .u8 3, .slice none 0 0, .int .i64 0, .int .i64 0] 49)).alloc (.cells #[.slice (some ⟨w.heap.size + 1, 0, none⟩) 1 1] 24)) ∧ At (((w.alloc (.cells #[.int .i8 1, .int .u8 1, .int .u8 0, .int .u8 0, .int .i64 2, .int .i8 1, .int .u8 2, .int .u8 0, .int .u8 0, .int .i64 3, .int .i8 12, .int .u8 3, .int .u8 1, .int .u8 2, .int .i64 0] 51)).alloc (.cells #[.slice (some ⟨w.heap.size, 0, none⟩) 3 3, .int .i8 2, .int .u8 3, .slice none 0 0, .int .i64 0, .int .i64 0] 49)).alloc (.cells #[.slice (some ⟨w.heap.size + 1, 0, none⟩) 1 1] 24)) (w.heap.size + 1 + 1) #[.slice (some ⟨w.heap.size + 1, 0, none⟩) 1 1] := by
  have h1 := (Op.At.new w #[.int .i8 1, .int .u8 1, .int .u8 0, .int .u8 0, .int .i64 2, .int .i8 1, .int .u8 2, .int .u8 0, .int .u8 0, .int .i64 3, .int .i8 12, .int .u8 3, .int .u8 1, .int .u8 2, .int .i64 0] 51).alloc (.cells #[.slice (some ⟨w.heap.size, 0, none⟩) 3 3, .int .i8 2, .int .u8 3, .slice none 0 0, .int .i64 0, .int .i64 0] 49)
  have h2 := Op.At.new (w.alloc (.cells #[.int .i8 1, .int .u8 1, .int .u8 0, .int .u8 0, .int .i64 2, .int .i8 1, .int .u8 2, .int .u8 0, .int .u8 0, .int .i64 3, .int .i8 12, .int .u8 3, .int .u8 1, .int .u8 2, .int .i64 0] 51)) #[.slice (some ⟨w.heap.size, 0, none⟩) 3 3, .int .i8 2, .int .u8 3, .slice none 0 0, .int .i64 0, .int .i64 0] 49
  rw [show (w.alloc (.cells #[.int .i8 1, .int .u8 1, .int .u8 0, .int .u8 0, .int .i64 2, .int .i8 1, .int .u8 2, .int .u8 0, .int .u8 0, .int .i64 3, .int .i8 12, .int .u8 3, .int .u8 1, .int .u8 2, .int .i64 0] 51)).heap.size = w.heap.size + 1 by simp] at h2
  have h1 := h1.alloc (.cells #[.slice (some ⟨w.heap.size + 1, 0, none⟩) 1 1] 24)
  have h2 := h2.alloc (.cells #[.slice (some ⟨w.heap.size + 1, 0, none⟩) 1 1] 24)
  have h3 := Op.At.new ((w.alloc (.cells #[.int .i8 1, .int .u8 1, .int .u8 0, .int .u8 0, .int .i64 2, .int .i8 1, .int .u8 2, .int .u8 0, .int .u8 0, .int .i64 3, .int .i8 12, .int .u8 3, .int .u8 1, .int .u8 2, .int .i64 0] 51)).alloc (.cells #[.slice (some ⟨w.heap.size, 0, none⟩) 3 3, .int .i8 2, .int .u8 3, .slice none 0 0, .int .i64 0, .int .i64 0] 49)) #[.slice (some ⟨w.heap.size + 1, 0, none⟩) 1 1] 24
  rw [show ((w.alloc (.cells #[.int .i8 1, .int .u8 1, .int .u8 0, .int .u8 0, .int .i64 2, .int .i8 1, .int .u8 2, .int .u8 0, .int .u8 0, .int .i64 3, .int .i8 12, .int .u8 3, .int .u8 1, .int .u8 2, .int .i64 0] 51)).alloc (.cells #[.slice (some ⟨w.heap.size, 0, none⟩) 3 3, .int .i8 2, .int .u8 3, .slice none 0 0, .int .i64 0, .int .i64 0] 49)).heap.size = w.heap.size + 1 + 1 by simp] at h3
  refine ⟨⟨by decide, fun _ => ⟨w.heap.size + 1, 0, rfl, h2.lt, fun i hi => ?_⟩⟩, (((Below.refl _ _).alloc (Nat.le_refl _) _).alloc (by simp) _).alloc (by simp; omega) _, h3⟩
  have hi0 : i = 0 := by
    have : i < 1 := hi
    omega
  subst hi0
  obtain ⟨k1, k2, k3⟩ := pW_ok (bW [oW1, oW2, oW3]) (by simp [pW])
  refine ⟨⟨some ⟨w.heap.size, 0, none⟩, 3, none, 0⟩, ⟨h2.c 0 _ rfl, h2.c 1 _ rfl, h2.c 2 _ rfl, h2.c 3 _ rfl, h2.c 4 _ rfl, h2.c 5 _ rfl⟩, k1, ⟨k2, show 3 ≤ 8796093022208 by decide, fun _ => ⟨w.heap.size, 0, rfl, h1.lt, fun j hj => ?_⟩⟩, ⟨k3, show 0 ≤ 8796093022208 by decide, fun q => absurd (show 0 < 0 from q) (by decide)⟩, show 3 ≤ 3 by decide⟩
  have hj3 : j = 0 ∨ j = 1 ∨ j = 2 := by
    have : j < 3 := hj
    omega
  rcases hj3 with rfl | rfl | rfl
  · exact ⟨h1.c 0 _ rfl, h1.c 1 _ rfl, h1.c 2 _ rfl, h1.c 3 _ rfl, h1.c 4 _ rfl⟩
  · exact ⟨h1.c 5 _ rfl, h1.c 6 _ rfl, h1.c 7 _ rfl, h1.c 8 _ rfl, h1.c 9 _ rfl⟩
  · exact ⟨h1.c 10 _ rfl, h1.c 11 _ rfl, h1.c 12 _ rfl, h1.c 13 _ rfl, h1.c 14 _ rfl⟩
set_option maxHeartbeats 4000000 in
theorem wakes_any (w : World) (he : Env w) :
    Calls Tryz.prog 6 #[] w fun e w' => e = .returned (.bool true) ∧ Below w.heap.size w w' := by
  have HF : Hid (∀ W ao c, Below w.heap.size w W → PAt W ao pW → Calls Tryz.prog 7 #[.agg #[.slice ao 1 c]] W fun e w' => ∃ a c, e = .returned (.tuple #[.agg #[.slice a 1 c], .int .i64 0]) ∧ PAt w' a [bW [oW1, oW2, oW4]] ∧ Below W.heap.size W w') := fun W ao c hb hp => by
    have := fold_ok ao c pW W hp (he.up hb) pW_g
    rw [pW_fold] at this
    exact this
  have HBu : Hid (∀ W ao c, Below w.heap.size w W → PAt W ao [bW [oW1, oW2, oW4]] → Calls Tryz.prog 12 #[.agg #[.slice ao 1 c]] W fun e w' => ∃ a c, e = .returned (.tuple #[.agg #[.slice a 1 c], .int .i64 0]) ∧ PAt w' a [bW [oW4]] ∧ Below W.heap.size W w') := fun W ao c hb hp => by
    have hg := psG_fold pW_g
    have hfin := pW_fin
    rw [pW_fold] at hg hfin
    refine (bury_ok [bW [oW4]] ao c [bW [oW1, oW2, oW4]] W hp (he.up hb) hg (fun zs hz => fin_one hz hfin)).mono ?_
    rintro e w' ⟨a, c, rfl, h1, -, h2⟩
    exact ⟨a, c, rfl, h1, h2⟩
  clear he
  go_enter Tryz.func6, Tryz.ntmps6
  go_upto_region 2 with fail
  obtain ⟨hp0, hb0, ha0⟩ := pW_laid w
  generalize (((w.alloc (.cells #[.int .i8 1, .int .u8 1, .int .u8 0, .int .u8 0, .int .i64 2, .int .i8 1, .int .u8 2, .int .u8 0, .int .u8 0, .int .i64 3, .int .i8 12, .int .u8 3, .int .u8 1, .int .u8 2, .int .i64 0] 51)).alloc (.cells #[.slice (some ⟨w.heap.size, 0, none⟩) 3 3, .int .i8 2, .int .u8 3, .slice none 0 0, .int .i64 0, .int .i64 0] 49)).alloc (.cells #[.slice (some ⟨w.heap.size + 1, 0, none⟩) 1 1] 24)) = w1 at *
  have HP0 : Hid _ := hp0
  have HB0 : Hid _ := hb0
  have r0 := ha0.c 0 _ rfl
  clear hp0 hb0 ha0
  go_upto_region 3 with (first
    | (go_at_call 7; go_loud (refine Calls.mono (HF.out _ _ _ HB0.out HP0.out) ?_; rintro e w2 ⟨a1, c1, rfl, hp1, hb1⟩; have HP1 : Hid _ := hp1; have HB1 : Hid (Below w.heap.size w w2) := HB0.out.trans (hb1.mono HB0.out.size); clear hp1 hb1 HF HP0 HB0 r0)))
  have b2 : Below w2.heap.size w2 (w2.alloc (.cells #[.slice a1 1 c1] 24)) := below_al _
  have ha2 := Op.At.new w2 #[.slice a1 1 c1] 24
  have HP2 : Hid _ := HP1.out.below b2
  have HB2 : Hid _ := HB1.out.trans (b2.mono HB1.out.size)
  have HA2 : Hid _ := ha2
  have s2 := ha2.c 0 _ rfl
  clear b2 HP1 HB1 ha2
  generalize w2.alloc (.cells #[.slice a1 1 c1] 24) = w3 at *
  generalize w2.heap.size = t2 at *
  clear w2
  go_upto_region 4 with (first
    | (go_at_call 12; go_loud (refine Calls.mono (HBu.out _ _ _ HB2.out HP2.out) ?_; rintro e w4 ⟨a2, c2, rfl, hp3, hb3⟩; have HP3 : Hid _ := hp3; have HB3 : Hid (Below w.heap.size w w4) := HB2.out.trans (hb3.mono HB2.out.size); have HP4 : Hid _ := HP2.out.below hb3; have HA4 : Hid _ := HA2.out.below hb3 HA2.out.lt; clear hp3 hb3 HBu HP2 HB2 HA2 s2)))
  have b4 : Below w4.heap.size w4 (w4.alloc (.cells #[.slice a2 1 c2] 24)) := below_al _
  have ha4 := Op.At.new w4 #[.slice a2 1 c2] 24
  have hp4 := HP4.out.below b4
  have hp3 := HP3.out.below b4
  have s2 := (HA4.out.below b4 HA4.out.lt).c 0 _ rfl
  have s4 := ha4.c 0 _ rfl
  have HB4 : Hid _ := HB3.out.trans (b4.mono HB3.out.size)
  clear b4 ha4 HP3 HP4 HB3 HA4
  generalize w4.alloc (.cells #[.slice a2 1 c2] 24) = w5 at *
  generalize w4.heap.size = t4 at *
  clear w4
  obtain ⟨g1, f1, rfl, -, x1⟩ := hp4.is (by decide)
  obtain ⟨p1, u1, v1⟩ := x1 0 (by decide)
  obtain ⟨h1, k1, e1, -, y1⟩ := v1.o.is (by decide)
  obtain ⟨l0, l1, l2, l3, l4⟩ := y1 2 (by decide)
  have m0 := u1.c0
  rw [e1] at m0
  obtain ⟨g2, f2, rfl, -, x2⟩ := hp3.is (by decide)
  obtain ⟨p2, u2, v2⟩ := x2 0 (by decide)
  have n0 := u2.c0
  have e3 : ([bW [oW1, oW2, oW4]][0]).ops.length = 3 := rfl
  have e4 : ([bW [oW4]][0]).ops.length = 1 := rfl
  rw [e3] at m0
  rw [e4] at n0
  simp only [oW4, Nat.zero_mul, Nat.add_zero] at l0 l1 l2 l3 l4 m0 n0
  clear x1 x2 y1 u1 v1 u2 v2 hp3 hp4 e1 e3 e4
  obtain ⟨pa, pc, pb, pd⟩ := p1
  obtain ⟨qa, qc, qb, qd⟩ := p2
  simp only at m0 n0
  go_wp2_with fail
  go_ret
  exact ⟨rfl, HB4.out⟩
end Go.Proofs.YtddcndlogoajkaaGreatDoor.L8.Bt
namespace Go.Proofs.YtddcndlogoajkaaGreatDoor.L8.Op
open Go.ChangeShapes Go.WideShapes Go.ChangeAt Go.RowKit
set_option maxRecDepth 20000

set_option maxHeartbeats 1000000 in
theorem likeOps_any (ao bo : Option Addr) (c d : Nat) (xs : List O) (w : World) (h : OpsAt w ao xs) (h' : OpsAt w bo xs) :
    Calls Tryz.prog 24 #[.slice ao xs.length c, .slice bo xs.length d] w fun e w' => e = .returned (.bool true) ∧ Below w.heap.size w w' := by
  have HA : Hid (OpsAt w ao xs) := h
  have HB : Hid (OpsAt w bo xs) := h'
  have hlen := h.len
  clear h h'
  go_enter Tryz.func24, Tryz.ntmps24
  go_wp2
  go_loopw [5] (fun i wr => ∃ k : Nat, k ≤ xs.length ∧ i = .int .i64 k ∧ Below w.heap.size w wr) (fun i _ => xs.length - (intOf i).toNat)
  case atStart => exact ⟨0, by omega, rfl, Below.refl _ _⟩
  case round =>
    rename World => wr
    obtain ⟨k, hk, rfl, hbw⟩ := hrel
    by_cases hlt : k < xs.length
    · obtain ⟨b, f, rfl, hz, hx⟩ := HA.out.is (by omega)
      obtain ⟨b', f', rfl, hz', hx'⟩ := HB.out.is (by omega)
      obtain ⟨c0, c1, c2, c3, c4⟩ := (hx k hlt).below hbw hz
      obtain ⟨d0, d1, d2, d3, d4⟩ := (hx' k hlt).below hbw hz'
      clear hx hx' HA HB
      generalize xs[k] = o at *
      go_wp2
      go_quiet (fail)
      go_wp2
      go_roundw
      case rel => exact ⟨k + 1, by omega, by go_num, drewN_below hbw nq⟩
      case measure => simp [intOf]; omega
    · obtain rfl : k = xs.length := by omega
      go_wp2
      go_ret
      exact ⟨rfl, hbw⟩
/-- Two programs' boxes. -/
structure Lw (w V : World) (u v : Value) : Prop where
  b : Below w.heap.size w V
  p : At V w.heap.size #[u]
  q : At V (w.heap.size + 1) #[v]
theorem Lw.go {w V V' : World} {u v : Value} (h : Lw w V u v) (hb : Below V.heap.size V V') : Lw w V' u v :=
  ⟨h.b.trans (hb.mono h.b.size), h.p.below hb h.p.lt, h.q.below hb h.q.lt⟩
theorem Lw.start (w : World) (u v : Value) (t t' : TypeId) : Lw w ((w.alloc (.cells #[u] t)).alloc (.cells #[v] t')) u v := by
  obtain ⟨a1, a2, b, _, _⟩ := two_new w #[u] #[v] t t' (Below.refl _ _)
  exact ⟨b, a1, a2⟩
set_option maxHeartbeats 4000000 in
theorem likeProgram_any (ao bo : Option Addr) (c d : Nat) (ps : List Bk) (w : World) (h : PAt w ao ps) (h' : PAt w bo ps) :
    Calls Tryz.prog 10 #[.agg #[.slice ao ps.length c], .agg #[.slice bo ps.length d]] w fun e w' => e = .returned (.bool true) ∧ Below w.heap.size w w' := by
  have HA : Hid (PAt w ao ps) := h
  have HB : Hid (PAt w bo ps) := h'
  have hlen := h.len
  clear h h'
  have HS : Hid (Lw w ((w.alloc (.cells #[.slice ao ps.length c] 24)).alloc (.cells #[.slice bo ps.length d] 24)) (.slice ao ps.length c) (.slice bo ps.length d)) := Lw.start _ _ _ _ _
  go_enter Tryz.func10, Tryz.ntmps10
  go_wp2
  generalize ((w.alloc (.cells #[.slice ao ps.length c] 24)).alloc (.cells #[.slice bo ps.length d] 24)) = V at *
  go_loopw [5] (fun i wr => ∃ k : Nat, k ≤ ps.length ∧ i = .int .i64 k ∧ Lw w wr (.slice ao ps.length c) (.slice bo ps.length d)) (fun i _ => ps.length - (intOf i).toNat)
  case atStart => exact ⟨0, by omega, rfl, HS.out⟩
  case round =>
    rename World => wr
    obtain ⟨k, hk, rfl, hw⟩ := hrel
    have HW : Hid (Lw w wr (.slice ao ps.length c) (.slice bo ps.length d)) := hw
    have cp := hw.p.c 0 _ rfl
    clear HS
    by_cases hlt : k < ps.length
    · obtain ⟨b, f, rfl, hz, hx⟩ := HA.out.is (by omega)
      obtain ⟨b', f', rfl, hz', hx'⟩ := HB.out.is (by omega)
      obtain ⟨⟨oa, oc, ba, bc⟩, g1, g2⟩ := hx k hlt
      obtain ⟨⟨oa', oc', ba', bc'⟩, g1', g2'⟩ := hx' k hlt
      have zw := hw.b.size
      generalize ps[k] = x at *
      have hb1 : Below wr.heap.size wr (wr.alloc (.cells #[.slice oa x.ops.length oc, .int .i8 x.fin, .int .u8 x.a, .slice ba x.body.length bc, .int .i64 x.thn, .int .i64 x.els] 49)) := (Below.refl _ _).alloc (Nat.le_refl _) _
      obtain ⟨c0, c1, c2, c3, c4, c5⟩ := g1.below hw.b hz
      obtain ⟨d0, d1, d2, d3, d4, d5⟩ := (g1'.below hw.b hz').below hb1 (Nat.lt_of_lt_of_le hz' zw)
      have cq := (hw.q.below hb1 hw.q.lt).c 0 _ rfl
      simp only at c0 c3 d0 d3
      have HO : Hid (∀ w1, Below w.heap.size w w1 → Calls Tryz.prog 24 #[.slice oa x.ops.length oc, .slice oa' x.ops.length oc'] w1 fun e w' => e = .returned (.bool true) ∧ Below w1.heap.size w1 w') := fun w1 hb => likeOps_any _ _ _ _ _ _ (g2.o.below hb) (g2'.o.below hb)
      have HY : Hid (∀ w1, Below w.heap.size w w1 → Calls Tryz.prog 24 #[.slice ba x.body.length bc, .slice ba' x.body.length bc'] w1 fun e w' => e = .returned (.bool true) ∧ Below w1.heap.size w1 w') := fun w1 hb => likeOps_any _ _ _ _ _ _ (g2.b.below hb) (g2'.b.below hb)
      clear hx hx' g1 g2 g1' g2' hw hb1 HA HB
      go_wp2_with (first
        | (go_at_call 24; refine Calls.mono (HO.out _ ((HW.out.b.alloc HW.out.b.size _).alloc (by have := HW.out.b.size; simp; omega) _)) ?_; rintro e w2 ⟨rfl, hb⟩; obtain ⟨a1, a2, hb0, -, -⟩ := two_new wr _ _ _ _ hb; have HW2 : Hid (Lw w w2 (.slice (some ⟨b, f, none⟩) ps.length c) (.slice (some ⟨b', f', none⟩) ps.length d)) := HW.out.go hb0; clear hb hb0 HO c0 c1 c2 c3 c4 c5 d0 d1 d2 d3 d4 d5 cp cq; have e3 := a1.c 3 _ rfl; have e3' := a2.c 3 _ rfl; clear a1 a2)
        | (go_at_call 24; refine Calls.mono (HY.out _ HW2.out.b) ?_; rintro e w3 ⟨rfl, hb⟩; have HW3 : Hid (Lw w w3 (.slice (some ⟨b, f, none⟩) ps.length c) (.slice (some ⟨b', f', none⟩) ps.length d)) := HW2.out.go hb; clear hb HY))
      go_roundw
      case rel => exact ⟨k + 1, by omega, by go_num, HW3.out⟩
      case measure => simp [intOf]; omega
    · obtain rfl : k = ps.length := by omega
      clear hw
      go_wp2
      go_ret
      exact ⟨rfl, HW.out.b⟩
end Go.Proofs.YtddcndlogoajkaaGreatDoor.L8.Op
