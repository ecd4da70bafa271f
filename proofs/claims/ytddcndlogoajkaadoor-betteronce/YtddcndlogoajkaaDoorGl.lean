/- What the document says of a short program (wakes): read off the program by the walk. Conditions: the variables as the program lays them. -/
import Derived.Test.YtddcndlogoajkaaDoorGk
namespace Go.Proofs.YtddcndlogoajkaaDoor.L8.Bt
open Go.ChangeShapes Go.WideShapes Go.ChangeAt Go.RowKit Go.Great
open _root_.Go.Proofs.YtddcndlogoajkaaDoor.L8.Op _root_.Go.Proofs.YtddcndlogoajkaaDoor.L8.So
open _root_.Go.Proofs.YtddcndlogoajkaaDoor.L8.Lv (rdL wOf PsOk psOk_of PB bOf)
set_option maxRecDepth 20000

def oW1 : O := ⟨1, 1, 0, 0, 2⟩
def oW2 : O := ⟨1, 2, 0, 0, 3⟩
def oW3 : O := ⟨12, 3, 1, 2, 0⟩
def oW4 : O := ⟨1, 3, 0, 0, 6⟩
def bW (l : List O) : Bk := ⟨l, 2, 3, [], 0, 0⟩
def pW : List Bk := [bW [oW1, oW2, oW3]]
theorem pW_fold : fdP pW = [bW [oW1, oW2, oW4]] := by kernel_rfl
theorem pW_ck : ckP pW = 0 := by decide +kernel
theorem pW_ok : PsOk pW := fun x hx => by
  have : x = bW [oW1, oW2, oW3] := by simpa [pW] using hx
  subst this
  refine ⟨⟨by decide, by decide, by decide, by decide, by decide, by decide, by decide, by decide⟩, fun o ho => ?_, fun o ho => by simp [bW] at ho⟩
  have : o = oW1 ∨ o = oW2 ∨ o = oW3 := by simpa [bW] using ho
  rcases this with rfl | rfl | rfl
  · exact ⟨by decide, by decide, by decide, by decide, by decide, by decide, by decide, by decide, by decide, by decide⟩
  · exact ⟨by decide, by decide, by decide, by decide, by decide, by decide, by decide, by decide, by decide, by decide⟩
  · exact ⟨by decide, by decide, by decide, by decide, by decide, by decide, by decide, by decide, by decide, by decide⟩
theorem pW_g : PsG pW := psG_of pW_ok pW_ck
theorem endW (P : List Lv.B) (l : List O) (r : Nat) : EndP P (bOf (bW l)) r ↔ r = 3 := by
  have e : (bOf (bW l)).e = .halt 3 := rfl
  unfold EndP Lv.endGen
  rw [e]
  simp [Lv.E.own, Lv.E.isLoop, Lv.E.succ]
theorem pW_fin : Fin (fdP pW) [bW [oW4]] := by
  rw [pW_fold]
  have k : ∀ (P : List Lv.B) (l m : List O) (d : Nat), Lv.gen (m.map wOf) d = false → d ≠ 3 → ¬ NdP (m.map wOf) (EndP P (bOf (bW l))) d := fun P l m d h1 h2 q => by
    rcases q with q | ⟨-, q⟩
    · rw [h1] at q; cases q
    · exact h2 ((endW P l d).1 q)
  refine ⟨?_, 2, [bW [oW2, oW4]], ⟨0, by decide, [oW2, oW4], .inl ⟨by decide +kernel, by decide, by decide, k _ _ _ _ (by decide +kernel) (by decide), rfl⟩, rfl⟩, [bW [oW4]], ⟨0, by decide, [oW4], .inl ⟨by decide +kernel, by decide, by decide, k _ _ _ _ (by decide +kernel) (by decide), rfl⟩, rfl⟩, rfl⟩
  rintro qs ⟨i, hi, l, ht, -⟩
  have hi0 : i = 0 := by
    have : i < 1 := hi
    omega
  subst hi0
  rcases ht with ⟨-, -, -, h, -⟩ | ⟨m, -, h⟩
  · exact h ((ndP_nil _ _).2 ((endW _ _ _).2 rfl))
  · exact h
theorem pW_laid (w : World) : PAt (((w.alloc (.cells #[.int .i8 1, .int .u8 1, .int .u8 0, .int .u8 0, .int .i64 2, .int .i8 1, .int .u8 2, .int .u8 0, .int .u8 0, .int .i64 3, .int .i8 12, .int .u8 3, .int .u8 1, .int .u8 2, .int .i64 0] 39)).alloc (.cells #[.slice (some ⟨w.heap.size, 0, none⟩) 3 3, .int .i8 2, .int .u8 3, .slice none 0 0, .int .i64 0, .int .i64 0] 36)).alloc (.cells #[.slice (some ⟨w.heap.size + 1, 0, none⟩) 1 1] 24)) (some ⟨w.heap.size + 1, 0, none⟩) pW ∧ Below w.heap.size w (((w.alloc (.cells #[.int .i8 1, .int .u8 1, .int .u8 0, .int .u8 0, .int .i64 2, .int .i8 1, .int .u8 2, .int .u8 0, .int .u8 0, .int .i64 3, .int .i8 12, .int .u8 3, .int .u8 1, .int .u8 2, .int .i64 0] 39)).alloc (.cells #[.slice (some ⟨w.heap.size, 0, none⟩) 3 3, .int .i8 2, .int .u8 3, .slice none 0 0, .int .i64 0, .int .i64 0] 36)).alloc (.cells #[.slice (some ⟨w.heap.size + 1, 0, none⟩) 1 1] 24)) ∧ At (((w.alloc (.cells #[.int .i8 1, .int .u8 1, .int .u8 0, .int .u8 0, .int .i64 2, .int .i8 1, .int .u8 2, .int .u8 0, .int .u8 0, .int .i64 3, .int .i8 12, .int .u8 3, .int .u8 1, .int .u8 2, .int .i64 0] 39)).alloc (.cells #[.slice (some ⟨w.heap.size, 0, none⟩) 3 3, .int .i8 2, .int .u8 3, .slice none 0 0, .int .i64 0, .int .i64 0] 36)).alloc (.cells #[.slice (some ⟨w.heap.size + 1, 0, none⟩) 1 1] 24)) (w.heap.size + 1 + 1) #[.slice (some ⟨w.heap.size + 1, 0, none⟩) 1 1] := by
  have h1 := (Op.At.new w #[.int .i8 1, .int .u8 1, .int .u8 0, .int .u8 0, .int .i64 2, .int .i8 1, .int .u8 2, .int .u8 0, .int .u8 0, .int .i64 3, .int .i8 12, .int .u8 3, .int .u8 1, .int .u8 2, .int .i64 0] 39).alloc (.cells #[.slice (some ⟨w.heap.size, 0, none⟩) 3 3, .int .i8 2, .int .u8 3, .slice none 0 0, .int .i64 0, .int .i64 0] 36)
  have h2 := Op.At.new (w.alloc (.cells #[.int .i8 1, .int .u8 1, .int .u8 0, .int .u8 0, .int .i64 2, .int .i8 1, .int .u8 2, .int .u8 0, .int .u8 0, .int .i64 3, .int .i8 12, .int .u8 3, .int .u8 1, .int .u8 2, .int .i64 0] 39)) #[.slice (some ⟨w.heap.size, 0, none⟩) 3 3, .int .i8 2, .int .u8 3, .slice none 0 0, .int .i64 0, .int .i64 0] 36
  rw [show (w.alloc (.cells #[.int .i8 1, .int .u8 1, .int .u8 0, .int .u8 0, .int .i64 2, .int .i8 1, .int .u8 2, .int .u8 0, .int .u8 0, .int .i64 3, .int .i8 12, .int .u8 3, .int .u8 1, .int .u8 2, .int .i64 0] 39)).heap.size = w.heap.size + 1 by simp] at h2
  have h1 := h1.alloc (.cells #[.slice (some ⟨w.heap.size + 1, 0, none⟩) 1 1] 24)
  have h2 := h2.alloc (.cells #[.slice (some ⟨w.heap.size + 1, 0, none⟩) 1 1] 24)
  have h3 := Op.At.new ((w.alloc (.cells #[.int .i8 1, .int .u8 1, .int .u8 0, .int .u8 0, .int .i64 2, .int .i8 1, .int .u8 2, .int .u8 0, .int .u8 0, .int .i64 3, .int .i8 12, .int .u8 3, .int .u8 1, .int .u8 2, .int .i64 0] 39)).alloc (.cells #[.slice (some ⟨w.heap.size, 0, none⟩) 3 3, .int .i8 2, .int .u8 3, .slice none 0 0, .int .i64 0, .int .i64 0] 36)) #[.slice (some ⟨w.heap.size + 1, 0, none⟩) 1 1] 24
  rw [show ((w.alloc (.cells #[.int .i8 1, .int .u8 1, .int .u8 0, .int .u8 0, .int .i64 2, .int .i8 1, .int .u8 2, .int .u8 0, .int .u8 0, .int .i64 3, .int .i8 12, .int .u8 3, .int .u8 1, .int .u8 2, .int .i64 0] 39)).alloc (.cells #[.slice (some ⟨w.heap.size, 0, none⟩) 3 3, .int .i8 2, .int .u8 3, .slice none 0 0, .int .i64 0, .int .i64 0] 36)).heap.size = w.heap.size + 1 + 1 by simp] at h3
  refine ⟨⟨by decide, fun _ => ⟨w.heap.size + 1, 0, rfl, h2.lt, fun i hi => ?_⟩⟩, (((Below.refl _ _).alloc (Nat.le_refl _) _).alloc (by simp) _).alloc (by simp; omega) _, h3⟩
  have hi0 : i = 0 := by
    have : i < 1 := hi
    omega
  subst hi0
  obtain ⟨k1, k2, k3⟩ := pW_ok (bW [oW1, oW2, oW3]) (by simp [pW])
  refine ⟨⟨some ⟨w.heap.size, 0, none⟩, 3, none, 0⟩, ⟨h2.c 0 _ rfl, h2.c 1 _ rfl, h2.c 2 _ rfl, h2.c 3 _ rfl, h2.c 4 _ rfl, h2.c 5 _ rfl⟩, k1, ⟨k2, show 3 ≤ 8796093022208 by decide, fun _ => ⟨w.heap.size, 0, rfl, h1.lt, fun j hj => ?_⟩⟩, ⟨k3, show 0 ≤ 8796093022208 by decide, fun q => absurd (show 0 < 0 from q) (by decide)⟩, show 3 ≤ 3 by decide⟩
  have hj3 : j = 0 ∨ j = 1 ∨ j = 2 := by
    have : j < 3 := hj
    omega
  rcases hj3 with rfl | rfl | rfl
  · exact ⟨h1.c 0 _ rfl, h1.c 1 _ rfl, h1.c 2 _ rfl, h1.c 3 _ rfl, h1.c 4 _ rfl⟩
  · exact ⟨h1.c 5 _ rfl, h1.c 6 _ rfl, h1.c 7 _ rfl, h1.c 8 _ rfl, h1.c 9 _ rfl⟩
  · exact ⟨h1.c 10 _ rfl, h1.c 11 _ rfl, h1.c 12 _ rfl, h1.c 13 _ rfl, h1.c 14 _ rfl⟩
set_option maxHeartbeats 4000000 in
theorem wakes_any (w : World) (he : Env w) :
    Calls Tryd.prog 6 #[] w fun e w' => e = .returned (.bool true) ∧ Below w.heap.size w w' := by
  have HF : Hid (∀ W ao c, Below w.heap.size w W → PAt W ao pW → Calls Tryd.prog 7 #[.agg #[.slice ao 1 c]] W fun e w' => ∃ a c, e = .returned (.tuple #[.agg #[.slice a 1 c], .int .i64 0]) ∧ PAt w' a [bW [oW1, oW2, oW4]] ∧ Below W.heap.size W w') := fun W ao c hb hp => by
    have := fold_ok ao c pW W hp (he.up hb) pW_g
    rw [pW_fold] at this
    exact this
  have HBu : Hid (∀ W ao c, Below w.heap.size w W → PAt W ao [bW [oW1, oW2, oW4]] → Calls Tryd.prog 8 #[.agg #[.slice ao 1 c]] W fun e w' => ∃ a c, e = .returned (.tuple #[.agg #[.slice a 1 c], .int .i64 0]) ∧ PAt w' a [bW [oW4]] ∧ Below W.heap.size W w') := fun W ao c hb hp => by
    have hg := psG_fold pW_g
    have hfin := pW_fin
    rw [pW_fold] at hg hfin
    refine (bury_ok [bW [oW4]] ao c [bW [oW1, oW2, oW4]] W hp (he.up hb) hg (fun zs hz => fin_one hz hfin)).mono ?_
    rintro e w' ⟨a, c, rfl, h1, -, h2⟩
    exact ⟨a, c, rfl, h1, h2⟩
  clear he
  go_enter Tryd.func6, Tryd.ntmps6
  go_upto_region 2 with fail
  obtain ⟨hp0, hb0, ha0⟩ := pW_laid w
  generalize (((w.alloc (.cells #[.int .i8 1, .int .u8 1, .int .u8 0, .int .u8 0, .int .i64 2, .int .i8 1, .int .u8 2, .int .u8 0, .int .u8 0, .int .i64 3, .int .i8 12, .int .u8 3, .int .u8 1, .int .u8 2, .int .i64 0] 39)).alloc (.cells #[.slice (some ⟨w.heap.size, 0, none⟩) 3 3, .int .i8 2, .int .u8 3, .slice none 0 0, .int .i64 0, .int .i64 0] 36)).alloc (.cells #[.slice (some ⟨w.heap.size + 1, 0, none⟩) 1 1] 24)) = w1 at *
  have HP0 : Hid _ := hp0
  have HB0 : Hid _ := hb0
  have r0 := ha0.c 0 _ rfl
  clear hp0 hb0 ha0
  go_upto_region 3 with (first
    | (go_at_call 7; go_loud (refine Calls.mono (HF.out _ _ _ HB0.out HP0.out) ?_; rintro e w2 ⟨a1, c1, rfl, hp1, hb1⟩; have HP1 : Hid _ := hp1; have HB1 : Hid (Below w.heap.size w w2) := HB0.out.trans (hb1.mono HB0.out.size); clear hp1 hb1 HF HP0 HB0 r0)))
  have b2 : Below w2.heap.size w2 (w2.alloc (.cells #[.slice a1 1 c1] 24)) := below_al _
  have ha2 := Op.At.new w2 #[.slice a1 1 c1] 24
  have HP2 : Hid _ := HP1.out.below b2
  have HB2 : Hid _ := HB1.out.trans (b2.mono HB1.out.size)
  have HA2 : Hid _ := ha2
  have s2 := ha2.c 0 _ rfl
  clear b2 HP1 HB1 ha2
  generalize w2.alloc (.cells #[.slice a1 1 c1] 24) = w3 at *
  generalize w2.heap.size = t2 at *
  clear w2
  go_upto_region 4 with (first
    | (go_at_call 8; go_loud (refine Calls.mono (HBu.out _ _ _ HB2.out HP2.out) ?_; rintro e w4 ⟨a2, c2, rfl, hp3, hb3⟩; have HP3 : Hid _ := hp3; have HB3 : Hid (Below w.heap.size w w4) := HB2.out.trans (hb3.mono HB2.out.size); have HP4 : Hid _ := HP2.out.below hb3; have HA4 : Hid _ := HA2.out.below hb3 HA2.out.lt; clear hp3 hb3 HBu HP2 HB2 HA2 s2)))
  have b4 : Below w4.heap.size w4 (w4.alloc (.cells #[.slice a2 1 c2] 24)) := below_al _
  have ha4 := Op.At.new w4 #[.slice a2 1 c2] 24
  have hp4 := HP4.out.below b4
  have hp3 := HP3.out.below b4
  have s2 := (HA4.out.below b4 HA4.out.lt).c 0 _ rfl
  have s4 := ha4.c 0 _ rfl
  have HB4 : Hid _ := HB3.out.trans (b4.mono HB3.out.size)
  clear b4 ha4 HP3 HP4 HB3 HA4
  generalize w4.alloc (.cells #[.slice a2 1 c2] 24) = w5 at *
  generalize w4.heap.size = t4 at *
  clear w4
  obtain ⟨g1, f1, rfl, -, x1⟩ := hp4.is (by decide)
  obtain ⟨p1, u1, v1⟩ := x1 0 (by decide)
  obtain ⟨h1, k1, e1, -, y1⟩ := v1.o.is (by decide)
  obtain ⟨l0, l1, l2, l3, l4⟩ := y1 2 (by decide)
  have m0 := u1.c0
  rw [e1] at m0
  obtain ⟨g2, f2, rfl, -, x2⟩ := hp3.is (by decide)
  obtain ⟨p2, u2, v2⟩ := x2 0 (by decide)
  have n0 := u2.c0
  have e3 : ([bW [oW1, oW2, oW4]][0]).ops.length = 3 := rfl
  have e4 : ([bW [oW4]][0]).ops.length = 1 := rfl
  rw [e3] at m0
  rw [e4] at n0
  simp only [oW4, Nat.zero_mul, Nat.add_zero] at l0 l1 l2 l3 l4 m0 n0
  clear x1 x2 y1 u1 v1 u2 v2 hp3 hp4 e1 e3 e4
  obtain ⟨pa, pc, pb, pd⟩ := p1
  obtain ⟨qa, qc, qb, qd⟩ := p2
  simp only at m0 n0
  go_wp2_with fail
  go_ret
  exact ⟨rfl, HB4.out⟩
end Go.Proofs.YtddcndlogoajkaaDoor.L8.Bt
