/- Where the document's machine stands (Cell, to, list, trap): read off the program by the walk. Conditions: the machine and its program lie in memory. -/
import Derived.Test.YtlnfhbkkodhmaaaDoorDa
namespace Go.Proofs.YtlnfhbkkodhmaaaDoor.Sm
open Go.ChangeShapes Go.WideShapes Go.ChangeAt Go.RowKit
open _root_.Go.Proofs.YtlnfhbkkodhmaaaDoor.Op _root_.Go.Proofs.YtlnfhbkkodhmaaaDoor.So
set_option maxRecDepth 20000

section
variable {w : World} {q : Nat} {ba : Option Addr} {bl bc : Nat} {po : Option Addr} {pc : Nat} {M : Ma} {L : Tg}
theorem DAt.k0 (h : DAt w q (dG ba bl bc po pc M L)) : w.cell? ⟨q, 0, none⟩ = some (.slice ba bl bc) := (h.c 0 (by omega)).trans rfl
theorem DAt.kb (h : DAt w q (dG ba bl bc po pc M L)) : w.cell? ⟨q, 289, none⟩ = some (.int .i64 (M.b : Int)) := (h.c 289 (by omega)).trans rfl
theorem DAt.ky (h : DAt w q (dG ba bl bc po pc M L)) : w.cell? ⟨q, 290, none⟩ = some (.bool M.y) := (h.c 290 (by omega)).trans rfl
theorem DAt.ko (h : DAt w q (dG ba bl bc po pc M L)) : w.cell? ⟨q, 291, none⟩ = some (.int .i64 (M.o : Int)) := (h.c 291 (by omega)).trans rfl
theorem DAt.kn (h : DAt w q (dG ba bl bc po pc M L)) : w.cell? ⟨q, 292, none⟩ = some (.int .i64 M.n) := (h.c 292 (by omega)).trans rfl
theorem DAt.ks (h : DAt w q (dG ba bl bc po pc M L)) : w.cell? ⟨q, 293, none⟩ = some (.int .i64 (M.s : Int)) := (h.c 293 (by omega)).trans rfl
theorem DAt.kp (h : DAt w q (dG ba bl bc po pc M L)) : w.cell? ⟨q, 294, none⟩ = some (.slice po M.pr.length pc) := (h.c 294 (by omega)).trans rfl
theorem DAt.kv (h : DAt w q (dG ba bl bc po pc M L)) : w.cell? ⟨q, 295, none⟩ = some (.bool (M.e != 100)) := (h.c 295 (by omega)).trans rfl
theorem DAt.ke (h : DAt w q (dG ba bl bc po pc M L)) : w.cell? ⟨q, 296, none⟩ = some (.int .i64 (if M.e = 101 then 101 else 0)) := (h.c 296 (by omega)).trans rfl
theorem DAt.ka (h : DAt w q (dG ba bl bc po pc M L)) : w.cell? ⟨q, 297, none⟩ = some (.int .i64 M.v) := (h.c 297 (by omega)).trans rfl
theorem DAt.l0 (h : DAt w q (dG ba bl bc po pc M L)) : w.cell? ⟨q, 298, none⟩ = some (.int .i64 L.1) := (h.c 298 (by omega)).trans rfl
theorem DAt.l1 (h : DAt w q (dG ba bl bc po pc M L)) : w.cell? ⟨q, 299, none⟩ = some (.bool L.2.1) := (h.c 299 (by omega)).trans rfl
theorem DAt.l2 (h : DAt w q (dG ba bl bc po pc M L)) : w.cell? ⟨q, 300, none⟩ = some (.int .i64 L.2.2) := (h.c 300 (by omega)).trans rfl
theorem DAt.l3 (h : DAt w q (dG ba bl bc po pc M L)) : w.cell? ⟨q, 301, none⟩ = some (.bool false) := (h.c 301 (by omega)).trans rfl
theorem DAt.kr (h : DAt w q (dG ba bl bc po pc M L)) {i : Nat} (hi : i < 32) : w.cell? ⟨q, 1 + i, none⟩ = some (.int .i64 (M.r i)) := (h.c (1 + i) (by omega)).trans (by rw [dG_r _ _ hi])
theorem DAt.km (h : DAt w q (dG ba bl bc po pc M L)) {i : Nat} (hi : i < 256) : w.cell? ⟨q, 33 + i, none⟩ = some (.int .i64 (M.m i)) := (h.c (33 + i) (by omega)).trans (by rw [dG_m _ _ hi])
end
theorem tm256 (x : Int) : (0 ≤ x ∧ x.tmod 256 = x % 256) ∨ (x < 0 ∧ x.tmod 256 = -((-x) % 256)) := by
  rcases Int.lt_or_le x 0 with h | h
  · right
    refine ⟨h, ?_⟩
    have := Int.neg_tmod (-x) 256
    rw [Int.neg_neg] at this
    rw [this, Int.tmod_eq_emod_of_nonneg (by omega)]
  · exact .inl ⟨h, Int.tmod_eq_emod_of_nonneg h⟩
theorem rcell_any (a im : Int) (w : World) : Calls Tryd.prog 71 #[.int .i64 a, .int .i64 im] w fun e w' => e = .returned (.int .i64 ((cellN a im : Nat) : Int)) ∧ w' = w := by
  obtain ⟨t1, h1⟩ : ∃ t, a.tmod 256 = t := ⟨_, rfl⟩
  obtain ⟨t2, h2⟩ : ∃ t, im.tmod 256 = t := ⟨_, rfl⟩
  obtain ⟨t3, h3⟩ : ∃ t, (t1 + t2).tmod 256 = t := ⟨_, rfl⟩
  have k1 := tm256 a
  have k2 := tm256 im
  have k3 := tm256 (t1 + t2)
  rw [h1] at k1; rw [h2] at k2; rw [h3] at k3
  have b1 : -255 ≤ t1 ∧ t1 ≤ 255 := by omega
  have b2 : -255 ≤ t2 ∧ t2 ≤ 255 := by omega
  have b3 : -255 ≤ t3 ∧ t3 ≤ 255 := by omega
  have hc : ((cellN a im : Nat) : Int) = if t3 < 0 then t3 + 256 else t3 := by
    rw [cellN_int]
    split <;> omega
  rw [hc]
  clear k1 k2 k3 hc
  obtain ⟨b11, b12⟩ := b1
  obtain ⟨b21, b22⟩ := b2
  obtain ⟨b31, b32⟩ := b3
  by_cases hn : t3 < 0
  · rw [if_pos hn]
    go_enter Tryd.func71, Tryd.ntmps71
    go_wp2_with fail
    go_ret
    exact ⟨rfl, rfl⟩
  · rw [if_neg hn]
    go_enter Tryd.func71, Tryd.ntmps71
    go_wp2_with fail
    go_ret
    exact ⟨rfl, rfl⟩
section
variable {w : World} {q : Nat} {ps : List Bk} {T : Nat → Prop} {M : Ma} {L : Tg}
/-- Where the document's machine stands, in memory. -/
structure Sd (w : World) (q : Nat) (ps : List Bk) (M : Ma) (L : Tg) (b f bc : Nat) (po : Option Addr) (pc : Nat) (x : Bk) (p : Pl) : Prop where
  at_ : DAt w q (dG (some ⟨b, f, none⟩) ps.length bc po pc M L)
  bk : BAt w b (f + M.b * 6) x p
  bl : b < w.heap.size
  lt : M.b < ps.length
  is : ps[M.b]? = some x
  ops : OpsAt w (lA p M.y) (lst x M.y)
  ne : ¬ b = q
  xm : BkM ps.length x
theorem DM.sd (h : DM w q ps T M L) : ∃ b f bc po pc x p, Sd w q ps M L b f bc po pc x p := by
  obtain ⟨ba, bc, po, pc, hM, hP, hR, hT⟩ := h.dr.ex
  have hb := h.inv.b
  obtain ⟨b, f, rfl, hz, hT', hx⟩ := hP.is (by omega)
  obtain ⟨p, h1, h2, -⟩ := hx M.b hb
  refine ⟨b, f, bc, po, pc, ps[M.b], p, hM, h1, hz, hb, List.getElem?_eq_getElem hb, ?_, fun e => hT' (.inl (by rw [e]; exact h.dr.tq)), h.ps.2.2 _ (List.getElem_mem hb)⟩
  unfold lA lst
  split
  · exact h2.b
  · exact h2.o
theorem Sd.up {w' : World} {b f bc pc : Nat} {po : Option Addr} {x : Bk} {p : Pl} (h : Sd w q ps M L b f bc po pc x p) (hb : Below w.heap.size w w') : Sd w' q ps M L b f bc po pc x p :=
  ⟨h.at_.up hb, h.bk.below hb h.bl, Nat.lt_of_lt_of_le h.bl hb.size, h.lt, h.is, h.ops.below hb, h.ne, h.xm⟩
theorem Sd.list {b f bc pc : Nat} {po : Option Addr} {x : Bk} {p : Pl} (h : Sd w q ps M L b f bc po pc x p) : listM ps M = lst x M.y := by
  unfold listM
  rw [h.is]
set_option maxHeartbeats 2000000 in
theorem rlist_any {b f bc pc : Nat} {po : Option Addr} {x : Bk} {p : Pl} (h : Sd w q ps M L b f bc po pc x p) : Calls Tryd.prog 56 #[ptr q] w fun e w' => e = .returned (.slice (lA p M.y) (lst x M.y).length (lC p M.y)) ∧ Below w.heap.size w w' := by
  have c0 := h.bk.c0
  have c3 := h.bk.c3
  have a0 := h.at_.kb
  have a1 := h.at_.ky
  have ab := h.at_.k0
  have hq := h.at_.lt
  have hlt := h.lt
  clear h
  cases hy : M.y
  · rw [hy] at a1
    clear hy
    generalize M.b = mb at *
    show Calls Tryd.prog 56 #[ptr q] w fun e w' => e = .returned (.slice p.oa x.ops.length p.oc) ∧ Below w.heap.size w w'
    go_enter Tryd.func56, Tryd.ntmps56
    go_wp2_with fail
    go_quiet (fail)
    go_wp2_with fail
    go_ret
    exact ⟨rfl, drewN_below (Below.refl _ _) _⟩
  · rw [hy] at a1
    clear hy
    generalize M.b = mb at *
    show Calls Tryd.prog 56 #[ptr q] w fun e w' => e = .returned (.slice p.ba x.body.length p.bc) ∧ Below w.heap.size w w'
    go_enter Tryd.func56, Tryd.ntmps56
    go_wp2_with fail
    go_quiet (fail)
    go_wp2_with fail
    go_ret
    exact ⟨rfl, drewN_below (Below.refl _ _) _⟩
set_option maxHeartbeats 1000000 in
theorem rto_any {ba : Option Addr} {bl bc : Nat} {po : Option Addr} {pc : Nat} (t : Nat) (h : DAt w q (dG ba bl bc po pc M L)) : Calls Tryd.prog 73 #[ptr q, .int .i64 (t : Int)] w fun e w' => e = .returned (.tuple #[]) ∧ DAt w' q (dG ba bl bc po pc { M with b := t, y := false, o := 0 } L) ∧ Fr (One q) w w' := by
  have HD : Hid (DAt (((w.setCell ⟨q, 289, none⟩ (.int .i64 (t : Int))).setCell ⟨q, 290, none⟩ (.bool false)).setCell ⟨q, 291, none⟩ (.int .i64 0)) q (dG ba bl bc po pc { M with b := t, y := false, o := 0 } L)) := by
    have h1 := ((h.set (k := 289) (by omega) (.int .i64 (t : Int))).set (k := 290) (by omega) (.bool false)).set (k := 291) (by omega) (.int .i64 ((0 : Nat) : Int))
    rw [up_b, up_y, up_o] at h1
    exact h1
  have a0 := h.kb
  have a1 := h.ky
  have a2 := h.ko
  have f0 := h.fz 289
  have f1 := h.fz 290
  have f2 := h.fz 291
  have hq := h.lt
  clear h
  go_enter Tryd.func73, Tryd.ntmps73
  go_wp2_with fail
  go_end0
  exact ⟨rfl, HD.out, (((Fr.refl (One q) w).setCell (.inr rfl) _ _).setCell (.inr rfl) _ _).setCell (.inr rfl) _ _⟩
set_option maxHeartbeats 4000000 in
theorem rtrap_any (h : DM w q ps T M L) : Calls Tryd.prog 30 #[ptr q] w fun e w' => e = .returned (.bool (M.e == 100 && trapB ps M)) ∧ Below w.heap.size w w' := by
  obtain ⟨b, f, bc, po, pc, x, p, hS⟩ := h.sd
  have HL : Hid (Calls Tryd.prog 56 #[ptr q] w fun e w' => e = .returned (.slice (lA p M.y) (lst x M.y).length (lC p M.y)) ∧ Below w.heap.size w w') := rlist_any hS
  have HS : Hid (∀ W, Below w.heap.size w W → Sd W q ps M L b f bc po pc x p) := fun W hb => hS.up hb
  have hli := hS.list
  have hol := hS.ops.len
  cases he : (M.e == 100)
  · rw [Bool.false_and]
    have he2 : (M.e != 100) = true := by simpa using he
    clear h hli hol
    generalize hlst : lst x M.y = l at *
    generalize lA p M.y = la at *
    generalize lC p M.y = lc at *
    go_enter Tryd.func30, Tryd.ntmps30
    go_wp2_with (first | (go_at_call 56; refine Calls.mono HL.out ?_; rintro e w1 ⟨rfl, hb⟩; have HB : Hid (Below w.heap.size w w1) := hb; have kv := (HS.out w1 hb).at_.kv; have hq := (HS.out w1 hb).at_.lt; rw [he2] at kv; clear hb HL))
    go_ret
    exact ⟨rfl, HB.out⟩
  · rw [Bool.true_and]
    have he2 : (M.e != 100) = false := by simpa using he
    have htr : trapB ps M = match (lst x M.y)[M.o]? with | some o => trapO o M | none => false := by unfold trapB; rw [hli]; rfl
    rw [htr]
    have hops := fun W hb => (hS.up (w' := W) hb).ops
    have HOp : Hid (∀ W, Below w.heap.size w W → OpsAt W (lA p M.y) (lst x M.y)) := hops
    have hxl : ∀ o ∈ lst x M.y, OkM o := fun o ho => hS.xm.lst ho
    clear htr hli hops hS
    generalize hlst : lst x M.y = l at *
    generalize lA p M.y = la at *
    generalize lC p M.y = lc at *
    have hoi := h.inv
    clear h
    by_cases hlt : M.o < l.length
    · rw [List.getElem?_eq_getElem hlt]
      show Calls Tryd.prog 30 #[ptr q] w fun e w' => e = .returned (.bool (trapO l[M.o] M)) ∧ Below w.heap.size w w'
      have hom := hxl _ (List.getElem_mem hlt)
      have hlti : ¬ (l.length : Int) ≤ (M.o : Int) := by omega
      have hlti2 : (M.o : Int) < (l.length : Int) := by omega
      obtain ⟨lb, lf, rfl, -, -⟩ := (HOp.out w (Below.refl _ _)).is (by omega)
      have HO5 : Hid (∀ W, Below w.heap.size w W → OAt W lb (lf + M.o * 5) l[M.o] ∧ lb < W.heap.size) := fun W hb => by
        obtain ⟨lb', lf', e, z, hx⟩ := (HOp.out W hb).is (by omega)
        cases e
        exact ⟨hx M.o hlt, z⟩
      have htd : trapO l[M.o] M = ((l[M.o].op == 13 || l[M.o].op == 14) && (M.r l[M.o].b.toNat == 0)) := by
        unfold trapO
        rw [Bool.eq_iff_iff]
        simp
      rw [htd]
      obtain ⟨nb, hnb⟩ : ∃ nb : Nat, l[M.o].b = nb := ⟨l[M.o].b.toNat, by have := hom.b; omega⟩
      have hnb32 : nb < 32 := by have := hom.b; omega
      have hnbi : (nb : Int) < 32 := by omega
      rw [hnb, Int.toNat_natCast]
      have HKr : Hid (∀ W, Below w.heap.size w W → W.cell? ⟨q, 1 + nb, none⟩ = some (.int .i64 (M.r nb)) ∧ W.cell? ⟨q, 291, none⟩ = some (.int .i64 (M.o : Int)) ∧ W.cell? ⟨q, 295, none⟩ = some (.bool false) ∧ q < W.heap.size) := fun W hb => ⟨(HS.out W hb).at_.kr hnb32, (HS.out W hb).at_.ko, (by have := (HS.out W hb).at_.kv; rw [he2] at this; exact this), (HS.out W hb).at_.lt⟩
      clear hom htd HOp HS hxl hoi
      generalize l[M.o] = o at *
      obtain ⟨p0, p1, p2, p3, p4⟩ := o
      simp only at hnb
      subst hnb
      generalize M.r nb = vr at *
      generalize M.o = mo at *
      by_cases h13 : p0 = 13
      · subst h13
        go_enter Tryd.func30, Tryd.ntmps30
        go_wp2_with (first | (go_at_call 56; refine Calls.mono HL.out ?_; rintro e w1 ⟨rfl, hb⟩; have HB : Hid (Below w.heap.size w w1) := hb; obtain ⟨k1, k2, k3, k4⟩ := HKr.out w1 hb; obtain ⟨⟨o0, o1, o2, o3, o4⟩, oz⟩ := HO5.out w1 hb; clear hb HL))
        have HB2 : Hid (Below w.heap.size w (w1.alloc (.cells #[.int .i8 13, .int .u8 p1, .int .u8 p2, .int .u8 (nb : Int), .int .i64 p4] 60))) := HB.out.alloc HB.out.size _
        have k5 := (HKr.out _ HB2.out).1
        have k6 := (HKr.out _ HB2.out).2.2.2
        go_quiet (fail)
        go_wp2_with fail
        go_ret
        exact ⟨ret_bool (by simp), drewN_below HB2.out _⟩
      · by_cases h14 : p0 = 14
        · subst h14
          go_enter Tryd.func30, Tryd.ntmps30
          go_wp2_with (first | (go_at_call 56; refine Calls.mono HL.out ?_; rintro e w1 ⟨rfl, hb⟩; have HB : Hid (Below w.heap.size w w1) := hb; obtain ⟨k1, k2, k3, k4⟩ := HKr.out w1 hb; obtain ⟨⟨o0, o1, o2, o3, o4⟩, oz⟩ := HO5.out w1 hb; clear hb HL))
          have HB2 : Hid (Below w.heap.size w (w1.alloc (.cells #[.int .i8 14, .int .u8 p1, .int .u8 p2, .int .u8 (nb : Int), .int .i64 p4] 60))) := HB.out.alloc HB.out.size _
          have k5 := (HKr.out _ HB2.out).1
          have k6 := (HKr.out _ HB2.out).2.2.2
          go_quiet (fail)
          go_wp2_with fail
          go_ret
          exact ⟨ret_bool (by simp), drewN_below HB2.out _⟩
        · have g13 : (p0 == 13) = false := by simpa using h13
          have g14 : (p0 == 14) = false := by simpa using h14
          go_enter Tryd.func30, Tryd.ntmps30
          go_wp2_with (first | (go_at_call 56; refine Calls.mono HL.out ?_; rintro e w1 ⟨rfl, hb⟩; have HB : Hid (Below w.heap.size w w1) := hb; obtain ⟨k1, k2, k3, k4⟩ := HKr.out w1 hb; obtain ⟨⟨o0, o1, o2, o3, o4⟩, oz⟩ := HO5.out w1 hb; clear hb HL))
          have HB2 : Hid (Below w.heap.size w (w1.alloc (.cells #[.int .i8 p0, .int .u8 p1, .int .u8 p2, .int .u8 (nb : Int), .int .i64 p4] 60))) := HB.out.alloc HB.out.size _
          have k5 := (HKr.out _ HB2.out).1
          have k6 := (HKr.out _ HB2.out).2.2.2
          go_quiet (fail)
          go_wp2_with fail
          go_ret
          exact ⟨ret_bool (by simp [h13, h14]), drewN_below HB2.out _⟩
    · rw [List.getElem?_eq_none (by omega)]
      have hlti : (l.length : Int) ≤ (M.o : Int) := by omega
      show Calls Tryd.prog 30 #[ptr q] w fun e w' => e = .returned (.bool false) ∧ Below w.heap.size w w'
      go_enter Tryd.func30, Tryd.ntmps30
      go_wp2_with (first | (go_at_call 56; refine Calls.mono HL.out ?_; rintro e w1 ⟨rfl, hb⟩; have HB : Hid (Below w.heap.size w w1) := hb; have kv := (HS.out w1 hb).at_.kv; have ko := (HS.out w1 hb).at_.ko; have hq := (HS.out w1 hb).at_.lt; rw [he2] at kv; clear hb HL))
      go_ret
      exact ⟨rfl, HB.out⟩
end
end Go.Proofs.YtlnfhbkkodhmaaaDoor.Sm
