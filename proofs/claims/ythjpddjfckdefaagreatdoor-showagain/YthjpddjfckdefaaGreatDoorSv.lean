/- A program's text, and how long it is: plain mathematics. Conditions: none. -/
import Derived.Test.YthjpddjfckdefaaGreatDoorSe
namespace Go.Proofs.YthjpddjfckdefaaGreatDoor.Op
open Go.ChangeShapes Go.WideShapes Go.ChangeAt Go.RowKit
set_option maxRecDepth 20000

/-- A block's lines; those of the first blocks. -/
def blockL (n : Nat) (x : Bk) : List UInt8 := joinL [blockW, Lib.itoa n ++ [58]] ++ [10] ++ linesL sp2 x.ops ++ endL x
def blkTo (ps : List Bk) : Nat → List UInt8
  | 0 => []
  | k + 1 => blkTo ps k ++ (match ps[k]? with | some x => blockL k x | none => [])
theorem blkTo_succ {ps : List Bk} {k : Nat} (h : k < ps.length) : blkTo ps (k + 1) = blkTo ps k ++ blockL k ps[k] := by
  show blkTo ps k ++ _ = _
  rw [List.getElem?_eq_getElem h]
theorem blkTo_mono (ps : List Bk) (k : Nat) : ∀ j, (blkTo ps k).length ≤ (blkTo ps (k + j)).length
  | 0 => Nat.le_refl _
  | j + 1 => by
    have := blkTo_mono ps k j
    show _ ≤ (blkTo ps (k + j) ++ _).length
    rw [List.length_append]; omega
/-- A program's text. -/
def progL (ps : List Bk) : List UInt8 := blkTo ps ps.length
/-- What a block that is taken keeps to. -/
structure BOk (x : Bk) : Prop where
  o : ∀ o ∈ x.ops, okO o = true
  b : ∀ o ∈ x.body, okO o = true
  f0 : 0 ≤ x.fin
  f3 : x.fin ≤ 3
  t0 : 0 ≤ x.thn
  t1 : x.thn ≤ 1000
  e0 : 0 ≤ x.els
  e1 : x.els ≤ 1000
theorem allB_ok {xs : List O} (h : allB xs = true) : ∀ o ∈ xs, okO o = true := fun o ho => by
  have := List.all_eq_true.1 h o ho
  unfold okP at this
  simp only [Bool.and_eq_true] at this
  exact this.2
theorem bH_in {t n : Int} {c : Bool} (h : bH t n c = true) (hn : n ≤ 1000) : 0 ≤ t ∧ t ≤ 1000 := by
  unfold bH at h
  cases c <;> simp at h <;> omega
theorem ckB_ok {x : Bk} {n : Int} (h : ckB x n = 0) (hn : n ≤ 1000) : BOk x := by
  unfold ckB at h
  split at h
  · rename_i h1
    split at h
    · rename_i h2
      split at h
      · rename_i h3
        unfold endB at h2
        simp only [Bool.and_eq_true] at h2
        obtain ⟨⟨⟨⟨k1, k2⟩, k3⟩, k4⟩, k5⟩ := h2
        have f := of_decide_eq_true k1
        have t := bH_in k3 hn
        have e := bH_in k4 hn
        exact ⟨allB_ok h1, allB_ok h3, f.1, f.2, t.1, t.2, e.1, e.2⟩
      · cases h
    · cases h
  · cases h
theorem firstE_all {n : Int} : ∀ {ps : List Bk}, firstE n ps = 0 → ∀ x ∈ ps, ckB x n = 0
  | [], _, x, hx => by simp at hx
  | y :: r, h, x, hx => by
    unfold firstE at h
    split at h
    · rename_i h0
      rcases List.mem_cons.1 hx with rfl | hx
      · exact h0
      · exact firstE_all h x hx
    · rename_i h0
      exact absurd h h0
theorem ck_ok {ps : List Bk} (h : ckP ps = 0) : ps.length ≤ 128 ∧ opsN ps ≤ 1024 ∧ ∀ x ∈ ps, BOk x := by
  unfold ckP at h
  split at h
  · cases h
  · rename_i h1
    split at h
    · cases h
    · exact ⟨by omega, by omega, fun x hx => ckB_ok (firstE_all h x hx) (by omega)⟩
theorem two_len (xs : List (List UInt8)) : (two xs).length = (joinL xs).length + 3 := by simp [two]
theorem endL_len (x : Bk) (hx : x.Ok) (hb : ∀ o ∈ x.body, o.Ok) : (endL x).length ≤ 200 + x.body.length * 99 := by
  have ht := itoa_le x.thn hx.t0 hx.t1
  have hel := itoa_le x.els hx.e0 hx.e1
  have hra := itoa_le x.a (by have := hx.a0; omega) (by have := hx.a1; omega)
  have hl := linesL_len sp4 x.body hb
  have h4 : sp4.length = 4 := rfl
  rw [h4] at hl
  unfold endL
  split
  · rw [two_len, join_cons, join_one]; simp; omega
  · split
    · rw [two_len, join_cons, join_cons, join_cons, join_one]; simp; omega
    · split
      · rw [two_len, join_cons, join_one]; simp; omega
      · simp only [List.length_append, two_len, join_cons, join_one, List.length_cons, List.length_nil]; omega
theorem blockL_len (n : Nat) (x : Bk) (hn : n ≤ 1000) (hx : x.Ok) (ho : ∀ o ∈ x.ops, o.Ok) (hb : ∀ o ∈ x.body, o.Ok) : (blockL n x).length ≤ 300 + bkN x * 99 := by
  have h1 := endL_len x hx hb
  have h2 := linesL_len sp2 x.ops ho
  have h3 := itoa_le (n : Int) (by omega) (by omega)
  have h4 : sp2.length = 2 := rfl
  rw [h4] at h2
  unfold blockL bkN
  rw [join_cons, join_one]
  simp only [List.length_append, List.length_cons, List.length_nil]
  omega
theorem blkTo_len {w : World} {ao : Option Addr} {ps : List Bk} (h : PAt w ao ps) (h1 : ps.length ≤ 1000) : ∀ k, k ≤ ps.length → (blkTo ps k).length ≤ k * 300 + sumTo ps k * 99
  | 0, _ => by simp [blkTo]
  | k + 1, hk => by
    have ih := blkTo_len h h1 k (by omega)
    obtain ⟨b, f, _, _, hx⟩ := h.is (by omega)
    obtain ⟨p, _, hi⟩ := hx k (by omega)
    have hb := blockL_len k ps[k] (by omega) hi.ok hi.o.ok hi.b.ok
    rw [blkTo_succ (by omega), List.length_append, sumTo_succ (by omega)]
    omega
theorem progL_len {w : World} {ao : Option Addr} {ps : List Bk} (h : PAt w ao ps) (hc : ckP ps = 0) : (progL ps).length ≤ 200000 := by
  obtain ⟨h1, h2, _⟩ := ck_ok hc
  have := blkTo_len h (by omega) ps.length (Nat.le_refl _)
  unfold opsN at h2
  unfold progL
  omega
end Go.Proofs.YthjpddjfckdefaaGreatDoor.Op
