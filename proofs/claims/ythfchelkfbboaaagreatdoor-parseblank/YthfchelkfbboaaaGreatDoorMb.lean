/- A text that is read has as many blocks as lines that begin one: plain mathematics of the reader. Conditions: none. -/
import Derived.Test.YthfchelkfbboaaaGreatDoorPa
namespace Go.Proofs.YthfchelkfbboaaaGreatDoor.Pr
open _root_.Go.Proofs.YthfchelkfbboaaaGreatDoor.Op

/-- How many lines begin a block. -/
def cntB (ls : List Ln) : Nat := ls.countP fun l => firstL l == [98, 108, 111, 99, 107]
theorem cntB_no (l : Ln) (ls : List Ln) (h : firstL l ≠ [98, 108, 111, 99, 107]) : cntB (l :: ls) = cntB ls := by
  unfold cntB; rw [List.countP_cons]; simp [h]
theorem cntB_yes (l : Ln) (ls : List Ln) (h : firstL l = [98, 108, 111, 99, 107]) : cntB (l :: ls) = cntB ls + 1 := by
  unfold cntB; rw [List.countP_cons]; simp [h]
theorem take_first {l : Ln} {x : Wd' × Ln} (h : takeR l = .ok x) : firstL l = x.1.2 := by
  unfold takeR at h
  unfold firstL
  cases hw : l.ws with
  | nil => rw [hw] at h; cases h
  | cons a r => rw [hw] at h; cases h; rfl
theorem exact_first {s : List UInt8} {l l' : Ln} (h : exactR s l = .ok l') : firstL l = s := by
  unfold exactR at h
  obtain ⟨x, h1, h⟩ := R.bind_some h
  rw [take_first h1]
  split at h
  · assumption
  · cases h
theorem opsR_cnt (m : Nat) : ∀ (ls : List Ln) os l r, opsR m ls = .ok (os, l, r) → cntB ls = cntB (l :: r)
  | [], os, l, r, h => by
    simp only [opsR, R.ok.injEq, Prod.mk.injEq] at h
    obtain ⟨rfl, rfl, rfl⟩ := h; rfl
  | x :: ls, os, l, r, h => by
    unfold opsR at h
    cases hs : shapeOf (firstL x) with
    | none =>
      rw [hs] at h
      simp only [R.ok.injEq, Prod.mk.injEq] at h
      obtain ⟨rfl, rfl, rfl⟩ := h; rfl
    | some sh =>
      rw [hs] at h
      simp only at h
      obtain ⟨o, _, h⟩ := R.bind_some h
      obtain ⟨⟨a, b, c⟩, hr, h⟩ := R.bind_some h
      simp only [R.ok.injEq, Prod.mk.injEq] at h
      obtain ⟨rfl, rfl, rfl⟩ := h
      rw [← opsR_cnt m ls _ _ _ hr]
      refine cntB_no x ls fun e => ?_
      rw [e, show shapeOf [98, 108, 111, 99, 107] = none by decide] at hs
      cases hs
theorem blockR_cnt {m : Nat} {ls : List Ln} {x : Bk × List Ln} (h : blockR m ls = .ok x) : cntB ls = cntB x.2 := by
  unfold blockR at h
  obtain ⟨⟨os, l, r⟩, h1, h⟩ := R.bind_some h
  rw [opsR_cnt m ls _ _ _ h1]
  unfold endR at h
  obtain ⟨y, hy, h⟩ := R.bind_some h
  have hf : firstL l = y.1.2 := take_first hy
  simp only at h
  split at h
  · rename_i hj
    obtain ⟨t, ht, h⟩ := R.bind_some h
    obtain ⟨_, _, h⟩ := R.bind_some h
    cases h
    exact cntB_no l r (by rw [hf, hj]; decide)
  split at h
  · rename_i hj
    obtain ⟨a, ha, h⟩ := R.bind_some h
    obtain ⟨t, ht, h⟩ := R.bind_some h
    obtain ⟨e, he, h⟩ := R.bind_some h
    obtain ⟨_, _, h⟩ := R.bind_some h
    cases h
    exact cntB_no l r (by rw [hf, hj]; decide)
  split at h
  · rename_i hj
    obtain ⟨a, ha, h⟩ := R.bind_some h
    obtain ⟨_, _, h⟩ := R.bind_some h
    cases h
    exact cntB_no l r (by rw [hf, hj]; decide)
  split at h
  · rename_i hj
    obtain ⟨a, ha, h⟩ := R.bind_some h
    obtain ⟨b, hb, h⟩ := R.bind_some h
    obtain ⟨_, _, h⟩ := R.bind_some h
    obtain ⟨z, hz, h⟩ := R.bind_some h
    obtain ⟨c, hc, h⟩ := R.bind_some h
    obtain ⟨t, ht, h⟩ := R.bind_some h
    obtain ⟨_, _, h⟩ := R.bind_some h
    cases h
    rw [cntB_no l r (by rw [hf, hj]; decide)]
    unfold bodyR at hz
    obtain ⟨⟨os2, l2, r2⟩, h2, hz⟩ := R.bind_some hz
    obtain ⟨d, hd, hz⟩ := R.bind_some hz
    obtain ⟨_, _, hz⟩ := R.bind_some hz
    cases hz
    have hd' := exact_first hd
    have hc' := exact_first hc
    simp only at hd' hc' ⊢
    rw [opsR_cnt m r _ _ _ h2, cntB_no l2 r2 (by rw [hd']; decide)]
    cases r2 with
    | nil => rfl
    | cons u v => exact cntB_no u v (by rw [show firstL u = [106, 117, 109, 112] from hc']; decide)
  · cases h
theorem progR_cnt (m : Nat) : ∀ (k n : Nat) (ls : List Ln) (bs : List Bk), progR m k n ls = .ok bs → ls.length < k → bs.length = cntB ls
  | 0, n, ls, bs, h, hk => by omega
  | k + 1, n, ls, bs, h, hk => by
    unfold progR at h
    obtain ⟨_, hh, h⟩ := R.bind_some h
    obtain ⟨⟨x, ls2⟩, hb, h⟩ := R.bind_some h
    have h1 := blockR_cnt hb
    obtain ⟨_, _, _, h4⟩ := blockR_ok hb
    unfold headR at hh
    obtain ⟨a, ha, _⟩ := R.bind_some hh
    have hf := exact_first ha
    cases ls with
    | nil => simp [nextL, firstL] at hf
    | cons l r =>
      simp only [List.tail_cons] at h1 h4
      rw [cntB_yes l r hf, h1]
      cases ls2 with
      | nil => cases h; rfl
      | cons l' r' =>
        obtain ⟨ys, hy, h⟩ := R.bind_some h
        cases h
        simp only [List.length_cons] at hk h4
        have := progR_cnt m k (n + 1) (l' :: r') ys hy (by simp only [List.length_cons]; omega)
        simp only [List.length_cons]; omega
/-- What is read is whole. -/
theorem parseF_whole {l : List UInt8} (h : (parseF l).1 = none) : l.length ≤ 65536 ∧ ckP (parseF l).2 = 0 ∧ (parseF l).2.length = cntB (linesS l 0 []) := by
  unfold parseF at h ⊢
  split at h
  · cases h
  · rename_i hl
    rw [if_neg hl]
    cases hr : readT l with
    | no f => rw [hr] at h; cases h
    | ok bs =>
      rw [hr] at h
      simp only at h ⊢
      split at h
      · rename_i h0
        rw [if_pos h0]
        exact ⟨by omega, h0, progR_cnt _ _ _ _ _ hr (by omega)⟩
      · cases h
theorem parseF_no {l : List UInt8} {f : Int × Wd'} (h : (parseF l).1 = some f) : (parseF l).2 = [] ∧ f.1 ≠ 0 := by
  unfold parseF at h ⊢
  split at h
  · rename_i hl; rw [if_pos hl]; cases h; exact ⟨rfl, by decide⟩
  · rename_i hl
    rw [if_neg hl]
    cases hr : readT l with
    | no f => rw [hr] at h; cases h; exact ⟨rfl, by show (60 : Int) ≠ 0; decide⟩
    | ok bs =>
      rw [hr] at h
      simp only at h ⊢
      split at h
      · cases h
      · rename_i h0
        rw [if_neg h0]
        cases h; exact ⟨rfl, h0⟩
end Go.Proofs.YthfchelkfbboaaaGreatDoor.Pr
