/- A row of things in memory, put into order by swaps: two ranges change places; a rotation. Conditions: the row lies at a block's beginning. -/
import Derived.Test.YtnckkhamkkaljaaDoorSm
namespace Go.Proofs.YtnckkhamkkaljaaDoor.Si
open Go.ChangeShapes Go.WideShapes Go.ChangeAt Go.RowKit
open _root_.Go.Proofs.YtnckkhamkkaljaaDoor.So _root_.Go.Proofs.YtnckkhamkkaljaaDoor.Ss
set_option maxRecDepth 20000

/-- A row of n things at the beginning of a block; all else stands. -/
structure Rw (blk n : Nat) (Ok : Int → Prop) (w0 w : World) (f : Nat → Int) : Prop where
  fr : Fr (One blk) w0 w
  lt : blk < w0.heap.size
  c : ∀ k, k < n → w.cell? ⟨blk, k, none⟩ = some (.int .i64 (f k))
  z : ∀ k, w.frozen? ⟨blk, k, none⟩ = false
  ok : ∀ k, k < n → Ok (f k)
section
variable {blk n : Nat} {Ok : Int → Prop} {w0 w : World} {f : Nat → Int}
theorem Rw.drewN (h : Rw blk n Ok w0 w f) (q : Nat) : Rw blk n Ok w0 (w.drewN q) f := ⟨h.fr.drewN q, h.lt, h.c, h.z, h.ok⟩
theorem Rw.drew (h : Rw blk n Ok w0 w f) : Rw blk n Ok w0 w.drew f := ⟨h.fr.drew, h.lt, h.c, h.z, h.ok⟩
theorem Rw.put (h : Rw blk n Ok w0 w f) {i : Nat} (hi : i < n) {v : Int} (hv : Ok v) : Rw blk n Ok w0 (w.setCell ⟨blk, i, none⟩ (.int .i64 (v))) (put f i v) := by
  refine ⟨h.fr.setCell (Or.inr rfl) _ _, h.lt, fun k hk => ?_, fun k => by rw [World.frozen?_setCell]; exact h.z k, fun k hk => ?_⟩
  · by_cases e : k = i
    · subst e
      rw [World.cell?_setCell_same (h := h.c k hk), put_same]
    · rw [World.cell?_setCell_other, put_other f v e]
      · exact h.c k hk
      · intro h'; injection h' with _ h2; exact e h2.symm
  · by_cases e : k = i
    · subst e; rw [put_same]; exact hv
    · rw [put_other f v e]; exact h.ok k hk
theorem Rw.swap (h : Rw blk n Ok w0 w f) {i j : Nat} (hi : i < n) (hj : j < n) : Rw blk n Ok w0 ((w.setCell ⟨blk, i, none⟩ (.int .i64 (f j))).setCell ⟨blk, j, none⟩ (.int .i64 (f i))).drew (swp f i j) := by
  rw [← swp_put f]
  exact ((h.put hi (h.ok j hj)).put hj (h.ok i hi)).drew
theorem Rw.c2 (h : Rw blk n Ok w0 w f) {i j : Nat} (hi : i < n) (hj : j < n) (v : Value) : ∃ u, (w.setCell ⟨blk, i, none⟩ v).cell? ⟨blk, j, none⟩ = some u := by
  by_cases e : i = j
  · subst e; exact ⟨v, World.cell?_setCell_same _ _ _ (h.c i hi)⟩
  · exact ⟨_, (World.cell?_setCell_other _ _ _ _ (by intro e'; simp only [Addr.mk.injEq] at e'; omega)).trans (h.c j hj)⟩
end

set_option maxHeartbeats 4000000 in
theorem swapRange_any (blk n cap a b m : Nat) (cv : Value) (Ok : Int → Prop) (f : Nat → Int) (w0 w : World) (S : Rw blk n Ok w0 w f) (h1 : a + m ≤ b) (h2 : b + m ≤ n) (hn : n < 1099511627776) :
    Calls Tryd.prog 101 #[.slice (some ⟨blk, 0, none⟩) n cap, .int .i64 a, .int .i64 b, .int .i64 m, cv] w fun e w' => e = .returned (.tuple #[]) ∧ Rw blk n Ok w0 w' (sr f a b m) := by
  have S0 : Aside (Rw blk n Ok w0 w f) := S
  clear S
  go_enter Tryd.func101, Tryd.ntmps101
  go_wp2
  go_loopg [10] m (fun g1 vi wr => ∃ i : Nat, vi = .int .i64 i ∧ i ≤ m ∧ m - i ≤ g1 ∧ Aside (Rw blk n Ok w0 wr (sr f a b i)))
  case atStart => exact ⟨0, rfl, by omega, by omega, by rw [sr_zero]; exact S0⟩
  case round =>
    clear S0
    obtain ⟨i, rfl, him, hg1, S1⟩ := hrel
    by_cases hlt : i < m
    · have hltz : (i : Int) < (m : Int) := by omega
      obtain ⟨p, hp⟩ : ∃ p, p = a + i := ⟨_, rfl⟩
      obtain ⟨q, hq⟩ : ∃ q, q = b + i := ⟨_, rfl⟩
      have ea : ((a : Int) + (i : Int)).toNat = p := by omega
      have pa : (0 : Int) ≤ (a : Int) + (i : Int) := by omega
      have ba : (a : Int) + (i : Int) < (n : Int) := by omega
      have ra : IntKind.i64.wrap ((a : Int) + (i : Int)) = (a : Int) + (i : Int) := by rw [IntKind.wrap_i64]; omega
      have eb : ((b : Int) + (i : Int)).toNat = q := by omega
      have pb : (0 : Int) ≤ (b : Int) + (i : Int) := by omega
      have bb : (b : Int) + (i : Int) < (n : Int) := by omega
      have rb : IntKind.i64.wrap ((b : Int) + (i : Int)) = (b : Int) + (i : Int) := by rw [IntKind.wrap_i64]; omega
      obtain ⟨x, hx⟩ : ∃ x, x = sr f a b i p := ⟨_, rfl⟩
      obtain ⟨y, hy⟩ : ∃ y, y = sr f a b i q := ⟨_, rfl⟩
      have S2 : Aside (Rw blk n Ok w0 ((wr.setCell ⟨blk, p, none⟩ (.int .i64 (y))).setCell ⟨blk, q, none⟩ (.int .i64 (x))).drew (sr f a b (i + 1))) := by
        rw [hx, hy, ← sr_step f h1 hlt, hp, hq]
        exact S1.out.swap (by omega) (by omega)
      have ca := S1.out.c p (by omega)
      have cb := S1.out.c q (by omega)
      have fa := S1.out.z p
      have fb := S1.out.z q
      obtain ⟨u, cc⟩ := S1.out.c2 (i := p) (j := q) (by omega) (by omega) (.int .i64 (y))
      rw [← hx] at ca
      rw [← hy] at cb
      clear S1 hx hy hp hq
      go_wp2_with fail
      go_region
      clear ca cb cc fa fb
      generalize ((wr.setCell ⟨blk, p, none⟩ (.int .i64 (y))).setCell ⟨blk, q, none⟩ (.int .i64 (x))).drew = w3 at S2 ⊢
      go_wp2
      go_roundg (m - (i + 1))
      case measure => omega
      case rel => exact ⟨i + 1, by go_num, by omega, by omega, S2⟩
    · have hltz : ¬ (i : Int) < (m : Int) := by omega
      obtain rfl : i = m := by omega
      go_wp2
      go_end0
      exact ⟨rfl, S1.out⟩
end Go.Proofs.YtnckkhamkkaljaaDoor.Si
