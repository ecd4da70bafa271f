/- A row of things in memory, put into order by swaps: two ranges change places; a rotation. Conditions: the row lies at a block's beginning. -/
import Derived.Test.YtnfnjhaaaenldaaSm
namespace Go.Proofs.Ytnfnjhaaaenldaa.Sp
open Go.ChangeShapes Go.WideShapes Go.ChangeAt Go.RowKit
open _root_.Go.Proofs.Ytnfnjhaaaenldaa.Op _root_.Go.Proofs.Ytnfnjhaaaenldaa.So _root_.Go.Proofs.Ytnfnjhaaaenldaa.Ss
set_option maxRecDepth 20000
/-- Two numbers. -/
abbrev Pr := Int × Int

/-- A row of n things at the beginning of a block, two cells each; all else stands. -/
structure Rw (blk n : Nat) (Ok : Pr → Prop) (w0 w : World) (f : Nat → Pr) : Prop where
  fr : Fr (One blk) w0 w
  lt : blk < w0.heap.size
  c : ∀ k, k < n → w.cell? ⟨blk, k * 2, none⟩ = some (.int .i64 (f k).1)
  d : ∀ k, k < n → w.cell? ⟨blk, k * 2 + 1, none⟩ = some (.int .i64 (f k).2)
  z : ∀ k, w.frozen? ⟨blk, k, none⟩ = false
  ok : ∀ k, k < n → Ok (f k)
/-- A pair is written. -/
abbrev set2 (w : World) (b i : Nat) (v : Pr) : World := (w.setCell ⟨b, i * 2, none⟩ (.int .i64 v.1)).setCell ⟨b, i * 2 + 1, none⟩ (.int .i64 v.2)
section
variable {blk n : Nat} {Ok : Pr → Prop} {w0 w : World} {f : Nat → Pr}
theorem Rw.drewN (h : Rw blk n Ok w0 w f) (q : Nat) : Rw blk n Ok w0 (w.drewN q) f := ⟨h.fr.drewN q, h.lt, h.c, h.d, h.z, h.ok⟩
theorem Rw.drew (h : Rw blk n Ok w0 w f) : Rw blk n Ok w0 w.drew f := ⟨h.fr.drew, h.lt, h.c, h.d, h.z, h.ok⟩
theorem Rw.up {w' : World} (h : Rw blk n Ok w0 w f) (g : Below w.heap.size w w') : Rw blk n Ok w0 w' f := by
  have hl : blk < w.heap.size := Nat.lt_of_lt_of_le h.lt h.fr.size
  exact ⟨h.fr.then g, h.lt, fun k hk => by rw [(bcell g).1 _ _ hl]; exact h.c k hk, fun k hk => by rw [(bcell g).1 _ _ hl]; exact h.d k hk, fun k => by rw [(bcell g).2 _ _ hl]; exact h.z k, h.ok⟩
theorem Rw.q (h : Rw blk n Ok w0 w f) (k : Nat) (hk : k < n) : ∀ xx : Wd (Below w.heap.size w), xx.w.cell? ⟨blk, k * 2, none⟩ = some (.int .i64 (f k).1) := fun xx => (h.up xx.ok).c k hk
theorem Rw.r (h : Rw blk n Ok w0 w f) (k : Nat) (hk : k < n) : ∀ xx : Wd (Below w.heap.size w), xx.w.cell? ⟨blk, k * 2 + 1, none⟩ = some (.int .i64 (f k).2) := fun xx => (h.up xx.ok).d k hk
theorem Rw.put (h : Rw blk n Ok w0 w f) {i : Nat} (hi : i < n) {v : Pr} (hv : Ok v) : Rw blk n Ok w0 (set2 w blk i v) (put f i v) := by
  have ne : ∀ a b : Nat, a ≠ b → (⟨blk, a, none⟩ : Addr) ≠ ⟨blk, b, none⟩ := fun a b hab e => by injection e with _ h2; exact hab h2
  refine ⟨(h.fr.setCell (Or.inr rfl) _ _).setCell (Or.inr rfl) _ _, h.lt, fun k hk => ?_, fun k hk => ?_, fun k => by rw [World.frozen?_setCell, World.frozen?_setCell]; exact h.z k, fun k hk => ?_⟩
  · rw [World.cell?_setCell_other _ _ _ _ (ne _ _ (by omega))]
    by_cases e : k = i
    · subst e
      rw [World.cell?_setCell_same (h := h.c k hk), put_same]
    · rw [World.cell?_setCell_other _ _ _ _ (ne _ _ (by omega)), put_other f v e]; exact h.c k hk
  · by_cases e : k = i
    · subst e
      rw [World.cell?_setCell_same (h := (World.cell?_setCell_other _ _ _ _ (ne _ _ (by omega))).trans (h.d k hk)), put_same]
    · rw [World.cell?_setCell_other _ _ _ _ (ne _ _ (by omega)), World.cell?_setCell_other _ _ _ _ (ne _ _ (by omega)), put_other f v e]; exact h.d k hk
  · by_cases e : k = i
    · subst e; rw [put_same]; exact hv
    · rw [put_other f v e]; exact h.ok k hk
theorem Rw.swap (h : Rw blk n Ok w0 w f) {i j : Nat} (hi : i < n) (hj : j < n) : Rw blk n Ok w0 (set2 (set2 w blk i (f j)) blk j (f i)).drew (swp f i j) := by
  rw [← swp_put f]
  exact ((h.put hi (h.ok j hj)).put hj (h.ok i hi)).drew
theorem Rw.c2 (h : Rw blk n Ok w0 w f) {i j : Nat} (hi : i < n) (hj : j < n) (v : Pr) (hv : Ok v) : ∃ u u', (set2 w blk i v).cell? ⟨blk, j * 2, none⟩ = some u ∧ (set2 w blk i v).cell? ⟨blk, j * 2 + 1, none⟩ = some u' :=
  ⟨_, _, (h.put hi hv).c j hj, (h.put hi hv).d j hj⟩
end

set_option maxHeartbeats 4000000 in
theorem swapRange_any (blk n cap a b m : Nat) (cv : Value) (Ok : Pr → Prop) (f : Nat → Pr) (w0 w : World) (S : Rw blk n Ok w0 w f) (h1 : a + m ≤ b) (h2 : b + m ≤ n) (hn : n < 1099511627776) :
    Calls Try.prog 31 #[.slice (some ⟨blk, 0, none⟩) n cap, .int .i64 a, .int .i64 b, .int .i64 m, cv] w fun e w' => e = .returned (.tuple #[]) ∧ Rw blk n Ok w0 w' (sr f a b m) := by
  have S0 : Aside (Rw blk n Ok w0 w f) := S
  clear S
  go_enter Try.func31, Try.ntmps31
  go_wp2
  go_loopg [10] m (fun g1 vi wr => ∃ i : Nat, vi = .int .i64 i ∧ i ≤ m ∧ m - i ≤ g1 ∧ Aside (Rw blk n Ok w0 wr (sr f a b i)))
  case atStart => exact ⟨0, rfl, by omega, by omega, by rw [sr_zero]; exact S0⟩
  case round =>
    clear S0
    obtain ⟨i, rfl, him, hg1, S1⟩ := hrel
    by_cases hlt : i < m
    · have hltz : (i : Int) < (m : Int) := by omega
      obtain ⟨p, hp⟩ : ∃ p, p = a + i := ⟨_, rfl⟩
      obtain ⟨q, hq⟩ : ∃ q, q = b + i := ⟨_, rfl⟩
      have ea : ((a : Int) + (i : Int)).toNat = p := by omega
      have pa : (0 : Int) ≤ (a : Int) + (i : Int) := by omega
      have ba : (a : Int) + (i : Int) < (n : Int) := by omega
      have ra : IntKind.i64.wrap ((a : Int) + (i : Int)) = (a : Int) + (i : Int) := by rw [IntKind.wrap_i64]; omega
      have eb : ((b : Int) + (i : Int)).toNat = q := by omega
      have pb : (0 : Int) ≤ (b : Int) + (i : Int) := by omega
      have bb : (b : Int) + (i : Int) < (n : Int) := by omega
      have rb : IntKind.i64.wrap ((b : Int) + (i : Int)) = (b : Int) + (i : Int) := by rw [IntKind.wrap_i64]; omega
      obtain ⟨x, hx⟩ : ∃ x, x = sr f a b i p := ⟨_, rfl⟩
      obtain ⟨y, hy⟩ : ∃ y, y = sr f a b i q := ⟨_, rfl⟩
      have S2 : Aside (Rw blk n Ok w0 (set2 (set2 wr blk p y) blk q x).drew (sr f a b (i + 1))) := by
        rw [hx, hy, ← sr_step f h1 hlt, hp, hq]
        exact S1.out.swap (by omega) (by omega)
      have ca := S1.out.c p (by omega)
      have da := S1.out.d p (by omega)
      have cb := S1.out.c q (by omega)
      have db := S1.out.d q (by omega)
      have fa := S1.out.z (p * 2)
      have ga := S1.out.z (p * 2 + 1)
      have fb := S1.out.z (q * 2)
      have gb := S1.out.z (q * 2 + 1)
      obtain ⟨u, u2, cc, dc⟩ := S1.out.c2 (i := p) (j := q) (by omega) (by omega) y (by rw [hy]; exact S1.out.ok _ (by omega))
      rw [← hx] at ca da
      rw [← hy] at cb db
      clear S1 hx hy hp hq
      go_wp2_with fail
      go_region
      clear ca cb cc fa fb da db dc ga gb
      generalize (set2 (set2 wr blk p y) blk q x).drew = w3 at S2 ⊢
      go_wp2
      go_roundg (m - (i + 1))
      case measure => omega
      case rel => exact ⟨i + 1, by go_num, by omega, by omega, S2⟩
    · have hltz : ¬ (i : Int) < (m : Int) := by omega
      obtain rfl : i = m := by omega
      go_wp2
      go_end0
      exact ⟨rfl, S1.out⟩
end Go.Proofs.Ytnfnjhaaaenldaa.Sp
