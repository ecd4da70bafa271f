/- A rotation, and the insertion of one thing after the other, in memory. Conditions: the row lies at a block's beginning. -/
import Derived.Test.YtnfnjhaaaenldaaSap
namespace Go.Proofs.Ytnfnjhaaaenldaa.Sp
open Go.ChangeShapes Go.WideShapes Go.ChangeAt Go.RowKit
open _root_.Go.Proofs.Ytnfnjhaaaenldaa.Op _root_.Go.Proofs.Ytnfnjhaaaenldaa.So _root_.Go.Proofs.Ytnfnjhaaaenldaa.Ss
set_option maxRecDepth 20000

set_option maxHeartbeats 4000000 in
theorem rotate_any (blk n cap a m b : Nat) (cv : Value) (Ok : Pr → Prop) (f : Nat → Pr) (w0 w : World) (S : Rw blk n Ok w0 w f) (h1 : a < m) (h2 : m < b) (h3 : b ≤ n) (hn : n < 1099511627776) :
    Calls Try.prog 30 #[.slice (some ⟨blk, 0, none⟩) n cap, .int .i64 a, .int .i64 m, .int .i64 b, cv] w fun e w' => e = .returned (.tuple #[]) ∧ Rw blk n Ok w0 w' (rot f a m b) := by
  have S0 : Aside (Rw blk n Ok w0 w f) := S
  have HC : Hid (∀ (x y k : Nat) (g : Nat → Pr) (w' : World), Rw blk n Ok w0 w' g → x + k ≤ y → y + k ≤ n → Calls Try.prog 31 #[.slice (some ⟨blk, 0, none⟩) n cap, .int .i64 x, .int .i64 y, .int .i64 k, cv] w' fun e w2 => e = .returned (.tuple #[]) ∧ Rw blk n Ok w0 w2 (sr g x y k)) :=
    fun x y k g w' S h1 h2 => swapRange_any blk n cap x y k cv Ok g w0 w' S h1 h2 hn
  clear S
  have e0 : (m : Int) - (a : Int) = ((m - a : Nat) : Int) := by omega
  have e1 : (b : Int) - (m : Int) = ((b - m : Nat) : Int) := by omega
  go_enter Try.func30, Try.ntmps30
  go_wp2
  go_loopg [10, 11] n (fun g1 vi vj wr => ∃ (i j : Nat) (g : Nat → Pr), vi = .int .i64 i ∧ vj = .int .i64 j ∧ 0 < i ∧ 0 < j ∧ i ≤ m - a ∧ j ≤ b - m ∧ i + j ≤ g1 ∧ Aside (Rw blk n Ok w0 wr g) ∧ Hid (rot g (m - i) m (m + j) = rot f a m b))
  case atStart =>
    refine ⟨m - a, b - m, f, by first | rfl | go_num | (congr 1; omega), by first | rfl | go_num | (congr 1; omega), by omega, by omega, Nat.le_refl _, Nat.le_refl _, by omega, S0, ?_⟩
    show _ = _
    congr 1 <;> omega
  case round =>
    clear S0 e0 e1
    obtain ⟨i, j, g, rfl, rfl, i0, j0, i1, j1, hg1, S1, HR⟩ := hrel
    have e2 : (m : Int) - (i : Int) = ((m - i : Nat) : Int) := by omega
    by_cases hne : i = j
    · subst hne
      have hz : ¬ ((i : Int) ≠ (i : Int)) := by omega
      go_wp2_with (first | (go_at_call 31; refine Calls.mono (HC.out (m - i) m i g _ S1.out (by omega) (by omega)) ?_; rintro e w1 ⟨rfl, S2⟩; have S3 : Aside _ := S2; clear S2 S1))
      go_end0
      refine ⟨rfl, ?_⟩
      rw [← HR.out, ← rot_eq g (show i ≤ m by omega)]
      exact S3.out
    · have hz : ((i : Int) ≠ (j : Int)) := by omega
      by_cases hgt : j < i
      · have hgz : (i : Int) > (j : Int) := by omega
        have e3 : (i : Int) - (j : Int) = ((i - j : Nat) : Int) := by omega
        go_wp2_with (first | (go_at_call 31; refine Calls.mono (HC.out (m - i) m j g _ S1.out (by omega) (by omega)) ?_; rintro e w1 ⟨rfl, S2⟩; have S3 : Aside _ := S2; clear S2 S1))
        go_roundg (i - j + j)
        case measure => omega
        case rel => exact ⟨i - j, j, _, by first | rfl | go_num | (congr 1; omega), rfl, by omega, j0, by omega, j1, Nat.le_refl _, S3, (show _ = _ from (rot_gt g hgt (by omega)).trans HR.out)⟩
      · have hgz : ¬ (i : Int) > (j : Int) := by omega
        have e3 : (j : Int) - (i : Int) = ((j - i : Nat) : Int) := by omega
        have e4 : (m : Int) + (j : Int) - (i : Int) = ((m + j - i : Nat) : Int) := by omega
        go_wp2_with (first | (go_at_call 31; refine Calls.mono (HC.out (m - i) (m + j - i) i g _ S1.out (by omega) (by omega)) ?_; rintro e w1 ⟨rfl, S2⟩; have S3 : Aside _ := S2; clear S2 S1))
        go_roundg (i + (j - i))
        case measure => omega
        case rel => exact ⟨i, j - i, _, rfl, by first | rfl | go_num | (congr 1; omega), i0, by omega, i1, by omega, Nat.le_refl _, S3, (show _ = _ from (rot_lt g (by omega) (by omega)).trans HR.out)⟩
end Go.Proofs.Ytnfnjhaaaenldaa.Sp
