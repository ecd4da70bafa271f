/- How many operations a program has, and whether it is great: read off the program by the walk. Conditions: the program lies in memory. -/
import Derived.Test.YtccakjijoadjkaaDoorPm
namespace Go.Proofs.YtccakjijoadjkaaDoor.Op
open Go.ChangeShapes Go.WideShapes Go.ChangeAt Go.RowKit
set_option maxRecDepth 20000

theorem drewN_below {B : Nat} {a w : World} (h : Below B a w) (n : Nat) : Below B a (w.drewN n) := ⟨h.os, h.tape, h.output, h.size, h.block⟩
def bkN (x : Bk) : Nat := x.ops.length + x.body.length
def sumTo (ps : List Bk) (k : Nat) : Nat := ((ps.take k).map bkN).sum
theorem sumTo_succ {ps : List Bk} {k : Nat} (h : k < ps.length) : sumTo ps (k + 1) = sumTo ps k + bkN ps[k] := by
  unfold sumTo
  rw [List.take_succ_eq_append_getElem h, List.map_append, List.sum_append]; simp
theorem sumTo_zero (ps : List Bk) : sumTo ps 0 = 0 := by simp [sumTo]
theorem sumTo_le {w : World} {ao : Option Addr} {ps : List Bk} (h : PAt w ao ps) : ∀ k, k ≤ ps.length → sumTo ps k ≤ k * 17592186044416 := by
  intro k
  induction k with
  | zero => intro _; simp [sumTo_zero]
  | succ k ih =>
    intro hk
    have := ih (by omega)
    rw [sumTo_succ (by omega)]
    obtain ⟨b, f, _, _, hx⟩ := h.is (by omega)
    obtain ⟨p, _, h2⟩ := hx k (by omega)
    have l1 := h2.o.len
    have l2 := h2.b.len
    unfold bkN
    rw [Nat.succ_mul]
    omega
def opsN (ps : List Bk) : Nat := ps.length + sumTo ps ps.length

set_option maxHeartbeats 1000000 in
theorem ops_any (ao : Option Addr) (cap : Nat) (ps : List Bk) (w : World) (h : PAt w ao ps) (hl : ps.length ≤ 8192) :
    Calls Tryd.prog 67 #[.agg #[.slice ao ps.length cap]] w fun e w' => e = .returned (.int .i64 (opsN ps)) ∧ Below w.heap.size w w' := by
  have HP : Hid _ := h
  have HL : Hid _ := sumTo_le h
  have hlen := h.len
  clear h
  go_enter Tryd.func67, Tryd.ntmps67
  go_wp2
  go_loopw [12, 3] (fun i s wr => ∃ k : Nat, k ≤ ps.length ∧ i = .int .i64 k ∧ s = .int .i64 ((ps.length + sumTo ps k : Nat) : Int) ∧ Below w.heap.size w wr) (fun i _ _ => ps.length - (intOf i).toNat)
  case atStart => exact ⟨0, by omega, rfl, by simp [sumTo_zero], by go_grown⟩
  case round =>
    rename_i wr
    obtain ⟨k, hk, rfl, rfl, hbw⟩ := hrel
    by_cases hlt : k < ps.length
    · obtain ⟨b, f, rfl, hz, hx⟩ := HP.out.is (by omega)
      obtain ⟨p, h1, h2⟩ := hx k hlt
      obtain ⟨c0, c1, c2, c3, c4, c5⟩ := h1.below hbw hz
      have l1 := h2.o.len
      have l2 := h2.b.len
      have l3 := HL.out k (by omega)
      have l4 : sumTo ps k ≤ 144115188075855872 := by omega
      have HS : Hid _ := sumTo_succ hlt
      clear h1 l3 hx h2 HP
      go_wp2
      go_roundw
      case rel =>
        refine ⟨k + 1, by omega, by go_num, ?_, hbw.alloc hbw.size _⟩
        rw [HS.out]
        unfold bkN
        go_num
      case measure => simp [intOf]; omega
    · obtain rfl : k = ps.length := by omega
      go_wp2
      go_ret
      exact ⟨rfl, hbw⟩

theorem sumTo_mono (ps : List Bk) : ∀ j k, k + j ≤ ps.length → sumTo ps k ≤ sumTo ps (k + j) := by
  intro j
  induction j with
  | zero => intro k _; exact Nat.le_refl _
  | succ j ih =>
    intro k h
    have := ih k (by omega)
    rw [← Nat.add_assoc, sumTo_succ (by omega)]
    omega
def greatB (ps : List Bk) : Bool := decide (8192 < opsN ps)

end Go.Proofs.YtccakjijoadjkaaDoor.Op
