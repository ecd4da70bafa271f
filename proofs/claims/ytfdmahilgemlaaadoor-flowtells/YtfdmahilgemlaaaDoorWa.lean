/- Four blocks: what is after, ahead, reached, and on rings. Plain mathematics over the program's own answers. Conditions: none. -/
import Derived.Test.YtfdmahilgemlaaaDoorGz
import Derived.Test.YtfdmahilgemlaaaDoorHa
namespace Go.Proofs.YtfdmahilgemlaaaDoor.Fl
open Go.ChangeShapes Go.WideShapes Go.ChangeAt Go.RowKit
open _root_.Go.Proofs.YtfdmahilgemlaaaDoor.So _root_.Go.Proofs.YtfdmahilgemlaaaDoor.Ss _root_.Go.Proofs.YtfdmahilgemlaaaDoor.Op _root_.Go.Proofs.YtfdmahilgemlaaaDoor.Fw
set_option maxRecDepth 20000

def wk4 : List Bk := [⟨[], 1, 0, [], 1, 2⟩, ⟨[], 0, 0, [], 0, 0⟩, ⟨[], 2, 0, [], 0, 0⟩, ⟨[], 0, 0, [], 3, 0⟩]
theorem wk4_ck : ckP wk4 = 0 := by decide
theorem wk4_kn : knB wk4 0 = true := by decide
theorem wk4_after : afterL wk4 0 = [1, 2] := by decide
theorem wk4_ahead : aheadL wk4 0 = [1] := by decide
theorem way_in {t : Nat → Nat → Bool} {n x z : Nat} {S : Nat → Bool} (h0 : ∀ y, y < n → t x y = true → S y = true) (hS : ∀ y, y < n → ∀ z, z < n → S y = true → t y z = true → S z = true) (h : Fw.Way t n x z) : S z = true := by
  induction h with
  | one hy ht => exact h0 _ hy ht
  | more hw hz ht ih => exact hS _ hw.lt _ hz ih ht
theorem lt4 {y : Nat} (h : y < 4) : y = 0 ∨ y = 1 ∨ y = 2 ∨ y = 3 := by omega
theorem t01 : tB wk4 0 1 = true := by decide
theorem t02 : tB wk4 0 2 = true := by decide
theorem t10 : tB wk4 1 0 = true := by decide
theorem t33 : tB wk4 3 3 = true := by decide
theorem w01 : Fw.Way (tB wk4) 4 0 1 := .one (by omega) t01
theorem w10 : Fw.Way (tB wk4) 4 1 0 := .one (by omega) t10
theorem w02 : Fw.Way (tB wk4) 4 0 2 := .one (by omega) t02
theorem b00 : wB (tB wk4) 4 0 0 = true := wB_iff.2 (w01.trans w10)
theorem b01 : wB (tB wk4) 4 0 1 = true := wB_iff.2 w01
theorem b10 : wB (tB wk4) 4 1 0 = true := wB_iff.2 w10
theorem b02 : wB (tB wk4) 4 0 2 = true := wB_iff.2 w02
theorem b33 : wB (tB wk4) 4 3 3 = true := wB_iff.2 (.one (by omega) t33)
theorem b11 : wB (tB wk4) 4 1 1 = true := wB_iff.2 (w10.trans w01)
def s012 (z : Nat) : Bool := z == 0 || z == 1 || z == 2
theorem c012 : ∀ y, y < 4 → ∀ z, z < 4 → s012 y = true → tB wk4 y z = true → s012 z = true := by decide
theorem n03 : wB (tB wk4) 4 0 3 = false := by
  cases h : wB (tB wk4) 4 0 3 with
  | false => rfl
  | true =>
    have := way_in (S := s012) (by decide) c012 (wB_iff.1 h)
    revert this; decide
theorem n13 : wB (tB wk4) 4 1 3 = false := by
  cases h : wB (tB wk4) 4 1 3 with
  | false => rfl
  | true =>
    have := way_in (S := s012) (by decide) c012 (wB_iff.1 h)
    revert this; decide
theorem n2 (z : Nat) : wB (tB wk4) 4 2 z = false := by
  cases h : wB (tB wk4) 4 2 z with
  | false => rfl
  | true =>
    have := way_in (S := fun _ => false) (by decide) (by decide) (wB_iff.1 h)
    revert this; decide
theorem n3 {z : Nat} (hz : z ≠ 3) : wB (tB wk4) 4 3 z = false := by
  cases h : wB (tB wk4) 4 3 z with
  | false => rfl
  | true =>
    have := way_in (S := fun z => z == 3) (by decide) (by decide) (wB_iff.1 h)
    simp at this; exact absurd this hz
theorem range4 : List.range 4 = [0, 1, 2, 3] := by decide
theorem wk4_reach : reachI wk4 = [0, 1, 2] := by
  unfold reachI
  rw [if_pos wk4_kn]
  show (reachL (tB wk4) 4).map _ = _
  unfold reachL
  rw [range4]
  simp [b00, b01, b02, n03]
theorem wk4_ring0 : ringL (tB wk4) 4 0 = [0, 1] := by
  unfold ringL
  rw [range4]
  simp [b00, b01, b10, b02, n2, n03]
theorem wk4_ring3 : ringL (tB wk4) 4 3 = [3] := by
  unfold ringL
  rw [range4]
  simp [b33, n3]
theorem wk4_rings : ringsI wk4 = [[0, 1], [3]] := by
  unfold ringsI
  rw [if_pos wk4_kn]
  show (ringsTo (tB wk4) 4 4).map _ = _
  have h0 : headB (tB wk4) 4 0 = true := by simp [headB, b00, told_zero]
  have h1 : headB (tB wk4) 4 1 = false := by
    have : told (tB wk4) 4 1 1 = true := told_iff.2 ⟨0, by omega, b01, b10⟩
    simp [headB, this]
  have h2 : headB (tB wk4) 4 2 = false := by simp [headB, n2]
  have h3 : headB (tB wk4) 4 3 = true := by
    have : told (tB wk4) 4 3 3 = false := by
      cases h : told (tB wk4) 4 3 3 with
      | false => rfl
      | true =>
        obtain ⟨k, hk, k1, k2⟩ := told_iff.1 h
        rw [n3 (by omega)] at k2; cases k2
    simp [headB, b33, this]
  unfold ringsTo
  rw [range4]
  simp [h0, h1, h2, h3, wk4_ring0, wk4_ring3]
theorem wk4_ok : ∀ x ∈ wk4, x.Ok := by
  intro x hx
  simp only [wk4, List.mem_cons, List.not_mem_nil, or_false] at hx
  rcases hx with rfl | rfl | rfl | rfl <;> constructor <;> decide
theorem wk4_pat (w : World) : PAt ((w.alloc (.cells #[.slice none 0 0, .int .i8 1, .int .u8 0, .slice none 0 0, .int .i64 1, .int .i64 2, .slice none 0 0, .int .i8 0, .int .u8 0, .slice none 0 0, .int .i64 0, .int .i64 0, .slice none 0 0, .int .i8 2, .int .u8 0, .slice none 0 0, .int .i64 0, .int .i64 0, .slice none 0 0, .int .i8 0, .int .u8 0, .slice none 0 0, .int .i64 3, .int .i64 0] 50)).alloc (.cells #[.slice (some ⟨w.heap.size, 0, none⟩) 4 4] 24)) (some ⟨w.heap.size, 0, none⟩) wk4 := by
  have a := (At.new w #[.slice none 0 0, .int .i8 1, .int .u8 0, .slice none 0 0, .int .i64 1, .int .i64 2, .slice none 0 0, .int .i8 0, .int .u8 0, .slice none 0 0, .int .i64 0, .int .i64 0, .slice none 0 0, .int .i8 2, .int .u8 0, .slice none 0 0, .int .i64 0, .int .i64 0, .slice none 0 0, .int .i8 0, .int .u8 0, .slice none 0 0, .int .i64 3, .int .i64 0] 50).alloc (.cells #[.slice (some ⟨w.heap.size, 0, none⟩) 4 4] 24)
  have none0 : ∀ V : World, OpsAt V none [] := fun V => ⟨by simp, by simp, fun h => by simp at h⟩
  refine ⟨by decide, fun _ => ⟨w.heap.size, 0, rfl, a.lt, fun i hi => ?_⟩⟩
  have hi2 : i = 0 ∨ i = 1 ∨ i = 2 ∨ i = 3 := by simp [wk4] at hi; omega
  rcases hi2 with rfl | rfl | rfl | rfl
  · exact ⟨⟨none, 0, none, 0⟩, ⟨a.c 0 _ rfl, a.c 1 _ rfl, a.c 2 _ rfl, a.c 3 _ rfl, a.c 4 _ rfl, a.c 5 _ rfl⟩, ⟨wk4_ok _ (List.getElem_mem _), none0 _, none0 _⟩⟩
  · exact ⟨⟨none, 0, none, 0⟩, ⟨a.c 6 _ rfl, a.c 7 _ rfl, a.c 8 _ rfl, a.c 9 _ rfl, a.c 10 _ rfl, a.c 11 _ rfl⟩, ⟨wk4_ok _ (List.getElem_mem _), none0 _, none0 _⟩⟩
  · exact ⟨⟨none, 0, none, 0⟩, ⟨a.c 12 _ rfl, a.c 13 _ rfl, a.c 14 _ rfl, a.c 15 _ rfl, a.c 16 _ rfl, a.c 17 _ rfl⟩, ⟨wk4_ok _ (List.getElem_mem _), none0 _, none0 _⟩⟩
  · exact ⟨⟨none, 0, none, 0⟩, ⟨a.c 18 _ rfl, a.c 19 _ rfl, a.c 20 _ rfl, a.c 21 _ rfl, a.c 22 _ rfl, a.c 23 _ rfl⟩, ⟨wk4_ok _ (List.getElem_mem _), none0 _, none0 _⟩⟩
end Go.Proofs.YtfdmahilgemlaaaDoor.Fl
