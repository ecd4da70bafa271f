/- Any number of rounds is the first part, the kernel so many times, and the last part: plain mathematics. Conditions: none. -/
import Derived.Test.YtnfnjhaaaenldaaLa
namespace Go.Proofs.Ytnfnjhaaaenldaa.Ro
open _root_.Go.Proofs.Ytnfnjhaaaenldaa.Sp (Pr)

theorem shf_sorted (k : Int) {l : List Pr} (h : l.Pairwise ltR) : (shf k l).Pairwise ltR := by
  unfold shf
  rw [List.pairwise_map]
  refine h.imp ?_
  intro a b h
  unfold ltR at h ⊢
  show a.2 + k < b.2 + k ∨ a.2 + k = b.2 + k ∧ a.1 < b.1
  omega
/-- Rows moved by whole rounds. -/
theorem shf_row {E : Int} {cy : Nat → Int} {L S n j c d : Nat} (hc : (c : Int) = (d : Int) + (j : Int) * E) (hjn : j + S ≤ n)
    (h : ∀ i r : Nat, i < L → r < n → (r : Int) * E + cy i = c → j ≤ r ∧ r < j + S) : shf (j : Int) (rowP E cy (evR L S) d) = rowP E cy (evR L n) c := by
  refine ext_R (shf_sorted _ (rowP_sorted _ _ _ _ _)) (rowP_sorted _ _ _ _ _) fun x => ?_
  rw [mem_rowR]
  unfold shf
  rw [List.mem_map]
  constructor
  · rintro ⟨y, hy, rfl⟩
    obtain ⟨i, r, hi, hr, rfl, e⟩ := mem_rowR.1 hy
    refine ⟨i, r + j, hi, by omega, ?_, ?_⟩
    · show ((i : Int), (r : Int) + (j : Int)) = ((i : Int), ((r + j : Nat) : Int))
      rw [Int.natCast_add]
    · rw [Int.natCast_add, Int.add_mul]
      omega
  · rintro ⟨i, r, hi, hr, rfl, e⟩
    obtain ⟨h1, h2⟩ := h i r hi hr e
    refine ⟨((i : Int), ((r - j : Nat) : Int)), mem_rowR.2 ⟨i, r - j, hi, by omega, rfl, ?_⟩, ?_⟩
    · have h3 : ((r - j : Nat) : Int) = (r : Int) - (j : Int) := by omega
      rw [h3, Int.sub_mul]
      omega
    · show ((i : Int), ((r - j : Nat) : Int) + (j : Int)) = ((i : Int), (r : Int))
      rw [show ((r - j : Nat) : Int) + (j : Int) = (r : Int) by omega]
theorem lt_mul {a b E : Int} (hE : 1 ≤ E) (h : a * E < b * E) : a < b := Int.lt_of_mul_lt_mul_right h (by omega)
section
variable {E : Int} {cy : Nat → Int} {L S m n1 k : Nat}
theorem shf_zero (l : List Pr) : shf ((0 : Nat) : Int) l = l := by
  unfold shf
  have : (fun x : Pr => (x.1, x.2 + ((0 : Nat) : Int))) = id := by
    funext x
    show (x.1, x.2 + 0) = x
    rw [Int.add_zero]
  rw [this, List.map_id]
/-- The first part. -/
theorem part_first (hF : Fair L E (S : Int) cy) (h1 : (n1 : Int) = ((S : Int) - 1) * E) {c : Nat} (hc : c < n1) : rowP E cy (evR L S) c = rowP E cy (evR L (m + S)) c := by
  have h := shf_row (E := E) (cy := cy) (L := L) (S := S) (n := m + S) (j := 0) (c := c) (d := c) (by simp) (by omega) fun i r hi hr e => by
    have h0 := hF.c0 i hi
    have := lt_mul hF.e1 (show (r : Int) * E < ((S : Int) - 1) * E by omega)
    omega
  rw [shf_zero] at h
  exact h
/-- The kernel. -/
theorem part_kernel (hF : Fair L E (S : Int) cy) (h1 : (n1 : Int) = ((S : Int) - 1) * E) (hk : (k : Int) = E) {c j : Nat} (hc : c < k) (hj : j ≤ m) : shf (j : Int) (rowP E cy (evR L S) (n1 + c)) = rowP E cy (evR L (m + S)) (n1 + j * k + c) := by
  have hjk : ((j * k : Nat) : Int) = (j : Int) * E := by rw [Int.natCast_mul, hk]
  have hs : (S : Int) * E = ((S : Int) - 1) * E + E := by rw [Int.sub_mul]; omega
  refine shf_row (by omega) (by omega) fun i r hi hr e => ?_
  have h0 := hF.c0 i hi
  have h2 := hF.c2 i hi
  have a : ((j : Int) - 1) * E = (j : Int) * E - E := by rw [Int.sub_mul]; omega
  have b : ((j : Int) + (S : Int)) * E = (j : Int) * E + (S : Int) * E := Int.add_mul _ _ _
  have g1 := lt_mul hF.e1 (show ((j : Int) - 1) * E < (r : Int) * E by omega)
  have g2 := lt_mul hF.e1 (show (r : Int) * E < ((j : Int) + (S : Int)) * E by omega)
  omega
/-- The last part. -/
theorem part_last (hF : Fair L E (S : Int) cy) (h1 : (n1 : Int) = ((S : Int) - 1) * E) (hk : (k : Int) = E) {c : Nat} : shf (m : Int) (rowP E cy (evR L S) (n1 + k + c)) = rowP E cy (evR L (m + S)) (n1 + (m + 1) * k + c) := by
  have hjk : (((m + 1) * k : Nat) : Int) = (m : Int) * E + E := by rw [Int.natCast_mul, hk, Int.natCast_add, Int.add_mul]; simp
  have hs : (S : Int) * E = ((S : Int) - 1) * E + E := by rw [Int.sub_mul]; omega
  refine shf_row (by omega) (by omega) fun i r hi hr e => ?_
  have h2 := hF.c2 i hi
  have g1 := lt_mul hF.e1 (show (m : Int) * E < (r : Int) * E by omega)
  omega
end
end Go.Proofs.Ytnfnjhaaaenldaa.Ro
