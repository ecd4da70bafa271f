/- A machine that does one thing at a time, as plain mathematics: its state, what a step makes of it, runs of so many steps, what is told of them. Conditions: none. -/
import Derived.Test.YtddcndlogoajkaaGreatDoorQRk
import Derived.Test.YtddcndlogoajkaaGreatDoorQPk
namespace Go.Proofs.YtddcndlogoajkaaGreatDoor.L8.Sm
open Go.ChangeShapes Go.WideShapes Go.ChangeAt Go.RowKit
open _root_.Go.Proofs.YtddcndlogoajkaaGreatDoor.L8.Op
set_option maxRecDepth 20000

def In64 (x : Int) : Prop := -9223372036854775808 ≤ x ∧ x ≤ 9223372036854775807
/-! ### what stays true -/
theorem wrap_in (x : Int) : In64 (wrap64 x) := by unfold In64 wrap64; omega
theorem bits_in (a b : Int) : In64 (bits .and .i64 a b) ∧ In64 (bits .or .i64 a b) ∧ In64 (bits .xor .i64 a b) := by
  have k : ∀ x, In64 (IntKind.i64.wrap x) := fun x => by rw [IntKind.wrap_i64]; unfold In64; omega
  exact ⟨k _, k _, k _⟩
theorem shr_in (a : Int) (k : Nat) (h : In64 a) : In64 (a / 2 ^ k) := by
  have hp : (0 : Int) < 2 ^ k := Int.pow_pos (by decide)
  obtain ⟨h1, h2⟩ := h
  generalize (2 : Int) ^ k = p at *
  constructor
  · rw [Int.le_ediv_iff_mul_le hp]
    omega
  · have : a / p < 9223372036854775808 := Int.ediv_lt_of_lt_mul hp (by omega)
    omega
theorem rkV_in (d a b : Int) (ha : In64 a) : In64 (rkV d a b) := by
  have z : In64 0 := by unfold In64; omega
  have b1 : ∀ x, In64 (b2i x) := fun x => by cases x <;> (unfold In64 b2i; simp)
  have bi := bits_in a b
  have tm : In64 (a.tmod b) := tmod_le a b ha.1 ha.2
  unfold rkV
  by_cases h2 : d = 2
  · rw [if_pos h2]; exact wrap_in _
  rw [if_neg h2]
  by_cases h3 : d = 3
  · rw [if_pos h3]; exact wrap_in _
  rw [if_neg h3]
  by_cases h4 : d = 4
  · rw [if_pos h4]; exact bi.1
  rw [if_neg h4]
  by_cases h5 : d = 5
  · rw [if_pos h5]; exact bi.2.1
  rw [if_neg h5]
  by_cases h6 : d = 6
  · rw [if_pos h6]; exact bi.2.2
  rw [if_neg h6]
  by_cases h7 : d = 7
  · rw [if_pos h7]; exact wrap_in _
  rw [if_neg h7]
  by_cases h8 : d = 8
  · rw [if_pos h8]; exact shr_in _ _ ha
  rw [if_neg h8]
  by_cases h9 : d = 9
  · rw [if_pos h9]; exact b1 _
  rw [if_neg h9]
  by_cases h10 : d = 10
  · rw [if_pos h10]; exact b1 _
  rw [if_neg h10]
  by_cases h11 : d = 11
  · rw [if_pos h11]; exact ha
  rw [if_neg h11]
  by_cases h12 : d = 12
  · rw [if_pos h12]; exact wrap_in _
  rw [if_neg h12]
  by_cases h13 : d = 13
  · rw [if_pos h13]
    by_cases hb : b = 0
    · rw [if_pos hb]; exact z
    · rw [if_neg hb]; exact wrap_in _
  rw [if_neg h13]
  by_cases h14 : d = 14
  · rw [if_pos h14]
    by_cases hb : b = 0
    · rw [if_pos hb]; exact z
    · rw [if_neg hb]; exact tm
  rw [if_neg h14]; exact z
theorem firstE_all {n : Int} : ∀ {ps : List Bk}, firstE n ps = 0 → ∀ x ∈ ps, ckB x n = 0
  | [], _ => fun x hx => by simp at hx
  | y :: r, h => fun x hx => by
    unfold firstE at h
    by_cases e : ckB y n = 0
    · rw [if_pos e] at h
      rcases List.mem_cons.1 hx with rfl | hx
      · exact e
      · exact firstE_all h x hx
    · rw [if_neg e] at h; exact absurd h e
def PsOk (ps : List Bk) : Prop := ∀ x ∈ ps, x.Ok ∧ (∀ o ∈ x.ops, o.Ok) ∧ ∀ o ∈ x.body, o.Ok
theorem psOk_of {w : World} {ao : Option Addr} {ps : List Bk} (h : PAt w ao ps) : PsOk ps := fun x hx => by
  obtain ⟨i, hi, e⟩ := List.getElem_of_mem hx
  obtain ⟨b, f, -, -, hc⟩ := h.is (by omega)
  obtain ⟨p, -, hb⟩ := hc i hi
  rw [e] at hb
  exact ⟨hb.ok, hb.o.ok, hb.b.ok⟩
end Go.Proofs.YtddcndlogoajkaaGreatDoor.L8.Sm
