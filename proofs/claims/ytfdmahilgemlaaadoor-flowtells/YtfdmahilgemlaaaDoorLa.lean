/- Behind and ahead are one; what is reached is closed. Plain mathematics over the program's own answers. Conditions: none. -/
import Derived.Test.YtfdmahilgemlaaaDoorGz
namespace Go.Proofs.YtfdmahilgemlaaaDoor.Fl
open _root_.Go.Proofs.YtfdmahilgemlaaaDoor.So _root_.Go.Proofs.YtfdmahilgemlaaaDoor.Ss _root_.Go.Proofs.YtfdmahilgemlaaaDoor.Op _root_.Go.Proofs.YtfdmahilgemlaaaDoor.Fw
set_option maxRecDepth 20000

theorem kn_same {ps : List Bk} {x y : Nat} (hx : x < ps.length) (hy : y < ps.length) : knB ps (x : Int) = knB ps (y : Int) := by
  unfold knB
  rw [decide_eq_true (show (0 : Int) ≤ (x : Int) by omega), decide_eq_true (show (0 : Int) ≤ (y : Int) by omega), decide_eq_true (show (x : Int) < ps.length by omega), decide_eq_true (show (y : Int) < ps.length by omega)]
theorem after_of {ps : List Bk} {x : Nat} (hx : x < ps.length) (hk : knB ps (x : Int) = true) : afterL ps (x : Int) = turnL ps[x] := by
  unfold afterL
  rw [if_pos hk, Int.toNat_natCast, List.getElem?_eq_getElem hx]
theorem after_ahead {ps : List Bk} {x y : Nat} (hx : x < ps.length) (hy : y < ps.length) : (y : Int) ∈ afterL ps (x : Int) ↔ (x : Int) ∈ aheadL ps (y : Int) := by
  cases hk : knB ps (x : Int) with
  | false =>
    have hk2 : knB ps (y : Int) = false := by rw [← kn_same hx hy]; exact hk
    simp [afterL, aheadL, hk, hk2]
  | true =>
    have hk2 : knB ps (y : Int) = true := by rw [← kn_same hx hy]; exact hk
    rw [after_of hx hk]
    unfold aheadL aheadTo
    rw [if_pos hk2]
    simp only [List.mem_map, List.mem_filter, List.mem_range]
    constructor
    · intro h
      exact ⟨x, ⟨hx, by rw [List.getElem?_eq_getElem hx]; simpa using h⟩, rfl⟩
    · rintro ⟨i, ⟨hi, hm⟩, e⟩
      obtain rfl : i = x := by omega
      rw [List.getElem?_eq_getElem hi] at hm
      simpa using hm
theorem reach_step {ps : List Bk} {x y : Nat} (hx : x < ps.length) (hy : y < ps.length) (h1 : (x : Int) ∈ reachI ps) (h2 : (y : Int) ∈ afterL ps (x : Int)) : (y : Int) ∈ reachI ps := by
  unfold reachI at h1 ⊢
  cases hk : knB ps 0 with
  | false => rw [hk] at h1; simp at h1
  | true =>
    rw [hk] at h1
    simp only [if_true, List.mem_map] at h1 ⊢
    obtain ⟨i, hi, e⟩ := h1
    obtain rfl : i = x := by omega
    have hkx : knB ps ((i : Nat) : Int) = true := by
      have h0 : (0 : Nat) < ps.length := by omega
      have := kn_same (x := 0) (y := i) h0 hx
      rw [← this]; exact hk
    rw [after_of hx hkx] at h2
    refine ⟨y, reach_closed hi hy ?_, rfl⟩
    rw [tB_of hx]; simpa using h2
theorem reach_head {ps : List Bk} : reachI ps = [] ∨ (reachI ps)[0]? = some 0 := by
  unfold reachI
  cases hk : knB ps 0 with
  | false => left; rfl
  | true =>
    right
    have hp : 0 < ps.length := by
      unfold knB at hk
      simp only [Bool.and_eq_true, decide_eq_true_eq] at hk
      omega
    simp only [if_true, List.getElem?_map, reach_first hp]
    rfl
theorem reach_len (ps : List Bk) : (reachI ps).length ≤ ps.length := by
  unfold reachI
  split
  · rw [List.length_map]
    unfold reachL
    have := List.length_filter_le (fun i => wB (tB ps) ps.length 0 i || i == 0) (List.range ps.length)
    simpa using this
  · simp
theorem great_reach {ps : List Bk} (h : 128 < ps.length) : reachI ps = [] := by
  unfold reachI
  have : knB ps 0 = false := by
    have : ¬ ckP ps = 0 := by unfold ckP; rw [if_pos (Or.inl h)]; omega
    unfold knB
    rw [decide_eq_false this]; simp
  rw [this]; rfl
theorem after_len (ps : List Bk) (x : Int) : (afterL ps x).length ≤ 2 := by
  unfold afterL
  split
  · split
    · exact turnL_two _
    · simp
  · simp
theorem ahead_len (ps : List Bk) (x : Int) : (aheadL ps x).length ≤ ps.length := by
  unfold aheadL
  split
  · exact aheadTo_len _ _ _
  · simp
end Go.Proofs.YtfdmahilgemlaaaDoor.Fl
