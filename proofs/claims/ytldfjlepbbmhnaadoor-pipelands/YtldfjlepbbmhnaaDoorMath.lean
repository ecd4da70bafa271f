/- The plain mathematics of fields of a word, with no program in sight: what a field holds behind a put, what is read out of it, and numbers in two's complement. No condition but those that each lemma names. -/
namespace Go.Proofs.YtldfjlepbbmhnaaDoor.Op

/-- is it a field? -/
def fieldB (a n : Int) : Bool := decide (1 ≤ n ∧ n ≤ 64 ∧ 0 ≤ a ∧ a ≤ 64 - n)
/-- brought into 1 to 64 -/
def cl (n : Int) : Int := if n < 1 then 1 else if 64 < n then 64 else n
theorem cl_lo (n : Int) : 1 ≤ cl n := by unfold cl; split <;> (try split) <;> omega
theorem cl_hi (n : Int) : cl n ≤ 64 := by unfold cl; split <;> (try split) <;> omega
/-- what stands in the field -/
def getN (X a n : Nat) : Nat := X / 2 ^ a % 2 ^ n

/-! ### masks -/
theorem ones_div (n : Nat) (h : n ≤ 64) : 18446744073709551615 / 2 ^ (64 - n) = 2 ^ n - 1 := by
  have e : (18446744073709551616 : Nat) = 2 ^ n * 2 ^ (64 - n) := by
    rw [← Nat.pow_add, show n + (64 - n) = 64 by omega]
  have hp : 0 < 2 ^ (64 - n) := Nat.two_pow_pos _
  have hn : 0 < 2 ^ n := Nat.two_pow_pos _
  refine Nat.div_eq_of_lt_le ?_ ?_
  · rw [Nat.sub_mul, ← e]; omega
  · rw [Nat.sub_add_cancel hn, ← e]; omega
theorem get_masks (X a n : Nat) : X / 2 ^ a &&& (2 ^ n - 1) = getN X a n := by
  unfold getN; exact Nat.and_two_pow_sub_one_eq_mod _ _

/-! ### one bit after another: the document's own way -/
/-! ### two's complement -/
/-- the lowest c bits of x as a number with a sign -/
def sg (x : Int) (c : Nat) : Int := (x + 2 ^ (c - 1)) % 2 ^ c - 2 ^ (c - 1)
theorem pow_split (c : Nat) (h : 1 ≤ c) : (2 : Int) ^ c = 2 * 2 ^ (c - 1) := by
  obtain ⟨d, rfl⟩ : ∃ d, c = d + 1 := ⟨c - 1, by omega⟩
  rw [Nat.add_sub_cancel, Int.pow_succ]; omega
theorem pow_pos' (c : Nat) : (0 : Int) < 2 ^ c := Int.pow_pos (by decide)
theorem sg_lo (x : Int) (c : Nat) : -(2 ^ (c - 1)) ≤ sg x c := by
  unfold sg
  have := Int.emod_nonneg (x + 2 ^ (c - 1)) (Int.ne_of_gt (pow_pos' c)); omega
theorem sg_hi (x : Int) (c : Nat) (h : 1 ≤ c) : sg x c < 2 ^ (c - 1) := by
  unfold sg
  have := Int.emod_lt_of_pos (x + 2 ^ (c - 1)) (pow_pos' c)
  have := pow_split c h; omega
theorem sg_id (x : Int) (c : Nat) (h : 1 ≤ c) (h1 : -(2 ^ (c - 1)) ≤ x) (h2 : x < 2 ^ (c - 1)) : sg x c = x := by
  unfold sg
  have := pow_split c h
  rw [Int.emod_eq_of_lt (by omega) (by omega)]; omega
theorem sg_iff (x : Int) (c : Nat) (h : 1 ≤ c) : sg x c = x ↔ -(2 ^ (c - 1)) ≤ x ∧ x < 2 ^ (c - 1) := by
  constructor
  · intro e; have h1 := sg_lo x c; have h2 := sg_hi x c h; rw [e] at h1 h2; exact ⟨h1, h2⟩
  · intro e; exact sg_id x c h e.1 e.2
theorem sg_mod (x : Int) (c d : Nat) (h : c ≤ d) : sg (x % 2 ^ d) c = sg x c := by
  unfold sg
  have e : (2 : Int) ^ c ∣ 2 ^ d := ⟨2 ^ (d - c), by rw [← Int.pow_add]; congr 1; omega⟩
  rw [Int.add_emod, Int.emod_emod_of_dvd x e, ← Int.add_emod]
theorem sg_shift (x : Int) (c : Nat) (h : 1 ≤ c) (h64 : c ≤ 64) :
    ((x * 2 ^ (64 - c) % 18446744073709551616 + 9223372036854775808) % 18446744073709551616 - 9223372036854775808) / 2 ^ (64 - c) = sg x c := by
  have e64 : (18446744073709551616 : Int) = 2 ^ c * 2 ^ (64 - c) := by
    rw [← Int.pow_add, show c + (64 - c) = 64 by omega]; rfl
  have e63 : (9223372036854775808 : Int) = 2 ^ (c - 1) * 2 ^ (64 - c) := by
    rw [← Int.pow_add, show c - 1 + (64 - c) = 63 by omega]; rfl
  have hp := pow_pos' (64 - c)
  rw [Int.emod_add_emod, e64, e63, ← Int.add_mul, Int.mul_comm _ (2 ^ (64 - c)), Int.mul_comm (2 ^ c) (2 ^ (64 - c)), Int.mul_emod_mul_of_pos _ _ hp,
    Int.mul_comm (2 ^ (c - 1)) (2 ^ (64 - c)), ← Int.mul_sub, Int.mul_ediv_cancel_left _ (Int.ne_of_gt hp)]
  rfl
end Go.Proofs.YtldfjlepbbmhnaaDoor.Op
