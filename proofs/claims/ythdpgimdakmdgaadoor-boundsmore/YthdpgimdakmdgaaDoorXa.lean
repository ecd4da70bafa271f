/- Registers as bits of a word: two sets of registers have one in common just if the bits meet. Plain mathematics. Conditions: none. -/
import Derived.Test.YthdpgimdakmdgaaDoorEc
namespace Go.Proofs.YthdpgimdakmdgaaDoor.Dp
open Go.ChangeShapes Go.WideShapes Go.ChangeAt Go.RowKit
open _root_.Go.Proofs.YthdpgimdakmdgaaDoor.Op _root_.Go.Proofs.YthdpgimdakmdgaaDoor.So
open _root_.Go.Proofs.YthdpgimdakmdgaaDoor.Tb (Tab TabAt)
set_option maxRecDepth 20000

theorem wrapU (n : Int) : IntKind.u32.wrap n = n % 4294967296 := by simp [IntKind.wrap, IntKind.bits, IntKind.signed]
theorem toNatU (x : Nat) (hx : x < 4294967296) : (BitVec.ofInt 32 (x : Int)).toNat = x := by
  rw [BitVec.toNat_ofInt]
  omega
theorem andU (x y : Nat) (hx : x < 4294967296) (hy : y < 4294967296) : bits .and .u32 (x : Int) (y : Int) = ((x &&& y : Nat) : Int) := by
  show IntKind.u32.wrap ((BitVec.ofInt 32 (x : Int) &&& BitVec.ofInt 32 (y : Int)).toNat : Nat) = _
  rw [BitVec.toNat_and, toNatU x hx, toNatU y hy, wrapU]
  have : x &&& y ≤ x := Nat.and_le_left
  omega
theorem orU (x y : Nat) (hx : x < 4294967296) (hy : y < 4294967296) : bits .or .u32 (x : Int) (y : Int) = ((x ||| y : Nat) : Int) := by
  show IntKind.u32.wrap ((BitVec.ofInt 32 (x : Int) ||| BitVec.ofInt 32 (y : Int)).toNat : Nat) = _
  rw [BitVec.toNat_or, toNatU x hx, toNatU y hy, wrapU]
  have h : x ||| y < 2 ^ 32 := Nat.or_lt_two_pow (by simpa using hx) (by simpa using hy)
  have h : x ||| y < 4294967296 := h
  omega
theorem sh_nat (d : Nat) (h : d ≤ 31) : sh (d : Int) = ((2 ^ d : Nat) : Int) := by
  unfold sh
  rw [Int.toNat_natCast, Nat.min_eq_left (by omega)]
  have h1 : (2 : Nat) ^ d < 2 ^ 32 := Nat.pow_lt_pow_right (by decide) (by omega)
  have h2 : ((2 ^ d : Nat) : Int) = (2 : Int) ^ d := by simp
  rw [← h2]
  have h3 : (2 : Nat) ^ 32 = 4294967296 := by decide
  generalize (2 : Nat) ^ d = p at *
  omega
theorem pow_lt (d : Nat) (h : d ≤ 31) : 2 ^ d < 4294967296 := by
  have h1 : (2 : Nat) ^ d < 2 ^ 32 := Nat.pow_lt_pow_right (by decide) (by omega)
  have h3 : (2 : Nat) ^ 32 = 4294967296 := by decide
  omega
/-- A set of registers as a word. -/
structure Msk (m : Int) (P : Nat → Prop) : Prop where
  ex : ∃ x : Nat, m = x ∧ x < 4294967296 ∧ ∀ d, x.testBit d = true ↔ P d
theorem Msk.zero : Msk 0 (fun _ => False) := ⟨0, rfl, by decide, fun d => by simp⟩
theorem Msk.one (d : Nat) (h : d ≤ 31) : Msk (sh (d : Int)) (fun k => k = d) := ⟨2 ^ d, sh_nat d h, pow_lt d h, fun k => by rw [Nat.testBit_two_pow]; simp [eq_comm]⟩
theorem Msk.or {m n : Int} {P Q : Nat → Prop} (h : Msk m P) (g : Msk n Q) : Msk (bits .or .u32 m n) (fun k => P k ∨ Q k) := by
  obtain ⟨x, rfl, hx, h1⟩ := h.ex
  obtain ⟨y, rfl, hy, h2⟩ := g.ex
  refine ⟨x ||| y, orU x y hx hy, ?_, fun d => ?_⟩
  · have h : x ||| y < 2 ^ 32 := Nat.or_lt_two_pow (by simpa using hx) (by simpa using hy)
    exact h
  · rw [Nat.testBit_or, Bool.or_eq_true, h1, h2]
theorem Msk.and {m n : Int} {P Q : Nat → Prop} (h : Msk m P) (g : Msk n Q) : (bits .and .u32 m n != 0) = true ↔ ∃ d, P d ∧ Q d := by
  obtain ⟨x, rfl, hx, h1⟩ := h.ex
  obtain ⟨y, rfl, hy, h2⟩ := g.ex
  rw [andU x y hx hy]
  constructor
  · intro hne
    have hne : ¬ (x &&& y) = 0 := fun e => by rw [e] at hne; simp at hne
    obtain ⟨d, hd⟩ : ∃ d, (x &&& y).testBit d = true := by
      by_cases hz : ∃ d, (x &&& y).testBit d = true
      · exact hz
      · exfalso
        refine hne (Nat.eq_of_testBit_eq fun d => ?_)
        rw [Nat.zero_testBit]
        cases hb : (x &&& y).testBit d
        · rfl
        · exact absurd ⟨d, hb⟩ hz
    rw [Nat.testBit_and, Bool.and_eq_true] at hd
    exact ⟨d, (h1 d).1 hd.1, (h2 d).1 hd.2⟩
  · rintro ⟨d, p, q⟩
    have hb : (x &&& y).testBit d = true := by rw [Nat.testBit_and, (h1 d).2 p, (h2 d).2 q]; rfl
    have : ¬ (x &&& y) = 0 := fun e => by rw [e, Nat.zero_testBit] at hb; cases hb
    simpa using this
/-- What an operation writes and reads. -/
def wrs (o : O) (d : Nat) : Prop := wrB o = true ∧ o.d = (d : Int)
def rds (o : O) (k : K) (d : Nat) : Prop := (k.A = true ∧ o.a = (d : Int)) ∨ (k.A = true ∧ k.B = true ∧ o.b = (d : Int))
theorem okF_regs {k : K} {o : O} (h : okF k o = true) : (k.D = true → o.d ≤ 31) ∧ (k.A = true → o.a ≤ 31) ∧ (k.B = true → o.b ≤ 31) := by
  simp only [okF, Bool.and_eq_true] at h
  obtain ⟨⟨⟨h1, h2⟩, h3⟩, -⟩ := h
  refine ⟨fun e => ?_, fun e => ?_, fun e => ?_⟩
  · rw [e] at h1; simp [rH] at h1; omega
  · rw [e] at h2; simp [rH] at h2; omega
  · rw [e] at h3; simp [rH] at h3; omega
theorem msk_w (t : Tab) (o : O) (k : K) (ho : o.Ok) (hk : kOf o.op = some k) : Msk (ptOf t o k).w (wrs o) := by
  show Msk (if wrB o then sh o.d else 0) (wrs o)
  cases hw : wrB o
  · have : wrs o = fun _ => False := funext fun d => propext ⟨fun h => by rw [wrs, hw] at h; exact absurd h.1 (by decide), fun h => h.elim⟩
    rw [this]; exact Msk.zero
  · have hd : o.d ≤ 31 := by
      unfold wrB at hw
      rw [hk] at hw
      simp only [Bool.and_eq_true] at hw
      exact (okF_regs hw.1).1 hw.2
    obtain ⟨d, e⟩ : ∃ d : Nat, o.d = d := ⟨o.d.toNat, by have := ho.d0; omega⟩
    have : wrs o = fun k => k = d := funext fun j => propext ⟨fun h => by have h2 := h.2; omega, fun h => ⟨hw, by rw [e, h]⟩⟩
    rw [this, e]
    exact Msk.one d (by omega)
theorem msk_m (t : Tab) (o : O) (k : K) (ho : o.Ok) (hf : okF k o = true) : Msk (ptOf t o k).m (rds o k) := by
  show Msk (mk o (rcN k o)) (rds o k)
  obtain ⟨-, ha, hb⟩ := okF_regs hf
  obtain ⟨a, ea⟩ : ∃ a : Nat, o.a = a := ⟨o.a.toNat, by have := ho.a0; omega⟩
  obtain ⟨b, eb⟩ : ∃ b : Nat, o.b = b := ⟨o.b.toNat, by have := ho.b0; omega⟩
  cases hA : k.A
  · have e0 : rcN k o = 0 := by simp [rcN, hA]
    have : rds o k = fun _ => False := funext fun d => propext ⟨fun h => by rcases h with h | h <;> (rw [hA] at h; exact absurd h.1 (by decide)), fun h => h.elim⟩
    rw [e0, this]; exact Msk.zero
  · have m1 : Msk (mk o 1) (fun k => False ∨ k = a) := by
      show Msk (bits .or .u32 0 (sh (rf o 0))) _
      refine Msk.zero.or ?_
      have : rf o 0 = (a : Int) := ea
      rw [this]
      exact Msk.one a (by have := ha hA; omega)
    by_cases h2 : (k.B && !(o.a == o.b)) = true
    · have e2 : rcN k o = 2 := by simp only [rcN, hA, h2, if_true]
      simp only [Bool.and_eq_true] at h2
      have m2 : Msk (mk o 2) (fun k => (False ∨ k = a) ∨ k = b) := by
        show Msk (bits .or .u32 (mk o 1) (sh (rf o 1))) _
        refine m1.or ?_
        have : rf o 1 = (b : Int) := eb
        rw [this]
        exact Msk.one b (by have := hb h2.1; omega)
      have : rds o k = fun k => (False ∨ k = a) ∨ k = b := funext fun d => propext ⟨fun h => by
        rcases h with h | h
        · left; right; have := h.2; omega
        · right; have := h.2.2; omega, fun h => by
        rcases h with (h | h) | h
        · exact h.elim
        · left; exact ⟨hA, by omega⟩
        · right; exact ⟨hA, h2.1, by omega⟩⟩
      rw [e2, this]; exact m2
    · have h2' : (k.B && !(o.a == o.b)) = false := by simpa using h2
      have e1 : rcN k o = 1 := by simp [rcN, hA, h2']
      have : rds o k = fun k => False ∨ k = a := funext fun d => propext ⟨fun h => by
        rcases h with h | h
        · right; have := h.2; omega
        · right
          have hB := h.2.1
          rw [hB] at h2'
          have : o.a = o.b := by simpa using h2'
          have := h.2.2
          omega, fun h => by
        rcases h with h | h
        · exact h.elim
        · left; exact ⟨hA, by omega⟩⟩
      rw [e1, this]; exact m1
end Go.Proofs.YthdpgimdakmdgaaDoor.Dp
