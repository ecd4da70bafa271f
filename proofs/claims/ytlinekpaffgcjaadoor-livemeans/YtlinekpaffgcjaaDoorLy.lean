/- A program's operations and blocks as what they read and write. Plain mathematics over the program in memory. Conditions: none. -/
import Derived.Test.YtlinekpaffgcjaaDoorPc
import Derived.Test.YtlinekpaffgcjaaDoorLx
namespace Go.Proofs.YtlinekpaffgcjaaDoor.Lv
open _root_.Go.Proofs.YtlinekpaffgcjaaDoor.Op

/-- What an operation reads. -/
def rdL (o : O) : List Nat := match kOf o.op with
  | some k => if okF k o && k.A then (if k.B && !(o.a == o.b) then [o.a.toNat, o.b.toNat] else [o.a.toNat]) else []
  | none => []
def wOf (o : O) : W := ⟨rdL o, if wrB o then some o.d.toNat else none⟩
theorem small_of (o : O) (ho : o.Ok) : Small (wOf o) := by
  obtain ⟨_, _, hd, _, ha, _, hb, _, _, _⟩ := ho
  cases h : kOf o.op with
  | none => exact ⟨fun r hr => by simp [wOf, rdL, h] at hr, fun d e => by simp [wOf, wrB, h] at e⟩
  | some k =>
    cases hf : okF k o with
    | false => exact ⟨fun r hr => by simp [wOf, rdL, h, hf] at hr, fun d e => by simp [wOf, wrB, h, hf] at e⟩
    | true =>
      have hf' := hf
      simp only [okF, Bool.and_eq_true] at hf'
      obtain ⟨⟨⟨h1, h2⟩, h3⟩, _⟩ := hf'
      constructor
      · intro r hr
        simp only [wOf, rdL, h, hf, Bool.true_and] at hr
        cases hA : k.A with
        | false => simp [hA] at hr
        | true =>
          simp only [hA, rH, if_true, decide_eq_true_eq] at h2 hr
          cases hB : k.B with
          | false => simp only [hB, Bool.false_and, Bool.false_eq_true, if_false, List.mem_singleton] at hr; omega
          | true =>
            simp only [hB, rH, Bool.true_or, if_true, decide_eq_true_eq] at h3
            simp only [hB, Bool.true_and] at hr
            split at hr
            · simp only [List.mem_cons, List.not_mem_nil, or_false] at hr; omega
            · simp only [List.mem_singleton] at hr; omega
      · intro d e
        simp only [wOf, wrB, h, hf, Bool.true_and] at e
        cases hD : k.D with
        | false => simp [hD] at e
        | true =>
          simp only [hD, rH, if_true, decide_eq_true_eq] at h1
          simp only [hD, if_true, Option.some.injEq] at e
          omega
def eOf (x : Bk) : E := if x.fin = 0 then .jump x.thn.toNat else if x.fin = 1 then .branch x.a.toNat x.thn.toNat x.els.toNat else if x.fin = 2 then .halt x.a.toNat else .loop x.a.toNat x.thn.toNat
def bOf (x : Bk) : B := ⟨x.ops.map wOf, x.body.map wOf, eOf x⟩
theorem end_of {x : Bk} {n : Int} (h : ckB x n = 0) : endB x n = true := by
  unfold ckB at h
  split at h
  · split at h
    · assumption
    · cases h
  · cases h
theorem end_reg {x : Bk} {n : Int} (h : endB x n = true) (hf : x.fin ≠ 0) : x.a < 32 := by
  simp only [endB, Bool.and_eq_true, eK, decide_eq_true_eq] at h
  have h2 := h.1.1.1.2
  have : eA x.fin = true := by simp only [eA, decide_eq_true_eq]; omega
  rw [this] at h2
  simpa [rH] using h2
theorem end_thn {x : Bk} {n : Int} (h : endB x n = true) (hf : x.fin ≠ 2) : 0 ≤ x.thn ∧ x.thn < n := by
  simp only [endB, Bool.and_eq_true, eK, decide_eq_true_eq] at h
  have h2 := h.1.1.2
  have : eT x.fin = true := by simp only [eT, decide_eq_true_eq]; omega
  rw [this] at h2
  simpa [bH] using h2
theorem end_els {x : Bk} {n : Int} (h : endB x n = true) (hf : x.fin = 1) : 0 ≤ x.els ∧ x.els < n := by
  simp only [endB, Bool.and_eq_true] at h
  have h2 := h.1.2
  have : eE x.fin = true := by simp only [eE, decide_eq_true_eq]; omega
  rw [this] at h2
  simpa [bH] using h2
theorem smallB_of {x : Bk} {n : Int} (h : endB x n = true) (h0 : 0 ≤ x.a) (ho : ∀ o ∈ x.ops, o.Ok) (hb : ∀ o ∈ x.body, o.Ok) : SmallB (bOf x) where
  ops := fun o h => by
    obtain ⟨y, hy, rfl⟩ := List.mem_map.1 h
    exact small_of y (ho y hy)
  body := fun o h => by
    obtain ⟨y, hy, rfl⟩ := List.mem_map.1 h
    exact small_of y (hb y hy)
  a := fun a e => by
    have hr := end_reg h
    simp only [bOf, eOf] at e
    split at e
    · cases e
    · rename_i hf
      have hr := hr hf
      split at e
      · cases e; omega
      · split at e <;> (cases e; omega)
theorem succ_lt {x : Bk} {n : Int} (h : endB x n = true) (t : Nat) (ht : t ∈ (bOf x).e.succ) : (t : Int) < n := by
  simp only [bOf, eOf] at ht
  split at ht
  · rename_i hf
    have := end_thn h (by omega)
    simp only [E.succ, List.mem_singleton] at ht; omega
  · split at ht
    · rename_i hf
      have := end_thn h (by omega)
      have := end_els h hf
      simp only [E.succ, List.mem_cons, List.not_mem_nil, or_false] at ht; omega
    · split at ht
      · simp [E.succ] at ht
      · rename_i hf
        have := end_thn h hf
        simp only [E.succ, List.mem_singleton] at ht; omega
end Go.Proofs.YtlinekpaffgcjaaDoor.Lv
