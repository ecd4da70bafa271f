/- What decoded bundles hold for the machine; the short program's own numbers and its run, told by plain mathematics. Conditions: the words are some bundles'. -/
import Derived.Test.YtldfjlepbbmhnaaDoorQo
namespace Go.Proofs.YtldfjlepbbmhnaaDoor.Pp
open Go.ChangeShapes Go.WideShapes Go.ChangeAt Go.RowKit
open _root_.Go.Proofs.YtldfjlepbbmhnaaDoor.Op _root_.Go.Proofs.YtldfjlepbbmhnaaDoor.So _root_.Go.Proofs.YtldfjlepbbmhnaaDoor.Bu
open _root_.Go.Proofs.YtldfjlepbbmhnaaDoor.Tb (Tab TabAt Bnds tabAt_new)
set_option maxRecDepth 20000

theorem tab_dl {t : Tab} (h : t.ok = true) : (0 ≤ t.d ∧ t.d ≤ 1000) ∧ ∀ k, k < 4 → 0 ≤ t.l k ∧ t.l k ≤ 1000 := by
  simp only [Tb.Tab.ok, Tb.okC, Tb.inB, Bool.and_eq_true, decide_eq_true_eq] at h
  refine ⟨by omega, fun k hk => ?_⟩
  rcases (by omega : k = 0 ∨ k = 1 ∨ k = 2 ∨ k = 3) with rfl | rfl | rfl | rfl <;> omega
theorem bo_dec {t : Tab} {v : Nat → Int} {n : Nat} (h : deE t v n = 0) : Bo t (deL t v (n / ofs t 4)) := by
  obtain ⟨h1, -, h3, h4⟩ := deE_ok h
  have hx : ∀ x ∈ deL t v (n / ofs t 4), ∃ i, i < n / ofs t 4 ∧ x = bdX t (sv t v i) := fun x hx => by
    obtain ⟨i, hi, rfl⟩ := List.mem_map.1 hx
    exact ⟨i, List.mem_range.1 hi, rfl⟩
  refine ⟨fun x hm k hk o ho => ?_, fun x hm k hk => ?_, (tab_dl h1).1, (tab_dl h1).2, by rw [deL_len]; omega⟩
  · obtain ⟨i, hi, rfl⟩ := hx x hm
    have hb := bdK_iff.1 (deB_iff.1 h4 i hi) k hk
    refine ⟨rdL_ok _ _ o ho, ?_⟩
    obtain ⟨j, hj, rfl⟩ := List.mem_map.1 ho
    have := List.all_eq_true.1 hb j hj
    unfold okW at this
    rw [Bool.and_eq_true] at this
    have h7 := this.2
    unfold isB at h7
    rw [Bool.and_eq_true] at h7
    exact h7.2
  · obtain ⟨i, hi, rfl⟩ := hx x hm
    show (rdL _ _).length ≤ 128
    rw [rdL_len]
    have h5 := stN_le (cv t (sv t v i) k) (U t k)
    have h6 := u_le h1 hk
    unfold U at *
    omega
def oT : O := ⟨12, 1, 1, 1, 0⟩
def oS : O := ⟨17, 0, 1, 0, 0⟩
def oH : O := ⟨20, 0, 1, 0, 0⟩
def bsW : List Bn := [rowB 1 oT, rowB 2 oS, ⟨fun _ => []⟩, rowB 2 oS, rowB 3 oH]
def wsW : List Int := encW oneT bsW
def vW : Nat → Int := fun j => wsW.getD j 0
def lsW : List Bn := deL oneT vW (20 / ofs oneT 4)
def sW : PM := runM oneT lsW 99 (newM [0, 3] [])
theorem ofsW : ofs oneT 4 = 4 := by decide +kernel
theorem encE : enE oneT bsW = 0 := by decide +kernel
theorem wsW_ok : ∀ y ∈ wsW, 0 ≤ y ∧ y < 18446744073709551616 := by decide +kernel
theorem decE : deE oneT vW 20 = 0 := by decide +kernel
theorem lsW_len : lsW.length = 20 / ofs oneT 4 := deL_len _ _ _
theorem sW_e : sW.e = 0 := by decide +kernel
theorem sW_v : sW.v = 9 := by decide +kernel
theorem sW_s : sW.s = 5 := by decide +kernel
theorem sW_p : sW.p = [3, 9] := by decide +kernel
theorem newM_ok {rs ms : List Int} (hr : ∀ x ∈ rs, I64 x) (hm : ∀ x ∈ ms, I64 x) : (newM rs ms).Ok 0 := by
  have g : ∀ (l : List Int), (∀ x ∈ l, I64 x) → ∀ i : Nat, I64 ((l[i]?).getD 0) := fun l hl i => by
    cases e : l[i]? with
    | none => simp [I64]
    | some x => exact hl x (List.mem_of_getElem? e)
  exact ⟨g rs hr, g ms hm, by simp [newM, I64], by simp [newM], by simp [newM], fun k x hx => by simp [newM] at hx, fun k => by simp [newM], by simp [newM]⟩
theorem okO_T : oT.Ok ∧ oS.Ok ∧ oH.Ok := ⟨⟨by decide, by decide, by decide, by decide, by decide, by decide, by decide, by decide, by decide, by decide⟩, ⟨by decide, by decide, by decide, by decide, by decide, by decide, by decide, by decide, by decide, by decide⟩, ⟨by decide, by decide, by decide, by decide, by decide, by decide, by decide, by decide, by decide, by decide⟩⟩
end Go.Proofs.YtldfjlepbbmhnaaDoor.Pp
