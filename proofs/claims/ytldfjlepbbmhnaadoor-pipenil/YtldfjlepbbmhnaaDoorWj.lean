/- What the law's own wakes answers: true. Conditions: the table's bounds lie in memory. -/
import Derived.Test.YtldfjlepbbmhnaaDoorWh
namespace Go.Proofs.YtldfjlepbbmhnaaDoor.Bu
open Go.ChangeShapes Go.WideShapes Go.ChangeAt Go.RowKit
open _root_.Go.Proofs.YtldfjlepbbmhnaaDoor.Op
open _root_.Go.Proofs.YtldfjlepbbmhnaaDoor.Tb (Tab TabAt Bnds four tabAt_new ckR)
open _root_.Go.Proofs.YtldfjlepbbmhnaaDoor.So
set_option maxRecDepth 20000

theorem enc_in {t : Tab} {ls : List Bn} (hok : ∀ x ∈ ls, x.Ok) (hw : allW t ls = true) : ∀ y ∈ encW t ls, 0 ≤ y ∧ y < 18446744073709551616 := by
  intro y hy
  obtain ⟨x, hx, hy⟩ := List.mem_flatMap.1 hy
  have hxw := wfK_iff.1 (List.all_eq_true.1 hw x hx)
  have key : ∀ n, n ≤ 4 → y ∈ wBk t x n → 0 ≤ y ∧ y < 18446744073709551616 := by
    intro n
    induction n with
    | zero => intro _ h; cases h
    | succ n ih =>
      intro hn h
      rcases List.mem_append.1 h with h | h
      · exact ih (by omega) h
      · rcases List.mem_append.1 h with h | h
        · obtain ⟨o, ho, rfl⟩ := List.mem_map.1 h
          have hf := isB_fld (hok x hx n (by omega) o ho) (List.all_eq_true.1 (clsB_parts (hxw n (by omega))).2 o ho)
          have := hf.lo
          have := hf.hi
          omega
        · obtain ⟨-, rfl⟩ := List.mem_replicate.1 h
          omega
  exact key 4 (Nat.le_refl _) hy
theorem Wl.ws {W : World} {b n : Nat} {ws : List Int} (h : Wl W b n ws) (hok : ∀ y ∈ ws, 0 ≤ y ∧ y < 18446744073709551616) : Ws W (some ⟨b, 0, none⟩) n (fun j => ws.getD j 0) := by
  refine ⟨fun j _ => ?_, fun _ => ⟨b, 0, rfl, h.lt, fun j hj => by rw [Nat.zero_add]; exact h.c j hj⟩⟩
  rw [List.getD_eq_getElem?_getD]
  cases e : ws[j]? with
  | none => simp
  | some y => exact hok y (List.mem_of_getElem? e)
end Go.Proofs.YtldfjlepbbmhnaaDoor.Bu
