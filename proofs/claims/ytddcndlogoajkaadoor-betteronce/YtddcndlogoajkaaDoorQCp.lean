/- A list of operations in memory of its own (CopiedOps): read off the program by the walk. Conditions: the list lies in memory, and has at most 8192 operations. -/
import Derived.Test.YtddcndlogoajkaaDoorQPk
import Derived.Deep.AppendLies
import Derived.OwnWalk
namespace Go.Proofs.YtddcndlogoajkaaDoor.L8.Op
open Go.ChangeShapes Go.WideShapes Go.ChangeAt Go.RowKit
set_option maxRecDepth 20000

theorem info39 : (Tryd.prog.info? 39).map (fun i => (i.zero, i.size, i.bytes)) = some (some (.agg #[.int .i8 0, .int .u8 0, .int .u8 0, .int .u8 0, .int .i64 0]), 5, 16) := by kernel_rfl
theorem info36 : (Tryd.prog.info? 36).map (fun i => (i.zero, i.size, i.bytes)) = some (some (.agg #[.slice none 0 0, .int .i8 0, .int .u8 0, .slice none 0 0, .int .i64 0, .int .i64 0]), 6, 72) := by kernel_rfl
theorem add_at (b f j : Nat) : (⟨b, f, none⟩ : Addr).add j = ⟨b, f + j, none⟩ := by simp [Addr.add]
/-- The cells of operations in a row. -/
def ocells (xs : List O) : List Value := xs.flatMap fun o => [.int .i8 o.op, .int .u8 o.d, .int .u8 o.a, .int .u8 o.b, .int .i64 o.im]
theorem ocells_len (xs : List O) : (ocells xs).length = xs.length * 5 := by
  induction xs with
  | nil => rfl
  | cons o r ih => unfold ocells at ih ⊢; rw [List.flatMap_cons, List.length_append, ih]; simp; omega
theorem ocells_cons (o : O) (r : List O) : ocells (o :: r) = .int .i8 o.op :: .int .u8 o.d :: .int .u8 o.a :: .int .u8 o.b :: .int .i64 o.im :: ocells r := rfl
theorem ocells_get (xs : List O) : ∀ (i : Nat) (h : i < xs.length), (ocells xs)[i * 5]? = some (.int .i8 xs[i].op) ∧ (ocells xs)[i * 5 + 1]? = some (.int .u8 xs[i].d) ∧ (ocells xs)[i * 5 + 2]? = some (.int .u8 xs[i].a) ∧ (ocells xs)[i * 5 + 3]? = some (.int .u8 xs[i].b) ∧ (ocells xs)[i * 5 + 4]? = some (.int .i64 xs[i].im) := by
  induction xs with
  | nil => intro i h; simp at h
  | cons o r ih =>
    intro i h
    rw [ocells_cons]
    cases i with
    | zero => exact ⟨rfl, rfl, rfl, rfl, rfl⟩
    | succ i =>
      have := ih i (by simpa using h)
      rw [show (i + 1) * 5 = i * 5 + 1 + 1 + 1 + 1 + 1 by omega]
      simpa using this
theorem ocells_one (xs : List O) : ∀ u, u ∈ ocells xs → u.oneCell' = true := by
  intro u hu
  obtain ⟨o, _, h⟩ := List.mem_flatMap.1 hu
  simp at h
  rcases h with rfl | rfl | rfl | rfl | rfl <;> rfl
theorem ocells_at {w : World} {b f : Nat} (xs : List O) (h : ∀ (i : Nat) (h : i < xs.length), OAt w b (f + i * 5) xs[i]) : ∀ j u, (ocells xs)[j]? = some u → w.cell? ((⟨b, f, none⟩ : Addr).add j) = some u := by
  intro j u hu
  have hj : j < (ocells xs).length := by
    rcases Nat.lt_or_ge j (ocells xs).length with h' | h'
    · exact h'
    · rw [List.getElem?_eq_none h'] at hu; cases hu
  rw [ocells_len] at hj
  have hi : j / 5 < xs.length := by omega
  obtain ⟨c0, c1, c2, c3, c4⟩ := h (j / 5) hi
  obtain ⟨g0, g1, g2, g3, g4⟩ := ocells_get xs (j / 5) hi
  have hq : j = j / 5 * 5 + j % 5 := by omega
  have hm : j % 5 = 0 ∨ j % 5 = 1 ∨ j % 5 = 2 ∨ j % 5 = 3 ∨ j % 5 = 4 := by omega
  rw [add_at]
  generalize j / 5 = q at *
  rcases hm with hm | hm | hm | hm | hm
  · obtain rfl : j = q * 5 := by omega
    rw [g0] at hu; rw [← hu]; exact c0
  · obtain rfl : j = q * 5 + 1 := by omega
    rw [g1] at hu; rw [← hu, ← Nat.add_assoc]; exact c1
  · obtain rfl : j = q * 5 + 2 := by omega
    rw [g2] at hu; rw [← hu, ← Nat.add_assoc]; exact c2
  · obtain rfl : j = q * 5 + 3 := by omega
    rw [g3] at hu; rw [← hu, ← Nat.add_assoc]; exact c3
  · obtain rfl : j = q * 5 + 4 := by omega
    rw [g4] at hu; rw [← hu, ← Nat.add_assoc]; exact c4
/-- A row of operations is a list in memory. -/
theorem opsAt_row {w : World} {B c : Nat} {a : Option Addr} {xs : List O} (h : w.ownsRow B 39 5 (.slice a xs.length c) xs.length (ocells xs)) (hok : ∀ o, o ∈ xs → o.Ok) (hl : xs.length ≤ 8192) : OpsAt w a xs := by
  refine ⟨hok, by omega, fun h0 => ?_⟩
  rcases h.2 with ⟨_, h1⟩ | ⟨g, cap, cur, h1, h2, h3, h4⟩
  · omega
  · injection h1 with e1 e2 e3
    subst e1
    have hc := h.cells (g := g) rfl
    refine ⟨g, 0, rfl, (h.lt g rfl).2, fun i hi => ?_⟩
    obtain ⟨g0, g1, g2, g3, g4⟩ := ocells_get xs i hi
    have k : ∀ j u, (ocells xs)[j]? = some u → w.cell? ⟨g, 0 + j, none⟩ = some u := fun j u hj => by have := hc j u hj; rw [add_at] at this; exact this
    exact ⟨k _ _ g0, k _ _ g1, k _ _ g2, k _ _ g3, k _ _ g4⟩

end Go.Proofs.YtddcndlogoajkaaDoor.L8.Op
