/- Two rows of registers are held against one another (regs), read off the program by the walk. Conditions: the rows are of one length, of two at most. -/
import Derived.Test.YtlinekpaffgcjaaDoorKd
namespace Go.Proofs.YtlinekpaffgcjaaDoor.Op
open Go.ChangeShapes Go.WideShapes Go.ChangeAt Go.RowKit
set_option maxRecDepth 20000

/-- A slice of n numbers, which are f 0, f 1 and so on. -/
def SlAt (w : World) (v : Value) (n : Nat) (f : Nat → Int) : Prop :=
  (n = 0 ∧ ∃ p c, v = .slice p 0 c) ∨ ∃ b c : Nat, v = .slice (some ⟨b, 0, none⟩) n c ∧ b < w.heap.size ∧ ∀ j, j < n → w.cell? ⟨b, j, none⟩ = some (.int .u8 (f j))
theorem SlAt.on {w w' : World} {v : Value} {n : Nat} {f : Nat → Int} (h : SlAt w v n f) (hb : Below w.heap.size w w') : SlAt w' v n f := by
  rcases h with h | ⟨b, c, h1, h2, h3⟩
  · exact .inl h
  · exact .inr ⟨b, c, h1, Nat.lt_of_lt_of_le h2 hb.size, fun j hj => by rw [(bcell hb).1 _ _ h2]; exact h3 j hj⟩

end Go.Proofs.YtlinekpaffgcjaaDoor.Op
