/- What an operation's class is and what it reads (package ops; the document's own), read off the program by the walk. Conditions: each field is a number of its own width. -/
import Derived.Test.YtldfjlepbbmhnaaDoorKd
import Derived.Test.YtldfjlepbbmhnaaDoorRw
import Derived.Deep.AppendLies
namespace Go.Proofs.YtldfjlepbbmhnaaDoor.Op
open Go.ChangeShapes Go.WideShapes Go.ChangeAt Go.RowKit
set_option maxRecDepth 20000

def clB (d : Int) : Bool := match kOf d with | some k => !(k.cls == -1) | none => false
def clV (d : Int) : Int := match kOf d with | some k => if k.cls == -1 then 0 else k.cls | none => 0
theorem cls_all : (kindL.all fun k => decide (-1 ≤ k.cls ∧ k.cls ≤ 3)) = true := by decide
theorem cls_in {d : Int} {k : K} (h : kOf d = some k) : -1 ≤ k.cls ∧ k.cls ≤ 3 := by
  obtain ⟨n, hn, -, rfl⟩ := kOf_some h
  have := List.all_eq_true.1 cls_all _ (List.getElem_mem (l := kindL) hn)
  simpa using this
set_option maxHeartbeats 1000000 in
theorem class_any (d : Int) (w : World) (h0 : -128 ≤ d) (h1 : d ≤ 127) : Calls Tryd.prog 20 #[.int .i8 d] w fun e w' => e = .returned (.tuple #[.int .i64 (clV d), .bool (clB d)]) ∧ Below w.heap.size w w' := by
  cases hk : kOf d with
  | none =>
    rw [show clV d = 0 by simp [clV, hk], show clB d = false by simp [clB, hk]]
    have HC : Hid _ := fun w => kindOf_no d w h0 h1 hk
    clear h0 h1 hk
    go_enter Tryd.func20, Tryd.ntmps20
    go_wp2_with (first | (go_at_call 32; refine Calls.mono (HC.out _) ?_; rintro e w1 ⟨rfl, hb⟩))
    go_ret2
    exact ⟨rfl, hb.trans ((Below.refl _ _).alloc hb.size _)⟩
  | some k =>
    have hc := cls_in hk
    have e1 : clV d = if k.cls == -1 then 0 else k.cls := by simp [clV, hk]
    have e2 : clB d = !(k.cls == -1) := by simp [clB, hk]
    have HC : Hid _ := fun w => kindOf_yes d k w hk
    rw [e1, e2]
    clear h0 h1 hk e1 e2
    cases hm : (k.cls == -1)
    all_goals
      go_enter Tryd.func20, Tryd.ntmps20
      go_wp2_with (first | (go_at_call 32; refine Calls.mono (HC.out _) ?_; rintro e w1 ⟨rfl, hb⟩))
      go_ret2
      exact ⟨rfl, hb.trans ((Below.refl _ _).alloc hb.size _)⟩

/-- A slice of n numbers, which are f 0, f 1 and so on. -/
def SlAt (w : World) (v : Value) (n : Nat) (f : Nat → Int) : Prop :=
  (n = 0 ∧ ∃ p c, v = .slice p 0 c) ∨ ∃ b c : Nat, v = .slice (some ⟨b, 0, none⟩) n c ∧ b < w.heap.size ∧ ∀ j, j < n → w.cell? ⟨b, j, none⟩ = some (.int .u8 (f j))
theorem SlAt.on {w w' : World} {v : Value} {n : Nat} {f : Nat → Int} (h : SlAt w v n f) (hb : Below w.heap.size w w') : SlAt w' v n f := by
  rcases h with h | ⟨b, c, h1, h2, h3⟩
  · exact .inl h
  · exact .inr ⟨b, c, h1, Nat.lt_of_lt_of_le h2 hb.size, fun j hj => by rw [(bcell hb).1 _ _ h2]; exact h3 j hj⟩

end Go.Proofs.YtldfjlepbbmhnaaDoor.Op
