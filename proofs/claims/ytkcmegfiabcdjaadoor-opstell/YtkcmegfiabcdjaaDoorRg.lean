/- Two rows of registers are held against one another (regs), read off the program by the walk. Conditions: the rows are of one length, of two at most. -/
import Derived.Test.YtkcmegfiabcdjaaDoorKd
namespace Go.Proofs.YtkcmegfiabcdjaaDoor.Op
open Go.ChangeShapes Go.WideShapes Go.ChangeAt Go.RowKit
set_option maxRecDepth 20000

/-- A slice of n numbers, which are f 0, f 1 and so on. -/
def SlAt (w : World) (v : Value) (n : Nat) (f : Nat → Int) : Prop :=
  (n = 0 ∧ ∃ p c, v = .slice p 0 c) ∨ ∃ b c : Nat, v = .slice (some ⟨b, 0, none⟩) n c ∧ b < w.heap.size ∧ ∀ j, j < n → w.cell? ⟨b, j, none⟩ = some (.int .u8 (f j))
theorem SlAt.on {w w' : World} {v : Value} {n : Nat} {f : Nat → Int} (h : SlAt w v n f) (hb : Below w.heap.size w w') : SlAt w' v n f := by
  rcases h with h | ⟨b, c, h1, h2, h3⟩
  · exact .inl h
  · exact .inr ⟨b, c, h1, Nat.lt_of_lt_of_le h2 hb.size, fun j hj => by rw [(bcell hb).1 _ _ h2]; exact h3 j hj⟩

theorem regs_none (p q : Option Addr) (c d : Nat) (w : World) : Calls Tryd.prog 15 #[.slice p 0 c, .slice q 0 d] w fun e w' => e = .returned (.bool true) ∧ Below w.heap.size w w' := by
  go_enter Tryd.func15, Tryd.ntmps15
  go_wp2
  go_loop [5, 13] (fun _ i => i = .int .i64 0) (fun _ _ => 0)
  case atStart => rfl
  case round =>
    subst hrel
    go_wp2
    go_ret
    exact ⟨rfl, Below.refl _ _⟩
set_option maxHeartbeats 1000000 in
theorem regs_some (b g c d n : Nat) (f : Nat → Int) (w : World) (hn : n ≤ 2) (hb : b < w.heap.size) (hg : g < w.heap.size) (h1 : ∀ j, j < n → w.cell? ⟨b, j, none⟩ = some (.int .u8 (f j))) (h2 : ∀ j, j < n → w.cell? ⟨g, j, none⟩ = some (.int .u8 (f j))) :
    Calls Tryd.prog 15 #[.slice (some ⟨b, 0, none⟩) n c, .slice (some ⟨g, 0, none⟩) n d] w fun e w' => e = .returned (.bool true) ∧ Below w.heap.size w w' := by
  have H1 : Hid _ := h1
  have H2 : Hid _ := h2
  clear h1 h2
  go_enter Tryd.func15, Tryd.ntmps15
  go_wp2
  go_loopw [5, 13] (fun _ i wr => ∃ k : Nat, k ≤ n ∧ i = .int .i64 k ∧ Below w.heap.size w wr) (fun _ i _ => n - (intOf i).toNat)
  case atStart => exact ⟨0, by omega, rfl, Below.refl _ _⟩
  case round =>
    rename_i wr
    obtain ⟨k, hk, rfl, hbw⟩ := hrel
    by_cases hlt : k < n
    · have i1 : (0 : Int) ≤ (k : Int) := by omega
      have i2 : (k : Int) < (n : Int) := by omega
      have c1 : ∀ x : Wd (Below wr.heap.size wr), x.w.cell? ⟨b, k, none⟩ = some (.int .u8 (f k)) := fun x => by rw [(bcell x.ok).1 _ _ (Nat.lt_of_lt_of_le hb hbw.size), (bcell hbw).1 _ _ hb]; exact H1.out k hlt
      have c2 : ∀ x : Wd (Below wr.heap.size wr), x.w.cell? ⟨g, k, none⟩ = some (.int .u8 (f k)) := fun x => by rw [(bcell x.ok).1 _ _ (Nat.lt_of_lt_of_le hg hbw.size), (bcell hbw).1 _ _ hg]; exact H2.out k hlt
      haveI inst : Nonempty (Wd (Below wr.heap.size wr)) := ⟨⟨wr, Below.refl _ _⟩⟩
      go_wp2
      refine wp_region_in (Below wr.heap.size wr) (by kernel_rfl) (by kernel_rfl) ((Below.refl _ _).drew) ?_
      repeat (first | go_big_quiet_step ((fail)))
      refine wpQuiet_nil ?_
      rintro _ ⟨x, rfl⟩
      have hx := x.ok
      go_wp2
      go_roundw
      case rel => exact ⟨k + 1, by omega, by go_num, hbw.trans (hx.mono hbw.size)⟩
      case measure => simp [intOf]; omega
    · have i2 : ¬ ((k : Int) < (n : Int)) := by omega
      go_wp2
      go_ret
      exact ⟨rfl, hbw⟩
theorem regs_any {u v : Value} {n : Nat} {f : Nat → Int} (w : World) (hu : SlAt w u n f) (hv : SlAt w v n f) (hn : n ≤ 2) : Calls Tryd.prog 15 #[u, v] w fun e w' => e = .returned (.bool true) ∧ Below w.heap.size w w' := by
  rcases hu with ⟨rfl, p, c, rfl⟩ | ⟨b, c, rfl, hb, h1⟩
  · rcases hv with ⟨-, q, d, rfl⟩ | ⟨g, d, rfl, hg, h2⟩
    · exact regs_none p q c d w
    · exact regs_none p _ c d w
  · rcases hv with ⟨rfl, q, d, rfl⟩ | ⟨g, d, rfl, hg, h2⟩
    · exact regs_none _ q c d w
    · exact regs_some b g c d n f w hn hb hg h1 h2
end Go.Proofs.YtkcmegfiabcdjaaDoor.Op
