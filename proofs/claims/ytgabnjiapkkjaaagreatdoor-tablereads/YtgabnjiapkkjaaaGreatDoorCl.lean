/- What the closures of package table answer, and what they leave, read off the program by the walk. Conditions: as each row says. -/
import Derived.Test.YtgabnjiapkkjaaaGreatDoorLi
namespace Go.Proofs.YtgabnjiapkkjaaaGreatDoor.Tb
open Go.ChangeShapes Go.WideShapes Go.ChangeAt Go.RowKit

theorem nothing_call (s : ByteArray) (w : World) :
    Calls Tryz.prog 69 #[.string s] w fun e w' => e = .returned (.int .i64 60) ∧ w' = w := by
  go_enter Tryz.func69, Tryz.ntmps69
  go_wp2
  go_ret
  exact ⟨rfl, rfl⟩

theorem once_yes (s : ByteArray) (c : Nat) (p : Addr) (w : World) (h1 : w.cell? ⟨c, 0, none⟩ = some (.pointer (some p))) (h2 : w.cell? p = some (.bool true)) :
    Calls Tryz.prog 70 #[.string s, .pointer (some ⟨c, 0, none⟩)] w fun e w' => e = .returned (.int .i64 60) ∧ w' = w := by
  go_enter Tryz.func70, Tryz.ntmps70
  go_wp2
  go_ret
  exact ⟨rfl, rfl⟩

theorem once_no (s : ByteArray) (c : Nat) (p : Addr) (w : World) (h1 : w.cell? ⟨c, 0, none⟩ = some (.pointer (some p))) (h2 : w.cell? p = some (.bool false)) (h3 : w.frozen? p = false) :
    Calls Tryz.prog 70 #[.string s, .pointer (some ⟨c, 0, none⟩)] w fun e w' => e = .returned (.int .i64 0) ∧ w' = w.setCell p (.bool true) := by
  go_enter Tryz.func70, Tryz.ntmps70
  go_wp2
  go_ret
  exact ⟨rfl, rfl⟩

theorem exactly_yes (s : ByteArray) (c : Nat) (w : World) (h1 : w.cell? ⟨c, 0, none⟩ = some (.string s)) :
    Calls Tryz.prog 74 #[.string s, .pointer (some ⟨c, 0, none⟩)] w fun e w' => e = .returned (.int .i64 0) ∧ w' = w := by
  go_enter Tryz.func74, Tryz.ntmps74
  go_wp2
  go_ret
  exact ⟨rfl, rfl⟩

theorem exactly_no (s x : ByteArray) (c : Nat) (w : World) (h1 : w.cell? ⟨c, 0, none⟩ = some (.string x)) (hne : s ≠ x) :
    Calls Tryz.prog 74 #[.string s, .pointer (some ⟨c, 0, none⟩)] w fun e w' => e = .returned (.int .i64 60) ∧ w' = w := by
  have hb : (s.toList == x.toList) = false := by
    rw [beq_eq_false_iff_ne, ByteArray.toList_eq, ByteArray.toList_eq]
    intro e
    apply hne
    rw [ba_eq e]
  go_enter Tryz.func74, Tryz.ntmps74
  go_wp2
  go_ret
  exact ⟨rfl, rfl⟩

/-- Which of the five lines begins with a word; 5: none. -/
def kindL (l : List UInt8) : Nat := if l = nameL 0 then 0 else if l = nameL 1 then 1 else if l = nameL 2 then 2 else if l = nameL 3 then 3 else if l = nameL 4 then 4 else 5

theorem ix5_0 (a b c d e : ByteArray) (w : World) : (Instr.index 51 (.agg #[.string a, .string b, .string c, .string d, .string e]) (.int .i64 0)).run Tryz.prog w = .ok (.string a) w := by kernel_rfl
theorem ix5_1 (a b c d e : ByteArray) (w : World) : (Instr.index 51 (.agg #[.string a, .string b, .string c, .string d, .string e]) (.int .i64 1)).run Tryz.prog w = .ok (.string b) w := by kernel_rfl
theorem ix5_2 (a b c d e : ByteArray) (w : World) : (Instr.index 51 (.agg #[.string a, .string b, .string c, .string d, .string e]) (.int .i64 2)).run Tryz.prog w = .ok (.string c) w := by kernel_rfl
theorem ix5_3 (a b c d e : ByteArray) (w : World) : (Instr.index 51 (.agg #[.string a, .string b, .string c, .string d, .string e]) (.int .i64 3)).run Tryz.prog w = .ok (.string d) w := by kernel_rfl
theorem ix5_4 (a b c d e : ByteArray) (w : World) : (Instr.index 51 (.agg #[.string a, .string b, .string c, .string d, .string e]) (.int .i64 4)).run Tryz.prog w = .ok (.string e) w := by kernel_rfl

theorem nameS_no {l : List UInt8} {k : Nat} (h : ¬ l = nameL k) : ((nameS k).toList == l) = false := by
  rw [beq_eq_false_iff_ne, nameS, ByteArray.toList_mk]
  exact fun e => h e.symm
theorem nameS_yes {l : List UInt8} {k : Nat} (h : l = nameL k) : ((nameS k).toList == l) = true := by
  rw [beq_iff_eq, nameS, ByteArray.toList_mk, h]

set_option maxRecDepth 20000 in
set_option maxHeartbeats 1000000 in
theorem kindOf_any (l : List UInt8) (w : World) (hN : Names w) :
    Calls Tryz.prog 49 #[.string ⟨l.toArray⟩] w fun e w' => e = .returned (.int .i64 (kindL l)) ∧ w' = w := by
  have c0 := hN.n 0 (by omega)
  have c1 := hN.n 1 (by omega)
  have c2 := hN.n 2 (by omega)
  have c3 := hN.n 3 (by omega)
  have c4 := hN.n 4 (by omega)
  have j0 := ix5_0
  have j1 := ix5_1
  have j2 := ix5_2
  have j3 := ix5_3
  have j4 := ix5_4
  clear hN
  by_cases h0 : l = nameL 0
  · have e : kindL l = 0 := by unfold kindL; rw [if_pos h0]
    have g0 := nameS_yes h0
    rw [e]
    clear e h0
    go_enter Tryz.func49, Tryz.ntmps49
    go_wp2
    refine wp_loop_rounds 1 ?_
    rw [rounds_succ]; go_wp2
    go_ret
    exact ⟨rfl, rfl⟩
  · by_cases h1 : l = nameL 1
    · have e : kindL l = 1 := by unfold kindL; rw [if_neg h0]; rw [if_pos h1]
      have g0 := nameS_no h0
      have g1 := nameS_yes h1
      rw [e]
      clear e h0 h1
      go_enter Tryz.func49, Tryz.ntmps49
      go_wp2
      refine wp_loop_rounds 2 ?_
      rw [rounds_succ]; go_wp2
      rw [rounds_succ]; go_wp2
      go_ret
      exact ⟨rfl, rfl⟩
    · by_cases h2 : l = nameL 2
      · have e : kindL l = 2 := by unfold kindL; rw [if_neg h0]; rw [if_neg h1]; rw [if_pos h2]
        have g0 := nameS_no h0
        have g1 := nameS_no h1
        have g2 := nameS_yes h2
        rw [e]
        clear e h0 h1 h2
        go_enter Tryz.func49, Tryz.ntmps49
        go_wp2
        refine wp_loop_rounds 3 ?_
        rw [rounds_succ]; go_wp2
        rw [rounds_succ]; go_wp2
        rw [rounds_succ]; go_wp2
        go_ret
        exact ⟨rfl, rfl⟩
      · by_cases h3 : l = nameL 3
        · have e : kindL l = 3 := by unfold kindL; rw [if_neg h0]; rw [if_neg h1]; rw [if_neg h2]; rw [if_pos h3]
          have g0 := nameS_no h0
          have g1 := nameS_no h1
          have g2 := nameS_no h2
          have g3 := nameS_yes h3
          rw [e]
          clear e h0 h1 h2 h3
          go_enter Tryz.func49, Tryz.ntmps49
          go_wp2
          refine wp_loop_rounds 4 ?_
          rw [rounds_succ]; go_wp2
          rw [rounds_succ]; go_wp2
          rw [rounds_succ]; go_wp2
          rw [rounds_succ]; go_wp2
          go_ret
          exact ⟨rfl, rfl⟩
        · by_cases h4 : l = nameL 4
          · have e : kindL l = 4 := by unfold kindL; rw [if_neg h0]; rw [if_neg h1]; rw [if_neg h2]; rw [if_neg h3]; rw [if_pos h4]
            have g0 := nameS_no h0
            have g1 := nameS_no h1
            have g2 := nameS_no h2
            have g3 := nameS_no h3
            have g4 := nameS_yes h4
            rw [e]
            clear e h0 h1 h2 h3 h4
            go_enter Tryz.func49, Tryz.ntmps49
            go_wp2
            refine wp_loop_rounds 5 ?_
            rw [rounds_succ]; go_wp2
            rw [rounds_succ]; go_wp2
            rw [rounds_succ]; go_wp2
            rw [rounds_succ]; go_wp2
            rw [rounds_succ]; go_wp2
            go_ret
            exact ⟨rfl, rfl⟩
          · have e : kindL l = 5 := by unfold kindL; rw [if_neg h0]; rw [if_neg h1]; rw [if_neg h2]; rw [if_neg h3]; rw [if_neg h4]
            have g0 := nameS_no h0
            have g1 := nameS_no h1
            have g2 := nameS_no h2
            have g3 := nameS_no h3
            have g4 := nameS_no h4
            rw [e]
            clear e h0 h1 h2 h3 h4
            go_enter Tryz.func49, Tryz.ntmps49
            go_wp2
            refine wp_loop_rounds 6 ?_
            rw [rounds_succ]; go_wp2
            rw [rounds_succ]; go_wp2
            rw [rounds_succ]; go_wp2
            rw [rounds_succ]; go_wp2
            rw [rounds_succ]; go_wp2
            rw [rounds_succ]; go_wp2
            go_ret
            exact ⟨rfl, rfl⟩

end Go.Proofs.YtgabnjiapkkjaaaGreatDoor.Tb
