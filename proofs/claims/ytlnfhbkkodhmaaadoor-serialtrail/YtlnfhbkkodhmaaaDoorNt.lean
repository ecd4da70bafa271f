/- What New answers of a program that is none and of a state that is too great; Run of any machine; Steps: read off the program by the walk. Conditions: the program and the state lie in memory, and the variable as the program lays it. -/
import Derived.Test.YtlnfhbkkodhmaaaDoorNr
namespace Go.Proofs.YtlnfhbkkodhmaaaDoor.Sm
open Go.ChangeShapes Go.WideShapes Go.ChangeAt Go.RowKit
open _root_.Go.Proofs.YtlnfhbkkodhmaaaDoor.Op _root_.Go.Proofs.YtlnfhbkkodhmaaaDoor.So
set_option maxRecDepth 20000

set_option maxHeartbeats 2000000 in
theorem new_bad (ao ra ma : Option Addr) (cap rl rc ml mc : Nat) (ps : List Bk) (w : World) (h : PAt w ao ps) (he : Env w) (hc : ¬ ckP ps = 0) :
    Calls Tryd.prog 8 #[.agg #[.slice ao ps.length cap], .agg #[.slice ra rl rc, .slice ma ml mc]] w fun e w' => e = .returned (.tuple #[.pointer none, .int .i64 (ckP ps)]) ∧ Below w.heap.size w w' := by
  have HCk : Hid (∀ W, Below w.heap.size w W → Calls Tryd.prog 21 #[.agg #[.slice ao ps.length cap]] W fun e w' => e = .returned (.int .i64 (ckP ps)) ∧ Below W.heap.size W w') := fun W hb => checkP_any ao cap ps W (h.below hb) (he.up hb)
  have hc' : (ckP ps == 0) = false := by simpa using hc
  clear h he
  generalize ckP ps = ck at *
  go_enter Tryd.func8, Tryd.ntmps8
  go_wp2_with (first | (go_at_call 21; refine Calls.mono (HCk.out _ (by go_grown)) ?_; rintro e w1 ⟨rfl, hb⟩; obtain ⟨-, -, hb0, -, -⟩ := two_new w _ _ _ _ hb; have HB : Hid (Below w.heap.size w w1) := hb0; clear hb hb0))
  go_ret2
  exact ⟨rfl, HB.out⟩
set_option maxHeartbeats 2000000 in
theorem new_great (ao ra ma : Option Addr) (cap rl rc ml mc : Nat) (ps : List Bk) (w : World) (h : PAt w ao ps) (he : Env w) (hc : ckP ps = 0) (hg : 32 < rl ∨ 256 < ml) :
    Calls Tryd.prog 8 #[.agg #[.slice ao ps.length cap], .agg #[.slice ra rl rc, .slice ma ml mc]] w fun e w' => e = .returned (.tuple #[.pointer none, .int .i64 2]) ∧ Below w.heap.size w w' := by
  have HCk : Hid (∀ W, Below w.heap.size w W → Calls Tryd.prog 21 #[.agg #[.slice ao ps.length cap]] W fun e w' => e = .returned (.int .i64 0) ∧ Below W.heap.size W w') := fun W hb => by
    have := checkP_any ao cap ps W (h.below hb) (he.up hb)
    rw [hc] at this; exact this
  have HT : Hid (∀ {w' : World}, Below ((w.alloc (.cells #[.slice ao ps.length cap] 24)).alloc (.cells #[.slice ra rl rc, .slice ma ml mc] 27)).heap.size ((w.alloc (.cells #[.slice ao ps.length cap] 24)).alloc (.cells #[.slice ra rl rc, .slice ma ml mc] 27)) w' → Op.At w' (w.heap.size + 1) #[.slice ra rl rc, .slice ma ml mc] ∧ Below w.heap.size w w') := fun {w'} hb => by
    obtain ⟨-, h2, h3, -⟩ := two_new w #[.slice ao ps.length cap] #[.slice ra rl rc, .slice ma ml mc] 24 27 hb
    exact ⟨h2, h3⟩
  clear h he hc
  rcases Nat.lt_or_ge 32 rl with h1 | h1
  · have hi : (32 : Int) < (rl : Int) := by omega
    clear hg h1
    go_enter Tryd.func8, Tryd.ntmps8
    go_wp2_with (first | (go_at_call 21; refine Calls.mono (HCk.out _ (by go_grown)) ?_; rintro e w1 ⟨rfl, hb⟩; obtain ⟨x2, x3⟩ := HT.out hb; have HB : Hid (Below w.heap.size w w1) := x3; have s0 := x2.c 0 _ rfl; have s1 := x2.c 1 _ rfl; have sl := x2.lt; clear hb x2 x3 HT HCk))
    go_ret2
    exact ⟨rfl, HB.out⟩
  · have hi : ¬ (32 : Int) < (rl : Int) := by omega
    have hi2 : (256 : Int) < (ml : Int) := by omega
    clear hg h1
    go_enter Tryd.func8, Tryd.ntmps8
    go_wp2_with (first | (go_at_call 21; refine Calls.mono (HCk.out _ (by go_grown)) ?_; rintro e w1 ⟨rfl, hb⟩; obtain ⟨x2, x3⟩ := HT.out hb; have HB : Hid (Below w.heap.size w w1) := x3; have s0 := x2.c 0 _ rfl; have s1 := x2.c 1 _ rfl; have sl := x2.lt; clear hb x2 x3 HT HCk))
    go_ret2
    exact ⟨rfl, HB.out⟩
theorem run_any {w : World} {q : Nat} {ps : List Bk} {T : Nat → Prop} {M : Ma} (n : Int) (h : MM w q ps T M) (hb : M.s + (min (max n 0) 1048576).toNat ≤ 1000000000000) : Calls Tryd.prog 12 #[ptr q, .int .i64 n] w (RunPost w q ps T (runM ps (min (max n 0) 1048576).toNat M)) := by
  by_cases he : (runM ps (min (max n 0) 1048576).toNat M).e = 0
  · exact run_done n h hb he
  · exact run_over' n h hb he
/-- A number of steps as the statements count it. -/
def stN (n : Int) : Int := if 5000 < n then n % 5000 else n
theorem steps_any (n : Int) (w : World) : Calls Tryd.prog 13 #[.int .i64 n] w fun e w' => e = .returned (.int .i64 (stN n)) ∧ w' = w := by
  by_cases h : 5000 < n
  · have hm : n.tmod 5000 = n % 5000 := by rw [Int.tmod_eq_emod_of_nonneg (by omega)]
    rw [show stN n = n % 5000 by simp [stN, h]]
    go_enter Tryd.func13, Tryd.ntmps13
    go_wp2_with fail
    go_ret
    exact ⟨rfl, rfl⟩
  · rw [show stN n = n by simp [stN, h]]
    go_enter Tryd.func13, Tryd.ntmps13
    go_wp2_with fail
    go_ret
    exact ⟨rfl, rfl⟩
end Go.Proofs.YtlnfhbkkodhmaaaDoor.Sm
