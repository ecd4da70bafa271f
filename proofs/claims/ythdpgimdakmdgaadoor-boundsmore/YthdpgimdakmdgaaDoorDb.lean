/- The document's side of dependences: does one operation's result flow into another (flows), are two lists of dependences the same (edges): read off the program by the walk. Conditions: the list lies in memory. -/
import Derived.Test.YthdpgimdakmdgaaDoorDa
namespace Go.Proofs.YthdpgimdakmdgaaDoor.Dp
open Go.ChangeShapes Go.WideShapes Go.ChangeAt Go.RowKit
open _root_.Go.Proofs.YthdpgimdakmdgaaDoor.Op _root_.Go.Proofs.YthdpgimdakmdgaaDoor.So
open _root_.Go.Proofs.YthdpgimdakmdgaaDoor.Tb (Tab TabAt Bnds)
set_option maxRecDepth 20000

theorem lastD_in (xs : List O) (r : Int) : ∀ n, -1 ≤ lastD xs r n ∧ lastD xs r n < n
  | 0 => by unfold lastD; omega
  | n + 1 => by
    have := lastD_in xs r n
    unfold lastD
    (repeat' split) <;> omega
/-- One register that an operation reads: does it come from i? -/
def flT (xs : List O) (i j : Nat) (ar : Bool) (r : Int) : Bool := if ar then decide (lastD xs r j < 0) && (lastD xs r xs.length == (i : Int)) else lastD xs r j == (i : Int)
def flB (xs : List O) (o : O) (i j : Nat) (ar : Bool) : Bool := (List.range (rdN o)).any fun k => flT xs i j ar (rf o k)
theorem fl_no {xs : List O} {o : O} {i j : Nat} {ar : Bool} (h : ∀ k, k < rdN o → flT xs i j ar (rf o k) = false) : flB xs o i j ar = false := by
  unfold flB
  rw [List.any_eq_false]
  intro k hk
  rw [h k (by simpa using hk)]
  decide
theorem fl_yes {xs : List O} {o : O} {i j k : Nat} {ar : Bool} (hk : k < rdN o) (h : flT xs i j ar (rf o k) = true) : flB xs o i j ar = true := by
  unfold flB
  rw [List.any_eq_true]
  exact ⟨k, by simpa using hk, h⟩
set_option maxHeartbeats 4000000 in
theorem flows_any (ao : Option Addr) (cap : Nat) (xs : List O) (i j : Nat) (ar : Bool) (w : World) (h : OpsAt w ao xs) (hj : j < xs.length) (hL : okL xs[j] = true) :
    Calls Tryd.prog 37 #[.slice ao xs.length cap, .int .i64 i, .int .i64 j, .bool ar] w fun e w' => e = .returned (.bool (flB xs xs[j] i j ar)) ∧ Below w.heap.size w w' := by
  have hlen := h.len
  have hOk : xs[j].Ok := h.ok _ (List.getElem_mem hj)
  have HR : Hid (∀ W, Calls Tryd.prog 54 #[xs[j].val] W fun e w' => ∃ a n c, e = .returned (.slice a n c) ∧ n = rdN xs[j] ∧ (∀ k, k < rdN xs[j] → ∃ b, a = some ⟨b, 0, none⟩ ∧ ∀ W, Below w'.heap.size w' W → b < W.heap.size ∧ W.cell? ⟨b, k, none⟩ = some (.int .u8 (rf xs[j] k))) ∧ Below W.heap.size W w') := fun W => (reads_ok xs[j] W hOk hL).mono fun e w' h => by
    obtain ⟨v, rfl, hs, hb⟩ := h
    rcases hs with ⟨h0, p, c, rfl⟩ | ⟨b, c, rfl, h1, h2⟩
    · exact ⟨p, 0, c, rfl, h0.symm, fun j hj => by omega, hb⟩
    · exact ⟨_, _, c, rfl, rfl, fun j hj => ⟨b, rfl, fun W g => ⟨Nat.lt_of_lt_of_le h1 g.size, by rw [(bcell g).1 _ _ h1]; exact h2 j hj⟩⟩, hb⟩
  have h2 := rdN_le xs[j]
  have HLj : Hid (∀ r W, Below w.heap.size w W → Calls Tryd.prog 55 #[.slice ao xs.length cap, .int .i64 j, .int .u8 r] W fun e w' => e = .returned (.int .i64 (lastD xs r j)) ∧ Below W.heap.size W w') := fun r W g => last_any ao cap xs j r W (h.below g) (by omega)
  have HLn : Hid (∀ r W, Below w.heap.size w W → Calls Tryd.prog 55 #[.slice ao xs.length cap, .int .i64 xs.length, .int .u8 r] W fun e w' => e = .returned (.int .i64 (lastD xs r xs.length)) ∧ Below W.heap.size W w') := fun r W g => last_any ao cap xs xs.length r W (h.below g) (by omega)
  have HN : Hid ((∀ k, k < rdN xs[j] → flT xs i j ar (rf xs[j] k) = false) → false = flB xs xs[j] i j ar) := fun h => (fl_no h).symm
  have HYs : Hid (∀ k, k < rdN xs[j] → flT xs i j ar (rf xs[j] k) = true → true = flB xs xs[j] i j ar) := fun k hk h => (fl_yes hk h).symm
  have j0 : (0 : Int) ≤ (j : Int) := by omega
  have j1 : (j : Int) < (xs.length : Int) := by omega
  obtain ⟨b, f, rfl, hz2, hx⟩ := h.is (by omega)
  obtain ⟨q0, q1, q2, q3, q4⟩ := hx j hj
  clear h hL hOk hx
  generalize flB xs xs[j] i j ar = fb at *
  generalize rdN xs[j] = N at *
  obtain ⟨F, hF⟩ : ∃ F, rf xs[j] = F := ⟨_, rfl⟩
  rw [hF] at HR HN HYs
  clear hF
  generalize xs[j] = o at *
  cases ar
  · have HTs : Hid (∀ r, flT xs i j false r = (lastD xs r j == (i : Int))) := fun r => rfl
    go_enter Tryd.func37, Tryd.ntmps37
    go_wp2_with (first | (go_at_call 54; refine Calls.mono (HR.out _) ?_; rintro e w1 ⟨a, n, c, rfl, hn, hc, b1⟩; have HB : Hid (n = N ∧ Below w.heap.size w w1 ∧ (∀ j, j < N → ∃ b, a = some ⟨b, 0, none⟩ ∧ ∀ W, Below w1.heap.size w1 W → b < W.heap.size ∧ W.cell? ⟨b, j, none⟩ = some (.int .u8 (F j)))) := ⟨hn, b1, hc⟩; clear b1 hn hc HR))
    obtain rfl := HB.out.1
    clear q0 q1 q2 q3 q4 HLn
    go_loopw [10] (fun x wr => ∃ k : Nat, k ≤ n ∧ x = .int .i64 k ∧ Below w.heap.size w wr ∧ Below w1.heap.size w1 wr ∧ ∀ j', j' < k → flT xs i j false (F j') = false) (fun x _ => n - (intOf x).toNat)
    case atStart => exact ⟨0, by omega, rfl, HB.out.2.1, Below.refl _ _, fun j hj => by omega⟩
    case round =>
      rename World => wr
      obtain ⟨k, hk, rfl, hbw, hbw1, hno⟩ := hrel
      have HB1 : Hid (Below w.heap.size w wr ∧ Below w1.heap.size w1 wr) := ⟨hbw, hbw1⟩
      have HNo : Hid (∀ j', j' < k → flT xs i j false (F j') = false) := hno
      clear hno hbw hbw1
      by_cases hlt : k < n
      · have k0 : (0 : Int) ≤ (k : Int) := by omega
        have k1 : (k : Int) < (n : Int) := by omega
        obtain ⟨b', rfl, hbc⟩ := HB.out.2.2 k hlt
        obtain ⟨hb, hc⟩ := hbc wr HB1.out.2
        have HL1 : Hid (∀ W, Below w.heap.size w W → Calls Tryd.prog 55 #[.slice (some ⟨b, f, none⟩) xs.length cap, .int .i64 j, .int .u8 (F k)] W fun e w' => e = .returned (.int .i64 (lastD xs (F k) j)) ∧ Below W.heap.size W w') := HLj.out (F k)
        have HT1 : Hid (flT xs i j false (F k) = (lastD xs (F k) j == (i : Int))) := HTs.out _
        clear hbc HLj
        by_cases he : lastD xs (F k) j = (i : Int)
        · have he2 : (lastD xs (F k) j == (i : Int)) = true := by simpa using he
          have HS : Hid (true = fb) := HYs.out k hlt (by rw [HT1.out]; exact he2)
          clear HN HYs HNo HTs HT1
          generalize lastD xs (F k) j = x at *
          generalize F k = r at *
          go_wp2_with (first | (go_at_call 55; refine Calls.mono (HL1.out _ HB1.out.1) ?_; rintro e w2 ⟨rfl, b2⟩; have HB2 : Hid (Below w.heap.size w w2) := HB1.out.1.trans (b2.mono HB1.out.1.size); clear b2 HL1))
          go_ret
          exact ⟨ret_bool HS.out, HB2.out⟩
        · have he2 : (lastD xs (F k) j == (i : Int)) = false := by simpa using he
          have HNx : Hid (∀ j', j' < k + 1 → flT xs i j false (F j') = false) := fun j' hj' => by
            by_cases e : j' = k
            · subst e; rw [HT1.out]; exact he2
            · exact HNo.out j' (by omega)
          clear HNo HTs HT1
          generalize lastD xs (F k) j = x at *
          generalize F k = r at *
          go_wp2_with (first | (go_at_call 55; refine Calls.mono (HL1.out _ HB1.out.1) ?_; rintro e w2 ⟨rfl, b2⟩; have HB2 : Hid (Below w.heap.size w w2 ∧ Below w1.heap.size w1 w2) := ⟨HB1.out.1.trans (b2.mono HB1.out.1.size), HB1.out.2.trans (b2.mono HB1.out.2.size)⟩; clear b2 HL1))
          go_roundw
          case rel => exact ⟨k + 1, by omega, by go_num, HB2.out.1, HB2.out.2, HNx.out⟩
          case measure => simp [intOf]; omega
      · have k1 : ¬ (k : Int) < (n : Int) := by omega
        have HS : Hid (false = fb) := HN.out fun j hj => HNo.out j (by omega)
        go_wp2_with fail
        go_ret
        exact ⟨ret_bool HS.out, HB1.out.1⟩
  · have HTs : Hid (∀ r, flT xs i j true r = (decide (lastD xs r j < 0) && (lastD xs r xs.length == (i : Int)))) := fun r => rfl
    go_enter Tryd.func37, Tryd.ntmps37
    go_wp2_with (first | (go_at_call 54; refine Calls.mono (HR.out _) ?_; rintro e w1 ⟨a, n, c, rfl, hn, hc, b1⟩; have HB : Hid (n = N ∧ Below w.heap.size w w1 ∧ (∀ j, j < N → ∃ b, a = some ⟨b, 0, none⟩ ∧ ∀ W, Below w1.heap.size w1 W → b < W.heap.size ∧ W.cell? ⟨b, j, none⟩ = some (.int .u8 (F j)))) := ⟨hn, b1, hc⟩; clear b1 hn hc HR))
    obtain rfl := HB.out.1
    clear q0 q1 q2 q3 q4
    go_loopw [10] (fun x wr => ∃ k : Nat, k ≤ n ∧ x = .int .i64 k ∧ Below w.heap.size w wr ∧ Below w1.heap.size w1 wr ∧ ∀ j', j' < k → flT xs i j true (F j') = false) (fun x _ => n - (intOf x).toNat)
    case atStart => exact ⟨0, by omega, rfl, HB.out.2.1, Below.refl _ _, fun j hj => by omega⟩
    case round =>
      rename World => wr
      obtain ⟨k, hk, rfl, hbw, hbw1, hno⟩ := hrel
      have HB1 : Hid (Below w.heap.size w wr ∧ Below w1.heap.size w1 wr) := ⟨hbw, hbw1⟩
      have HNo : Hid (∀ j', j' < k → flT xs i j true (F j') = false) := hno
      clear hno hbw hbw1
      by_cases hlt : k < n
      · have k0 : (0 : Int) ≤ (k : Int) := by omega
        have k1 : (k : Int) < (n : Int) := by omega
        obtain ⟨b', rfl, hbc⟩ := HB.out.2.2 k hlt
        obtain ⟨hb, hc⟩ := hbc wr HB1.out.2
        have HBc : Hid (∀ W, Below w1.heap.size w1 W → b' < W.heap.size ∧ W.cell? ⟨b', k, none⟩ = some (.int .u8 (F k))) := hbc
        have HL1 : Hid (∀ W, Below w.heap.size w W → Calls Tryd.prog 55 #[.slice (some ⟨b, f, none⟩) xs.length cap, .int .i64 j, .int .u8 (F k)] W fun e w' => e = .returned (.int .i64 (lastD xs (F k) j)) ∧ Below W.heap.size W w') := HLj.out (F k)
        have HL2 : Hid (∀ W, Below w.heap.size w W → Calls Tryd.prog 55 #[.slice (some ⟨b, f, none⟩) xs.length cap, .int .i64 xs.length, .int .u8 (F k)] W fun e w' => e = .returned (.int .i64 (lastD xs (F k) xs.length)) ∧ Below W.heap.size W w') := HLn.out (F k)
        have HT1 : Hid (flT xs i j true (F k) = (decide (lastD xs (F k) j < 0) && (lastD xs (F k) xs.length == (i : Int)))) := HTs.out _
        clear hbc HLj HLn
        by_cases hn0 : lastD xs (F k) j < 0
        · by_cases he : lastD xs (F k) xs.length = (i : Int)
          · have he2 : (lastD xs (F k) xs.length == (i : Int)) = true := by simpa using he
            have HS : Hid (true = fb) := HYs.out k hlt (by rw [HT1.out, he2]; simpa using hn0)
            clear HN HYs HNo HTs HT1
            generalize lastD xs (F k) j = x at *
            generalize lastD xs (F k) xs.length = y at *
            generalize F k = r at *
            go_wp2_with (first
              | (go_at_call 55; refine Calls.mono (HL1.out _ HB1.out.1) ?_; rintro e w2 ⟨rfl, b2⟩; have HB2 : Hid (Below w.heap.size w w2 ∧ Below w1.heap.size w1 w2) := ⟨HB1.out.1.trans (b2.mono HB1.out.1.size), HB1.out.2.trans (b2.mono HB1.out.2.size)⟩; clear b2 HL1 hb hc; have hb := (HBc.out _ HB2.out.2).1; have hc := (HBc.out _ HB2.out.2).2)
              | (go_at_call 55; refine Calls.mono (HL2.out _ HB2.out.1) ?_; rintro e w3 ⟨rfl, b3⟩; have HB3 : Hid (Below w.heap.size w w3) := HB2.out.1.trans (b3.mono HB2.out.1.size); clear b3 HL2))
            go_ret
            exact ⟨ret_bool HS.out, HB3.out⟩
          · have he2 : (lastD xs (F k) xs.length == (i : Int)) = false := by simpa using he
            have HNx : Hid (∀ j', j' < k + 1 → flT xs i j true (F j') = false) := fun j' hj' => by
              by_cases e : j' = k
              · subst e; rw [HT1.out, he2]; simp
              · exact HNo.out j' (by omega)
            clear HNo HTs HT1
            generalize lastD xs (F k) j = x at *
            generalize lastD xs (F k) xs.length = y at *
            generalize F k = r at *
            go_wp2_with (first
              | (go_at_call 55; refine Calls.mono (HL1.out _ HB1.out.1) ?_; rintro e w2 ⟨rfl, b2⟩; have HB2 : Hid (Below w.heap.size w w2 ∧ Below w1.heap.size w1 w2) := ⟨HB1.out.1.trans (b2.mono HB1.out.1.size), HB1.out.2.trans (b2.mono HB1.out.2.size)⟩; clear b2 HL1 hb hc; have hb := (HBc.out _ HB2.out.2).1; have hc := (HBc.out _ HB2.out.2).2)
              | (go_at_call 55; refine Calls.mono (HL2.out _ HB2.out.1) ?_; rintro e w3 ⟨rfl, b3⟩; have HB3 : Hid (Below w.heap.size w w3 ∧ Below w1.heap.size w1 w3) := ⟨HB2.out.1.trans (b3.mono HB2.out.1.size), HB2.out.2.trans (b3.mono HB2.out.2.size)⟩; clear b3 HL2))
            go_roundw
            case rel => exact ⟨k + 1, by omega, by go_num, HB3.out.1, HB3.out.2, HNx.out⟩
            case measure => simp [intOf]; omega
        · have HNx : Hid (∀ j', j' < k + 1 → flT xs i j true (F j') = false) := fun j' hj' => by
            by_cases e : j' = k
            · subst e; rw [HT1.out, decide_eq_false hn0]; rfl
            · exact HNo.out j' (by omega)
          clear HNo HTs HT1 HL2
          generalize lastD xs (F k) j = x at *
          generalize F k = r at *
          go_wp2_with (first | (go_at_call 55; refine Calls.mono (HL1.out _ HB1.out.1) ?_; rintro e w2 ⟨rfl, b2⟩; have HB2 : Hid (Below w.heap.size w w2 ∧ Below w1.heap.size w1 w2) := ⟨HB1.out.1.trans (b2.mono HB1.out.1.size), HB1.out.2.trans (b2.mono HB1.out.2.size)⟩; clear b2 HL1))
          go_roundw
          case rel => exact ⟨k + 1, by omega, by go_num, HB2.out.1, HB2.out.2, HNx.out⟩
          case measure => simp [intOf]; omega
      · have k1 : ¬ (k : Int) < (n : Int) := by omega
        have HS : Hid (false = fb) := HN.out fun j hj => HNo.out j (by omega)
        go_wp2_with fail
        go_ret
        exact ⟨ret_bool HS.out, HB1.out.1⟩
end Go.Proofs.YthdpgimdakmdgaaDoor.Dp
