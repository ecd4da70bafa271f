/- Whether a number is in a list; whether two lists are the same: read off the statement's functions by the walk. Conditions: the lists lie in memory. -/
import Derived.Test.YtfdmahilgemlaaaDoorTb
namespace Go.Proofs.YtfdmahilgemlaaaDoor.Fl
open Go.ChangeShapes Go.WideShapes Go.ChangeAt Go.RowKit
open _root_.Go.Proofs.YtfdmahilgemlaaaDoor.So _root_.Go.Proofs.YtfdmahilgemlaaaDoor.Ss _root_.Go.Proofs.YtfdmahilgemlaaaDoor.Op
set_option maxRecDepth 20000

theorem hasL_any (a : Option Addr) (c : Nat) (xs : List Int) (z : Int) (B : Nat) (w : World) (h : Il w B a xs) (hl : xs.length < 1099511627776) :
    Calls Tryd.prog 15 #[.slice a xs.length c, .int .i64 z] w fun e w' => e = .returned (.bool (decide (z ∈ xs))) ∧ w' = w := by
  go_enter Tryd.func15, Tryd.ntmps15
  go_wp2
  go_loop [6, 9] (fun _ i => ∃ k : Nat, k ≤ xs.length ∧ i = .int .i64 k ∧ Hid (∀ j (hj : j < xs.length), j < k → xs[j] ≠ z)) (fun _ i => xs.length - (intOf i).toNat)
  case atStart => exact ⟨0, by omega, rfl, fun j _ hj => by omega⟩
  case round =>
    obtain ⟨k, hk, rfl, hN⟩ := hrel
    by_cases hlt : k < xs.length
    · obtain ⟨b, rfl, -, hb, hc⟩ := h.is (by omega)
      have cc := hc k hlt
      by_cases he : xs[k] = z
      · have hR : Hid (decide (z ∈ xs) = true) := decide_eq_true (by rw [← he]; exact List.getElem_mem hlt)
        clear hc h
        rw [he] at cc
        clear he hN
        go_wp2
        go_ret
        exact ⟨ret_bool hR.out.symm, rfl⟩
      · have hN2 : Hid (∀ j (hj : j < xs.length), j < k + 1 → xs[j] ≠ z) := fun j hj hjk => by
          rcases Nat.lt_or_ge j k with h | h
          · exact hN.out j hj h
          · obtain rfl : j = k := by omega
            exact he
        obtain ⟨x, hx⟩ : ∃ x, x = xs[k] := ⟨_, rfl⟩
        rw [← hx] at cc he
        clear hc h hx hN
        go_wp2
        go_roundw
        case rel => exact ⟨k + 1, by omega, by go_num, hN2⟩
        case measure => simp [intOf]; omega
    · obtain rfl : k = xs.length := by omega
      have hR : Hid (decide (z ∈ xs) = false) := decide_eq_false fun h => by
        obtain ⟨j, hj, e⟩ := List.getElem_of_mem h
        exact hN.out j hj hj e
      go_wp2
      go_ret
      exact ⟨ret_bool hR.out.symm, rfl⟩
/-- Are they the same? -/
theorem rows_any (a b : Option Addr) (c d : Nat) (xs ys : List Int) (B B' : Nat) (w : World) (h : Il w B a xs) (g : Il w B' b ys) (hl : xs.length < 1099511627776) (hl' : ys.length < 1099511627776) :
    Calls Tryd.prog 7 #[.slice a xs.length c, .slice b ys.length d] w fun e w' => e = .returned (.bool (decide (xs = ys))) ∧ ∃ q, w' = w.drewN q := by
  by_cases hlen : xs.length = ys.length
  · have hz : (xs.length : Int) = (ys.length : Int) := by omega
    go_enter Tryd.func7, Tryd.ntmps7
    go_wp2
    go_loopw [5, 13] (fun _ i wr => ∃ (k q : Nat), k ≤ xs.length ∧ i = .int .i64 k ∧ wr = w.drewN q ∧ Hid (∀ j (hj : j < xs.length) (hj' : j < ys.length), j < k → xs[j] = ys[j])) (fun _ i _ => xs.length - (intOf i).toNat)
    case atStart => exact ⟨0, 0, by omega, rfl, rfl, fun j _ _ hj => by omega⟩
    case round =>
      rename_i wr
      obtain ⟨k, q, hk, rfl, rfl, hN⟩ := hrel
      by_cases hlt : k < xs.length
      · obtain ⟨p, rfl, -, hb, hc⟩ := h.is (by omega)
        obtain ⟨p', rfl, -, hb', hc'⟩ := g.is (by omega)
        have c1 := hc k hlt
        have c2 := hc' k (by omega)
        have z1 : (k : Int) < (xs.length : Int) := by omega
        have z2 : (k : Int) < (ys.length : Int) := by omega
        by_cases he : xs[k] = ys[k]
        · have hN2 : Hid (∀ j (hj : j < xs.length) (hj' : j < ys.length), j < k + 1 → xs[j] = ys[j]) := fun j hj hj' hjk => by
            rcases Nat.lt_or_ge j k with h | h
            · exact hN.out j hj hj' h
            · obtain rfl : j = k := by omega
              exact he
          rw [he] at c1
          obtain ⟨y, hy⟩ : ∃ y, y = ys[k] := ⟨_, rfl⟩
          rw [← hy] at c1 c2
          clear hc hc' h g he hy hN
          go_wp2_with fail
          go_quiet (fail)
          go_wp2
          go_roundw
          case rel => exact ⟨k + 1, q + nq, by omega, by go_num, by first | rfl | rw [World.drewN_drewN], hN2⟩
          case measure => simp [intOf]; omega
        · have hR : Hid (decide (xs = ys) = false) := decide_eq_false fun e => he (by subst e; rfl)
          obtain ⟨x, hx⟩ : ∃ x, x = xs[k] := ⟨_, rfl⟩
          obtain ⟨y, hy⟩ : ∃ y, y = ys[k] := ⟨_, rfl⟩
          rw [← hx] at c1 he
          rw [← hy] at c2 he
          clear hc hc' h g hx hy hN
          go_wp2_with fail
          go_quiet (fail)
          go_wp2
          go_ret
          exact ⟨ret_bool hR.out.symm, q + nq, by first | rfl | rw [World.drewN_drewN]⟩
      · obtain rfl : k = xs.length := by omega
        have hR : Hid (decide (xs = ys) = true) := decide_eq_true (List.ext_getElem hlen fun j h1 h2 => hN.out j h1 h2 h1)
        go_wp2
        go_ret
        exact ⟨ret_bool hR.out.symm, q, rfl⟩
  · have hz : ¬ (xs.length : Int) = (ys.length : Int) := by omega
    have hR : Hid (decide (xs = ys) = false) := decide_eq_false fun e => hlen (by rw [e])
    clear h g
    go_enter Tryd.func7, Tryd.ntmps7
    go_wp2
    go_ret
    exact ⟨ret_bool hR.out.symm, 0, rfl⟩
end Go.Proofs.YtfdmahilgemlaaaDoor.Fl
