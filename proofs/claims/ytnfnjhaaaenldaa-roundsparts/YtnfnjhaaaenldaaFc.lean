/- Whether a plan may be, as the document's own answer says it (fair), read off by the walk. Conditions: the plan lies in memory. -/
import Derived.Test.YtnfnjhaaaenldaaFa
namespace Go.Proofs.Ytnfnjhaaaenldaa.Ro
open Go.ChangeShapes Go.WideShapes Go.ChangeAt Go.RowKit
open _root_.Go.Proofs.Ytnfnjhaaaenldaa.Op _root_.Go.Proofs.Ytnfnjhaaaenldaa.So
set_option maxRecDepth 20000

set_option maxHeartbeats 8000000 in
theorem fair_any (a : Option Addr) (n cap : Nat) (g : Nat → Int) (E S : Int) (w : World) (h : Nl w w.heap.size a n g) (hn : n ≤ 100000000000000) :
    Calls Try.prog 15 #[.agg #[.int .i64 E, .slice a n cap, .int .i64 S]] w fun e w' => e = .returned (.bool (frB n E S g)) ∧ Below w.heap.size w w' := by
  have HU : Hid (Below w.heap.size w (w.alloc (.cells #[.int .i64 E, .slice a n cap, .int .i64 S] 24))) := (Below.refl _ _).alloc (Nat.le_refl _) _
  have hn' : (n : Int) ≤ 100000000000000 := by omega
  by_cases hE1 : E < 1
  · have HR : Hid (false = frB n E S g) := by show _ = _; unfold frB; rw [decide_eq_false (show ¬ 1 ≤ E by omega)]; rfl
    generalize frB n E S g = r at *
    go_enter Try.func15, Try.ntmps15
    go_wp2_with fail
    go_ret
    exact ⟨ret_bool HR.out, HU.out⟩
  by_cases hE2 : 65536 < E
  · have HR : Hid (false = frB n E S g) := by show _ = _; unfold frB; rw [decide_eq_false (show ¬ E ≤ 65536 by omega), Bool.and_false]; rfl
    generalize frB n E S g = r at *
    go_enter Try.func15, Try.ntmps15
    go_wp2_with fail
    go_ret
    exact ⟨ret_bool HR.out, HU.out⟩
  by_cases hL : 64 < n
  · have HR : Hid (false = frB n E S g) := by show _ = _; unfold frB; rw [decide_eq_false (show ¬ n ≤ 64 by omega), Bool.and_false]; rfl
    have hL' : 64 < (n : Int) := by omega
    generalize frB n E S g = r at *
    go_enter Try.func15, Try.ntmps15
    go_wp2_with fail
    go_ret
    exact ⟨ret_bool HR.out, HU.out⟩
  have HNo : Hid (∀ k, k < n → g k < 0 ∨ 65536 < g k → false = frB n E S g) := fun k h1 h2 => by unfold frB; rw [← wiB_no h1 h2, Bool.and_false]; rfl
  have HYs : Hid ((∀ k, k < n → 0 ≤ g k ∧ g k ≤ 65536) → (S == mxN g n / E + 1) = frB n E S g) := fun h1 => by
    unfold frB
    rw [← wiB_yes h1, decide_eq_true (show 1 ≤ E by omega), decide_eq_true (show E ≤ 65536 by omega), decide_eq_true (show n ≤ 64 by omega)]
    rfl
  have hL' : ¬ 64 < (n : Int) := by omega
  have HA : Hid (At (w.alloc (.cells #[.int .i64 E, .slice a n cap, .int .i64 S] 24)) w.heap.size #[.int .i64 E, .slice a n cap, .int .i64 S]) := At.new _ _ _
  have HN : Hid (0 < n → ∃ b f, a = some ⟨b, f, none⟩ ∧ b < w.heap.size ∧ ∀ k, k < n → (w.alloc (.cells #[.int .i64 E, .slice a n cap, .int .i64 S] 24)).cell? ⟨b, f + k, none⟩ = some (.int .i64 (g k))) := fun h0 => by
    obtain ⟨b, f, e, hb, hx⟩ := h.is h0
    exact ⟨b, f, e, hb, fun k hk => by rw [(bcell HU.out).1 _ _ hb]; exact hx k hk⟩
  generalize frB n E S g = r at *
  clear h
  go_enter Try.func15, Try.ntmps15
  go_wp2_with fail
  generalize w.alloc (.cells #[.int .i64 E, .slice a n cap, .int .i64 S] 24) = V at *
  have c0 : V.cell? ⟨w.heap.size, 0, none⟩ = some (.int .i64 E) := HA.out.c 0 _ rfl
  have c1 : V.cell? ⟨w.heap.size, 1, none⟩ = some (.slice a n cap) := HA.out.c 1 _ rfl
  have c2 : V.cell? ⟨w.heap.size, 2, none⟩ = some (.int .i64 S) := HA.out.c 2 _ rfl
  have cl := HA.out.lt
  clear HA
  go_loop [3, 4] (fun m i => ∃ k : Nat, k ≤ n ∧ i = .int .i64 k ∧ m = .int .i64 (mxN g k) ∧ ∀ j, j < k → 0 ≤ g j ∧ g j ≤ 65536) (fun _ i => n - (intOf i).toNat)
  case atStart => exact ⟨0, by omega, rfl, rfl, fun j hj => by omega⟩
  case round =>
    obtain ⟨k, hk, rfl, rfl, hq⟩ := hrel
    have HQ : Hid (∀ j, j < k → 0 ≤ g j ∧ g j ≤ 65536) := hq
    clear hq
    by_cases hlt : k < n
    · have k0 : (0 : Int) ≤ (k : Int) := by omega
      have k1 : (k : Int) < (n : Int) := by omega
      obtain ⟨b, f, rfl, hb, hx⟩ := HN.out (by omega)
      have q0 := hx k hlt
      clear hx
      have HR : Hid (mxN g (k + 1) = max (mxN g k) (g k)) := rfl
      obtain ⟨x, hx⟩ : ∃ v, g k = v := ⟨_, rfl⟩
      rw [hx] at q0 HR
      obtain ⟨m, hm⟩ : ∃ v, mxN g k = v := ⟨_, rfl⟩
      rw [hm] at HR ⊢
      by_cases h1 : x < 0
      · have HE : Hid (false = r) := HNo.out k hlt (.inl (by omega))
        clear hx hm
        go_wp2_with fail
        go_ret
        exact ⟨ret_bool HE.out, HU.out⟩
      · by_cases h2 : 65536 < x
        · have HE : Hid (false = r) := HNo.out k hlt (.inr (by omega))
          clear hx hm
          go_wp2_with fail
          go_ret
          exact ⟨ret_bool HE.out, HU.out⟩
        · have HQ2 : Hid (∀ j, j < k + 1 → 0 ≤ g j ∧ g j ≤ 65536) := fun j hj => by
            by_cases e : j = k
            · subst e; omega
            · exact HQ.out j (by omega)
          clear hx hm HQ
          go_wp2_with fail
          go_round
          case rel => exact ⟨k + 1, by omega, by go_num, by rw [HR.out]; congr 1; split <;> omega, HQ2.out⟩
          case measure => simp [intOf]; omega
    · obtain rfl : k = n := by omega
      have k1 : ¬ (k : Int) < (k : Int) := by omega
      have m0 := mxN_ge g k
      have m1 : mxN g k ≤ 65536 := mxN_le (by omega) fun j hj => (HQ.out j hj).2
      have HS : Hid ((S == (mxN g k + E).tdiv E) = r) := by
        rw [← HYs.out HQ.out]
        show (S == (mxN g k + E).tdiv E) = (S == mxN g k / E + 1)
        rw [Int.tdiv_eq_ediv_of_nonneg (by omega), show mxN g k + E = mxN g k + 1 * E by omega, Int.add_mul_ediv_right _ _ (by omega)]
      have hE0 : ¬ E = 0 := by omega
      generalize mxN g k = m at *
      have d0 : 0 ≤ (m + E).tdiv E := by rw [Int.tdiv_eq_ediv_of_nonneg (by omega)]; exact Int.ediv_nonneg (by omega) (by omega)
      have d1 : (m + E).tdiv E ≤ 200000 := by
        rw [Int.tdiv_eq_ediv_of_nonneg (by omega)]
        exact Int.le_trans (Int.ediv_le_self _ (by omega)) (by omega)
      have hw : IntKind.i64.wrap (Int.tdiv (m + E) E) = Int.tdiv (m + E) E := by rw [IntKind.wrap_i64]; omega
      go_wp2_with fail
      go_quiet (fail)
      go_wp2_with fail
      go_ret
      exact ⟨ret_bool HS.out, HU.out.trans ⟨rfl, rfl, rfl, Nat.le_refl _, fun _ _ => rfl⟩⟩
end Go.Proofs.Ytnfnjhaaaenldaa.Ro
