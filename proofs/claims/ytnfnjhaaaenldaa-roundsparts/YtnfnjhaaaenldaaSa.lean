/- Whether two lists of rows are the same (the statement's rows), read off by the walk: of the same rows. Conditions: both lie in memory. -/
import Derived.Test.YtnfnjhaaaenldaaRo
namespace Go.Proofs.Ytnfnjhaaaenldaa.Ro
open Go.ChangeShapes Go.WideShapes Go.ChangeAt Go.RowKit
open _root_.Go.Proofs.Ytnfnjhaaaenldaa.Op _root_.Go.Proofs.Ytnfnjhaaaenldaa.So
open _root_.Go.Proofs.Ytnfnjhaaaenldaa.Sp (Pr)
set_option maxRecDepth 20000

set_option maxHeartbeats 8000000 in
theorem rows_same (v v' : Value) (N : Nat) (row : Nat → List Pr) (w : World) (h1 : Rd w v N row) (h2 : Rd w v' N row) (hN : N ≤ 1000000000) (hl : ∀ c, c < N → (row c).length ≤ 1000000000) :
    Calls Try.prog 10 #[v, v'] w fun e w' => e = .returned (.bool true) ∧ Below w.heap.size w w' := by
  obtain ⟨a, cap, rfl, -, g1⟩ := h1.is
  obtain ⟨a', cap', rfl, -, g2⟩ := h2.is
  have HA : Hid (∀ W, Below w.heap.size w W → 0 < N → ∃ b o b' o', a = some ⟨b, o, none⟩ ∧ a' = some ⟨b', o', none⟩ ∧ ∀ c, c < N → ∃ u u', W.cell? ⟨b, o + c, none⟩ = some u ∧ Sl W u (row c) ∧ W.cell? ⟨b', o' + c, none⟩ = some u' ∧ Sl W u' (row c)) := fun W hW h0 => by
    obtain ⟨b, o, e, hb, hc⟩ := g1 h0
    obtain ⟨b', o', e', hb', hc'⟩ := g2 h0
    refine ⟨b, o, b', o', e, e', fun c hcN => ?_⟩
    obtain ⟨u, hu, hs⟩ := hc c hcN
    obtain ⟨u', hu', hs'⟩ := hc' c hcN
    exact ⟨u, u', by rw [(bcell hW).1 _ _ hb]; exact hu, hs.up hW, by rw [(bcell hW).1 _ _ hb']; exact hu', hs'.up hW⟩
  have HL : Hid (∀ c, c < N → (row c).length ≤ 1000000000) := hl
  have hN' : (N : Int) ≤ 1000000000 := by omega
  clear h1 h2 g1 g2 hl
  go_enter Try.func10, Try.ntmps10
  go_wp2_with fail
  go_loopw [14] (fun v wr => ∃ k : Nat, k ≤ N ∧ v = .int .i64 k ∧ Below w.heap.size w wr) (fun v _ => N - (intOf v).toNat)
  case atStart => exact ⟨0, by omega, rfl, Below.refl _ _⟩
  case round =>
    rename World => wr
    obtain ⟨k, hk, rfl, hq⟩ := hrel
    have HQ : Hid (Below w.heap.size w wr) := hq
    clear hq
    by_cases hlt : k < N
    · have k0 : (0 : Int) ≤ (k : Int) := by omega
      have k1 : (k : Int) < (N : Int) := by omega
      have HA2 : Hid _ := fun W hW => HA.out W hW (by omega)
      obtain ⟨b, o, b', o', rfl, rfl, hc⟩ := HA.out wr HQ.out (by omega)
      have hlk := HL.out k hlt
      generalize hrow : row k = l at *
      obtain ⟨u, u', q1, s1, q2, s2⟩ := hc k hlt
      rw [hrow] at s1 s2
      obtain ⟨ua, uc, rfl, hu⟩ := s1.is
      obtain ⟨ua', uc', rfl, hu'⟩ := s2.is
      have HS : Hid (∀ W, Below wr.heap.size wr W → W.cell? ⟨b, o + k, none⟩ = some (.slice ua l.length uc) ∧ W.cell? ⟨b', o' + k, none⟩ = some (.slice ua' l.length uc')) := fun W hW => ⟨by rw [(bcell hW).1 _ _ (World.block_lt_of_cell? wr _ q1)]; exact q1, by rw [(bcell hW).1 _ _ (World.block_lt_of_cell? wr _ q2)]; exact q2⟩
      have HC : Hid (0 < l.length → ∃ p p', ua = some ⟨p, 0, none⟩ ∧ ua' = some ⟨p', 0, none⟩ ∧ ∀ W, Below wr.heap.size wr W → ∀ (j : Nat) x, l[j]? = some x → (W.cell? ⟨p, j * 2, none⟩ = some (.int .i64 x.1) ∧ W.cell? ⟨p, j * 2 + 1, none⟩ = some (.int .i64 x.2)) ∧ W.cell? ⟨p', j * 2, none⟩ = some (.int .i64 x.1) ∧ W.cell? ⟨p', j * 2 + 1, none⟩ = some (.int .i64 x.2)) := fun h0 => by
        obtain ⟨p, e, hp, hc⟩ := hu h0
        obtain ⟨p', e', hp', hc'⟩ := hu' h0
        refine ⟨p, p', e, e', fun W hW j x hx => ?_⟩
        rw [(bcell hW).1 _ _ hp, (bcell hW).1 _ _ hp, (bcell hW).1 _ _ hp', (bcell hW).1 _ _ hp']
        exact ⟨hc j x hx, hc' j x hx⟩
      obtain ⟨M, hM⟩ : ∃ M, l.length = M := ⟨_, rfl⟩
      rw [hM] at q1 q2 HS HC hlk
      have HM : Hid (l.length = M) := hM
      have hM' : (M : Int) ≤ 1000000000 := by omega
      clear hc s1 s2 hu hu' hrow hM HA2
      go_wp2_with fail
      go_quiet (fail)
      obtain ⟨q3, q4⟩ := HS.out (wr.drewN nq) ⟨rfl, rfl, rfl, Nat.le_refl _, fun _ _ => rfl⟩
      have HD : Hid (Below wr.heap.size wr (wr.drewN nq)) := ⟨rfl, rfl, rfl, Nat.le_refl _, fun _ _ => rfl⟩
      generalize wr.drewN nq = X at *
      clear q1 q2
      go_wp2_with fail
      clear q3 q4
      go_loopw [33] (fun v wz => ∃ j : Nat, j ≤ M ∧ v = .int .i64 j ∧ Below wr.heap.size wr wz) (fun v _ => M - (intOf v).toNat)
      case atStart => exact ⟨0, by omega, rfl, HD.out⟩
      case round =>
        rename World => wz
        obtain ⟨j, hj, rfl, hz⟩ := hrel
        have HZ : Hid (Below wr.heap.size wr wz) := hz
        clear hz HD
        by_cases hjm : j < M
        · have j0 : (0 : Int) ≤ (j : Int) := by omega
          have j1 : (j : Int) < (M : Int) := by omega
          obtain ⟨q5, q6⟩ := HS.out wz HZ.out
          obtain ⟨p, p', rfl, rfl, hx⟩ := HC.out (by omega)
          obtain ⟨x, hx2⟩ : ∃ x, l[j]? = some x := ⟨l[j]'(by rw [HM.out]; exact hjm), List.getElem?_eq_getElem _⟩
          obtain ⟨⟨t1, t2⟩, t3, t4⟩ := hx wz HZ.out j x hx2
          have HY : Hid (Below wr.heap.size wr wz) := HZ.out
          clear hx hx2 HZ
          obtain ⟨x1, x2⟩ := x
          go_wp2_with fail
          go_quiet (fail)
          have HD : Hid (Below wr.heap.size wr (wz.drewN nq)) := HY.out.trans ⟨rfl, rfl, rfl, Nat.le_refl _, fun _ _ => rfl⟩
          generalize wz.drewN nq = Y at *
          clear q5 q6 t1 t2 t3 t4 HY
          go_wp2_with fail
          go_roundw
          case rel => exact ⟨j + 1, by omega, by go_num, HD.out⟩
          case measure => simp [intOf]; omega
        · obtain rfl : j = M := by omega
          have j1 : ¬ (j : Int) < (j : Int) := by omega
          go_wp2_with fail
          go_roundw
          case rel => exact ⟨k + 1, by omega, by go_num, HQ.out.trans (HZ.out.mono HQ.out.size)⟩
          case measure => simp [intOf]; omega
    · obtain rfl : k = N := by omega
      have k1 : ¬ (k : Int) < (k : Int) := by omega
      go_wp2_with fail
      go_ret
      exact ⟨rfl, HQ.out⟩
end Go.Proofs.Ytnfnjhaaaenldaa.Ro
