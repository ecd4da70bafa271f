/- What is taken out of flight (take), whether a turn is made (turns), read off the program by the walk. Conditions: the machine lies in memory. -/
import Derived.Test.YtldfjlepbbmhnaaDoorQd
namespace Go.Proofs.YtldfjlepbbmhnaaDoor.Pp
open Go.ChangeShapes Go.WideShapes Go.ChangeAt Go.RowKit
open _root_.Go.Proofs.YtldfjlepbbmhnaaDoor.Op _root_.Go.Proofs.YtldfjlepbbmhnaaDoor.So _root_.Go.Proofs.YtldfjlepbbmhnaaDoor.Bu
open _root_.Go.Proofs.YtldfjlepbbmhnaaDoor.Tb (Tab TabAt Bnds)
set_option maxRecDepth 20000

section
variable {W : World} {t : Tab} {bs : List Bn} {H : Hx} {S : PM}
theorem row_cut {V : World} {ao : Option Addr} {n c : Nat} {xs : List Value} (h : V.ownsRow 0 118 3 (.slice ao n c) n xs) : V.ownsRow 0 118 3 (.slice ao 0 c) 0 [] := by
  obtain ⟨-, ⟨h1, h2⟩ | ⟨g, cap, cur, h1, h2, h3, h4, h5, h6, h7⟩⟩ := h
  · injection h1 with a b c
    subst a b c
    exact ⟨rfl, .inl ⟨rfl, rfl⟩⟩
  · injection h1 with a b c
    subst a c
    exact ⟨rfl, .inr ⟨g, _, cur, rfl, h2, h3, Nat.zero_le _, h5, h6, by simp⟩⟩
set_option maxHeartbeats 2000000 in
theorem take_any (ao : Option Addr) (c : Nat) (h : Mch W t bs H S) (hs : S.s ≤ 1000000000000) (hrv : H.rv (S.s % 8) = .slice ao (S.f (S.s % 8)).length c) : Calls Tryd.prog 79 #[.pointer (some ⟨H.mb, 304, none⟩), .int .i64 (S.s : Int)] W fun e w' => e = .returned (.slice ao (S.f (S.s % 8)).length c) ∧ w' = W.setCell ⟨H.mb, 304 + S.s % 8, none⟩ (.slice ao 0 c) := by
  have hk : S.s % 8 < 8 := Nat.mod_lt _ (by decide)
  have e1 : Int.tmod (S.s : Int) 8 = ((S.s % 8 : Nat) : Int) := by rw [Int.tmod_eq_emod_of_nonneg (by omega)]; omega
  have f0 := h.c.f (S.s % 8) hk
  have fz := h.c.fz
  have fl := h.c.lt
  have hn : ao = none → (S.f (S.s % 8)).length = 0 ∧ c = 0 := fun e => by
    have ho := h.rr (S.s % 8) hk
    rw [hrv, e] at ho
    obtain ⟨-, ⟨h1, h2⟩ | ⟨g, cap, cur, h1, -⟩⟩ := ho
    · injection h1 with _ _ h1; exact ⟨h2, h1⟩
    · injection h1 with h1; cases h1
  rw [hrv] at f0
  have hlc : (S.f (S.s % 8)).length ≤ c := by
    have ho := h.rr (S.s % 8) hk
    rw [hrv] at ho
    obtain ⟨-, ⟨h1, h2⟩ | ⟨g, cap, cur, h1, -, -, h4, -⟩⟩ := ho
    · injection h1; omega
    · injection h1 with _ _ h1; omega
  clear h hrv
  generalize (S.f (S.s % 8)).length = len at *
  generalize S.s % 8 = k at *
  have k0 : (0 : Int) ≤ (k : Int) := by omega
  have k8 : (k : Int) < 8 := by omega
  generalize H.mb = q at *
  cases ao with
  | none =>
    obtain ⟨rfl, rfl⟩ := hn rfl
    clear hn
    go_enter Tryd.func79, Tryd.ntmps79
    go_wp2_with fail
    go_ret
    exact ⟨rfl, rfl⟩
  | some a =>
    clear hn
    go_enter Tryd.func79, Tryd.ntmps79
    go_wp2_with fail
    go_ret
    exact ⟨rfl, rfl⟩
theorem takeF_eq (S : PM) : takeF S = { S with f := fun j => if j = S.s % 8 then [] else S.f j } := rfl
/-- What lands is no more in flight. -/
theorem Mch.taken {ao : Option Addr} {c : Nat} (h : Mch W t bs H S) (hrv : H.rv (S.s % 8) = .slice ao (S.f (S.s % 8)).length c) : Mch (W.setCell ⟨H.mb, 304 + S.s % 8, none⟩ (.slice ao 0 c)) t bs (setRv H (S.s % 8) (.slice ao 0 c)) (takeF S) ∧ Tn W H (W.setCell ⟨H.mb, 304 + S.s % 8, none⟩ (.slice ao 0 c)) (setRv H (S.s % 8) (.slice ao 0 c)) := by
  have hk : S.s % 8 < 8 := Nat.mod_lt _ (by decide)
  have ho := h.rr (S.s % 8) hk
  rw [hrv] at ho
  have hh := h.row (W' := W) hk (v' := .slice ao 0 c) (l := []) ⟨rfl, rfl, rfl, Nat.le_refl _, fun _ _ _ => rfl⟩ (row_cut ho) (.inl (by rw [hrv]; cases ao <;> rfl))
  exact ⟨hh.2.1, hh.2.2⟩
/-- What lands, cell by cell, while only other blocks turn. -/
theorem Mch.lands {ao : Option Addr} {c : Nat} (h : Mch W t bs H S) (hrv : H.rv (S.s % 8) = .slice ao (S.f (S.s % 8)).length c) : 0 < (S.f (S.s % 8)).length → ∃ g, ao = some ⟨g, 0, none⟩ ∧ g < W.heap.size ∧ g ≠ H.mb ∧ ∀ j u, (fcells (S.f (S.s % 8)))[j]? = some u → W.cell? ⟨g, j, none⟩ = some u := by
  intro h0
  have hk : S.s % 8 < 8 := Nat.mod_lt _ (by decide)
  have ho := h.rr (S.s % 8) hk
  have hd := h.d3 (S.s % 8) hk
  rw [hrv] at ho hd
  obtain ⟨h1, ⟨-, h3⟩ | ⟨g, cap, cur, h2, -, h4, -, -, -, h8⟩⟩ := id ho
  · omega
  · injection h2 with h2
    subst h2
    refine ⟨g, rfl, (ho.lt g rfl).2, fun e => hd (by rw [← e]; rfl), fun j u hu => ?_⟩
    rw [cell_of_row W g j cur 118 (0, 0) h4]
    have hj : j < (S.f (S.s % 8)).length * 3 := by
      have := (List.getElem?_eq_some_iff.1 hu).1
      omega
    rw [← h8, List.getElem?_take, if_pos hj, Array.getElem?_toList] at hu
    exact hu
set_option maxHeartbeats 2000000 in
theorem turns_any (o : O) {L : Nat} (h : Mch W t bs H S) (hS : S.Ok L) (ho : OkM o) (h3 : o.op = 19 ∨ o.op = 22 ∨ o.op = 23) : Calls Tryd.prog 83 #[ptr H.mb, o.val] W fun e w' => e = .returned (.bool (trnB S o)) ∧ Mch w' t bs H (trnM S o) ∧ Tn W H w' H := by
  have h0 := ho.ok.a0
  have h1 := ho.regs.2.1
  have hr := h.c.r o.a.toNat (by omega)
  have hc := h.c.c
  have hq := h.c.lt
  have fz := h.c.fz
  have HM : Hid (∀ V, Below W.heap.size W V → Mch V t bs H S ∧ Tn W H V H) := fun V hV => ⟨h.up hV, Tn.of hV⟩
  by_cases g1 : o.op = 19
  · have e : trnB S o = (S.r o.a.toNat != 0) := by unfold trnB; rw [if_pos g1, Bool.eq_iff_iff]; simp
    have e2 : trnM S o = S := by unfold trnM; rw [if_pos g1]
    rw [e, e2]
    clear e e2 h hS ho h3
    generalize S.r o.a.toNat = v at *
    go_enter Tryd.func83, Tryd.ntmps83
    go_wp2_with fail
    go_quiet (fail)
    go_wp2_with fail
    go_ret
    refine ⟨rfl, HM.out _ ?_⟩
    exact drewN_below (by go_grown) _
  by_cases g2 : o.op = 22
  · have e : trnB S o = decide (S.r o.a.toNat < o.b) := by unfold trnB; rw [if_neg g1, if_pos g2]
    have e2 : trnM S o = S := by unfold trnM; rw [if_neg g1, if_pos g2]
    have b0 := ho.ok.b0
    have b1 := ho.ok.b1
    rw [e, e2]
    clear e e2 h hS ho h3 g1
    generalize S.r o.a.toNat = v at *
    go_enter Tryd.func83, Tryd.ntmps83
    go_wp2_with fail
    go_quiet (fail)
    go_wp2_with fail
    go_ret
    refine ⟨rfl, HM.out _ ?_⟩
    exact drewN_below (by go_grown) _
  · have g3 : o.op = 23 := by omega
    have e : trnB S o = decide (0 < S.c - min S.c 1) := by unfold trnB; rw [if_neg g1, if_neg g2]
    have e2 : trnM S o = decM S := by unfold trnM; rw [if_neg g1, if_neg g2]
    have c0 := hS.c0
    have c1 := hS.c1
    have HT : Hid (∀ x, x = S.c - min S.c 1 → Mch (W.setCell ⟨H.mb, 303, none⟩ (.int .u64 x)) t bs H (decM S) ∧ Tn W H (W.setCell ⟨H.mb, 303, none⟩ (.int .u64 x)) H) := fun x hx => by
      subst hx
      exact h.one (h.c.setC (S.c - min S.c 1)) ((Fr.refl (One H.mb) _).setCell (.inr rfl) _ _) rfl rfl
    have HU : Hid (∀ V V', (Mch V t bs H (decM S) ∧ Tn W H V H) → Below V.heap.size V V' → Mch V' t bs H (decM S) ∧ Tn W H V' H) := fun V V' h1 h2 => ⟨h1.1.up h2, h1.2.up h2⟩
    rw [e, e2]
    have hb1 : (o.op == 19) = false := by simpa using g1
    have hb2 : (o.op == 22) = false := by simpa using g2
    clear e e2 hS ho h3 g1 g2 g3 hr h
    by_cases hc1 : S.c ≤ 1
    · have hm : S.c - min S.c 1 = 0 := by omega
      have hd : decide (0 < S.c - min S.c 1) = false := by rw [hm]; rfl
      rw [hd]
      have HT0 : Hid _ := HT.out 0 hm.symm
      clear hm hd
      go_enter Tryd.func83, Tryd.ntmps83
      go_upto_region 6 with fail
      go_region
      all_goals
        go_wp2_with fail
        go_ret
        exact ⟨rfl, HU.out _ _ HT0.out (((Below.refl _ _).alloc (Nat.le_refl _) _).drew)⟩
    · have hm : S.c - min S.c 1 = S.c - 1 := by omega
      have hd : decide (0 < S.c - min S.c 1) = true := by rw [hm]; exact decide_eq_true (by omega)
      rw [hd]
      have HT0 : Hid _ := HT.out (S.c - 1) hm.symm
      have hc2 : 1 < S.c := by omega
      clear hm hd
      go_enter Tryd.func83, Tryd.ntmps83
      go_upto_region 6 with fail
      go_region
      all_goals
        go_wp2_with fail
        go_ret
        exact ⟨rfl, HU.out _ _ HT0.out (((Below.refl _ _).alloc (Nat.le_refl _) _).drew)⟩
end
end Go.Proofs.YtldfjlepbbmhnaaDoor.Pp
