/- The document's numbers, registers, digits and kinds (Number, register, Digits, kind): read off the program by the walk. Conditions: the words are short enough to lie in memory. -/
import Derived.Test.YthfchelkfbboaaaGreatDoorLd
import Derived.Test.YthfchelkfbboaaaGreatDoorRo
import Derived.Deep.DeepCutAuto
namespace Go.Proofs.YthfchelkfbboaaaGreatDoor.Pr
open Go.ChangeShapes Go.WideShapes Go.ChangeAt Go.RowKit
open _root_.Go.Proofs.YthfchelkfbboaaaGreatDoor.Op
set_option maxRecDepth 20000

/-- The number that digits say so far. -/
def digN : List UInt8 → Nat → Option Nat
  | [], n => some n
  | b :: r, n => if b < 48 ∨ 57 < b then none else digN r (n * 10 + (b.toNat - 48))
/-- Digits without needless noughts, at most ten. -/
def bareB (d : List UInt8) : Bool := d.length == 0 || decide (10 < d.length) || (d.head? == some 48 && decide (1 < d.length))
/-- The document's number: its value and whether it is one. -/
def numD (s : List UInt8) (least most : Int) : Int × Bool :=
  let neg := s.head? == some 45
  let d := if neg then s.drop 1 else s
  if bareB d || (neg && d == [48]) then (0, false) else
  match digN d 0 with
  | none => (0, false)
  | some n => let v : Int := if neg then -(n : Int) else n; (v, decide (least ≤ v) && decide (v ≤ most))
theorem digN_step (d : List UInt8) (k acc : Nat) (hk : k < d.length) (h0 : 48 ≤ d[k].toNat) (h1 : d[k].toNat ≤ 57) : digN (d.drop k) acc = digN (d.drop (k + 1)) (acc * 10 + (d[k].toNat - 48)) := by
  rw [List.drop_eq_getElem_cons hk, digN, if_neg]
  rintro (h | h)
  · have := UInt8.lt_iff_toNat_lt.1 h; simp at this; omega
  · have := UInt8.lt_iff_toNat_lt.1 h; simp at this; omega
theorem digN_bad (d : List UInt8) (k acc : Nat) (hk : k < d.length) (h : d[k].toNat < 48 ∨ 57 < d[k].toNat) : digN (d.drop k) acc = none := by
  rw [List.drop_eq_getElem_cons hk, digN, if_pos]
  rcases h with h | h
  · left; exact UInt8.lt_iff_toNat_lt.2 (by simpa using h)
  · right; exact UInt8.lt_iff_toNat_lt.2 (by simpa using h)
theorem byte48 (b : UInt8) : (b.toNat : Int) = 48 ↔ b = 48 := by
  rw [← UInt8.toNat_inj]; simp; omega
theorem byte45 (b : UInt8) : (b.toNat : Int) = 45 ↔ b = 45 := by
  rw [← UInt8.toNat_inj]; simp; omega
theorem head_get (S : ByteArray) (h : 0 < S.size) : S.data.toList.head? = some S[0] := by
  rw [List.head?_eq_getElem?, List.getElem?_eq_getElem (show 0 < S.data.toList.length from h)]; rfl
theorem one48 (D : ByteArray) (h : D.size = 1) (h48 : D[0] = 48) : D = ⟨#[48]⟩ := by
  obtain ⟨⟨l⟩⟩ := D
  match l, h with
  | [a], _ => 
    have : a = 48 := h48
    rw [this]
theorem not48 (D : ByteArray) (h : 0 < D.size) (h48 : D[0] ≠ 48) : (D.data.toList == [48]) = false := by
  rw [beq_eq_false_iff_ne]
  intro e
  have h1 := head_get D h
  rw [e] at h1
  injection h1 with h1
  exact h48 h1.symm
/-- What the digits say, once they are not bare. -/
def valD (neg : Bool) (d : List UInt8) (least most : Int) : Int × Bool :=
  match digN d 0 with
  | none => (0, false)
  | some n => ((if neg then -(n : Int) else n), decide (least ≤ (if neg then -(n : Int) else n)) && decide ((if neg then -(n : Int) else n) ≤ most))

set_option maxHeartbeats 4000000 in
theorem number_pos (D : ByteArray) (least most : Int) (w : World) (V : Int × Bool) (h45 : ∀ h : 0 < D.size, D[0] ≠ 45) (hV : ∀ b, bareB D.data.toList = b → V = if b then (0, false) else valD false D.data.toList least most) (hs : D.size ≤ 65536) :
    Calls Tryz.prog 52 #[.string D, .int .i64 least, .int .i64 most] w fun e w' => e = .returned (.tuple #[.int .i64 V.1, .bool V.2]) ∧ w' = w := by
  have hbl : bareB D.data.toList = (D.size == 0 || decide (10 < D.size) || (D.data.toList.head? == some 48 && decide (1 < D.size))) := rfl
  by_cases hz : D.size = 0
  · have HV : Hid (V = (0, false)) := hV true (by rw [hbl, hz]; rfl)
    clear hV hbl h45
    go_enter Tryz.func52, Tryz.ntmps52
    go_wp2
    go_returns
    rw [HV.out]
    exact ⟨rfl, rfl⟩
  · have hpos : 0 < D.size := by omega
    have hh := head_get D hpos
    have hzI : ((D.size : Int) == 0) = false := by rw [beq_eq_false_iff_ne]; omega
    have h45i : ((D[0].toNat : Int) == 45) = false := by simpa using fun h => h45 hpos ((byte45 D[0]).1 h)
    by_cases h10 : 10 < D.size
    · have HV : Hid (V = (0, false)) := hV true (by rw [hbl, decide_eq_true h10]; simp)
      clear hV hbl h45 hh
      go_enter Tryz.func52, Tryz.ntmps52
      go_wp2
      go_returns
      rw [HV.out]
      exact ⟨rfl, rfl⟩
    · have h10I : decide ((10 : Int) < (D.size : Int)) = false := decide_eq_false (by omega)
      by_cases h48 : D[0] = 48
      · have h48i : ((D[0].toNat : Int) == 48) = true := by simpa using (byte48 D[0]).2 h48
        by_cases h1 : 1 < D.size
        · have h1I : decide ((1 : Int) < (D.size : Int)) = true := decide_eq_true (by omega)
          have HV : Hid (V = (0, false)) := hV true (by rw [hbl, hh, h48, decide_eq_true h1]; simp)
          clear hV hbl h45 hh h48
          go_enter Tryz.func52, Tryz.ntmps52
          go_wp2
          go_returns
          rw [HV.out]
          exact ⟨rfl, rfl⟩
        · have h1I : decide ((1 : Int) < (D.size : Int)) = false := decide_eq_false (by omega)
          have HV : Hid (V = valD false D.data.toList least most) := hV false (by rw [hbl, beq_eq_false_iff_ne.2 hz, decide_eq_false h1, decide_eq_false h10, Bool.and_false]; rfl)
          clear hV hbl h45 hh h48
          go_enter Tryz.func52, Tryz.ntmps52
          go_wp2
          go_loop [10, 11] (fun nv iv => ∃ k acc : Nat, k ≤ D.size ∧ nv = .int .i64 acc ∧ iv = .int .i64 k ∧ Hid (acc < 10 ^ k) ∧ Hid (digN (D.data.toList.drop k) acc = digN D.data.toList 0)) (fun _ iv => D.size - (intOf iv).toNat)
          case atStart => exact ⟨0, 0, by omega, rfl, rfl, (by decide : (0 : Nat) < 10 ^ 0), (rfl : _ = _)⟩
          case round =>
            obtain ⟨k, acc, hk, rfl, rfl, HA, HN⟩ := hrel
            have hacc : (acc : Int) ≤ 10000000000 := by
              have h1 := HA.out
              have h2 : 10 ^ k ≤ 10 ^ 10 := Nat.pow_le_pow_right (by decide) (by omega)
              omega
            by_cases hlt : k < D.size
            · by_cases hok : 48 ≤ D[k].toNat ∧ D[k].toNat ≤ 57
              · obtain ⟨h0, h1⟩ := hok
                have HN2 : Hid (digN (D.data.toList.drop (k + 1)) (acc * 10 + (D[k].toNat - 48)) = digN D.data.toList 0) := by
                  have h := HN.out
                  rw [digN_step D.data.toList k acc hlt h0 h1] at h
                  exact h
                have HA2 : Hid (acc * 10 + (D[k].toNat - 48) < 10 ^ (k + 1)) := by
                  have h := HA.out
                  show _ < _
                  rw [Nat.pow_succ]; omega
                have i0 : ¬ ((D[k].toNat : Int) < 48) := by omega
                have i1 : ¬ ((57 : Int) < (D[k].toNat : Int)) := by omega
                have e2 : ((acc * 10 + (D[k].toNat - 48) : Nat) : Int) = (acc : Int) * 10 + ((D[k].toNat : Int) - 48) := by omega
                generalize hq : acc * 10 + (D[k].toNat - 48) = q at *
                go_wp2
                go_round
                case rel => exact ⟨k + 1, q, by omega, by rw [e2], by go_num, HA2, HN2⟩
                case measure => simp [intOf]; omega
              · have HB : Hid (digN D.data.toList 0 = none) := by
                  have h := HN.out
                  rw [digN_bad D.data.toList k acc hlt (by show D[k].toNat < 48 ∨ 57 < D[k].toNat; omega)] at h
                  exact h.symm
                by_cases h0 : D[k].toNat < 48
                · have i0 : ((D[k].toNat : Int) < 48) := by omega
                  go_wp2
                  go_returns
                  rw [HV.out, valD, HB.out]
                  exact ⟨rfl, rfl⟩
                · have i0 : ¬ ((D[k].toNat : Int) < 48) := by omega
                  have i1 : (57 : Int) < (D[k].toNat : Int) := by omega
                  go_wp2
                  go_returns
                  rw [HV.out, valD, HB.out]
                  exact ⟨rfl, rfl⟩
            · obtain rfl : k = D.size := by omega
              have HB : Hid (digN D.data.toList 0 = some acc) := by
                have h := HN.out
                rw [show D.data.toList.drop D.size = [] from List.drop_eq_nil_of_le (Nat.le_refl _)] at h
                exact h.symm
              have HW : Hid (valD false D.data.toList least most = ((acc : Int), decide (least ≤ (acc : Int)) && decide ((acc : Int) ≤ most))) := by rw [show valD false D.data.toList least most = _ from rfl, valD, HB.out]; rfl
              by_cases g0 : least ≤ (acc : Int)
              · have g0d := decide_eq_true g0
                by_cases g1 : (acc : Int) ≤ most
                · have g1d := decide_eq_true g1
                  go_wp2
                  go_returns
                  rw [HV.out, HW.out, g0d, g1d]
                  exact ⟨rfl, rfl⟩
                · have g1d := decide_eq_false g1
                  go_wp2
                  go_returns
                  rw [HV.out, HW.out, g0d, g1d]
                  exact ⟨rfl, rfl⟩
              · have g0d := decide_eq_false g0
                go_wp2
                go_returns
                rw [HV.out, HW.out, g0d]
                exact ⟨rfl, rfl⟩
      · have h48i : ((D[0].toNat : Int) == 48) = false := by simpa using fun h => h48 ((byte48 D[0]).1 h)
        have HV : Hid (V = valD false D.data.toList least most) := hV false (by rw [hbl, hh, beq_eq_false_iff_ne.2 hz, decide_eq_false h10, show (some D[0] == some 48) = false by simp [h48], Bool.false_and]; rfl)
        clear hV hbl h45 hh h48
        go_enter Tryz.func52, Tryz.ntmps52
        go_wp2
        go_loop [10, 11] (fun nv iv => ∃ k acc : Nat, k ≤ D.size ∧ nv = .int .i64 acc ∧ iv = .int .i64 k ∧ Hid (acc < 10 ^ k) ∧ Hid (digN (D.data.toList.drop k) acc = digN D.data.toList 0)) (fun _ iv => D.size - (intOf iv).toNat)
        case atStart => exact ⟨0, 0, by omega, rfl, rfl, (by decide : (0 : Nat) < 10 ^ 0), (rfl : _ = _)⟩
        case round =>
          obtain ⟨k, acc, hk, rfl, rfl, HA, HN⟩ := hrel
          have hacc : (acc : Int) ≤ 10000000000 := by
            have h1 := HA.out
            have h2 : 10 ^ k ≤ 10 ^ 10 := Nat.pow_le_pow_right (by decide) (by omega)
            omega
          by_cases hlt : k < D.size
          · by_cases hok : 48 ≤ D[k].toNat ∧ D[k].toNat ≤ 57
            · obtain ⟨h0, h1⟩ := hok
              have HN2 : Hid (digN (D.data.toList.drop (k + 1)) (acc * 10 + (D[k].toNat - 48)) = digN D.data.toList 0) := by
                have h := HN.out
                rw [digN_step D.data.toList k acc hlt h0 h1] at h
                exact h
              have HA2 : Hid (acc * 10 + (D[k].toNat - 48) < 10 ^ (k + 1)) := by
                have h := HA.out
                show _ < _
                rw [Nat.pow_succ]; omega
              have i0 : ¬ ((D[k].toNat : Int) < 48) := by omega
              have i1 : ¬ ((57 : Int) < (D[k].toNat : Int)) := by omega
              have e2 : ((acc * 10 + (D[k].toNat - 48) : Nat) : Int) = (acc : Int) * 10 + ((D[k].toNat : Int) - 48) := by omega
              generalize hq : acc * 10 + (D[k].toNat - 48) = q at *
              go_wp2
              go_round
              case rel => exact ⟨k + 1, q, by omega, by rw [e2], by go_num, HA2, HN2⟩
              case measure => simp [intOf]; omega
            · have HB : Hid (digN D.data.toList 0 = none) := by
                have h := HN.out
                rw [digN_bad D.data.toList k acc hlt (by show D[k].toNat < 48 ∨ 57 < D[k].toNat; omega)] at h
                exact h.symm
              by_cases h0 : D[k].toNat < 48
              · have i0 : ((D[k].toNat : Int) < 48) := by omega
                go_wp2
                go_returns
                rw [HV.out, valD, HB.out]
                exact ⟨rfl, rfl⟩
              · have i0 : ¬ ((D[k].toNat : Int) < 48) := by omega
                have i1 : (57 : Int) < (D[k].toNat : Int) := by omega
                go_wp2
                go_returns
                rw [HV.out, valD, HB.out]
                exact ⟨rfl, rfl⟩
          · obtain rfl : k = D.size := by omega
            have HB : Hid (digN D.data.toList 0 = some acc) := by
              have h := HN.out
              rw [show D.data.toList.drop D.size = [] from List.drop_eq_nil_of_le (Nat.le_refl _)] at h
              exact h.symm
            have HW : Hid (valD false D.data.toList least most = ((acc : Int), decide (least ≤ (acc : Int)) && decide ((acc : Int) ≤ most))) := by rw [show valD false D.data.toList least most = _ from rfl, valD, HB.out]; rfl
            by_cases g0 : least ≤ (acc : Int)
            · have g0d := decide_eq_true g0
              by_cases g1 : (acc : Int) ≤ most
              · have g1d := decide_eq_true g1
                go_wp2
                go_returns
                rw [HV.out, HW.out, g0d, g1d]
                exact ⟨rfl, rfl⟩
              · have g1d := decide_eq_false g1
                go_wp2
                go_returns
                rw [HV.out, HW.out, g0d, g1d]
                exact ⟨rfl, rfl⟩
            · have g0d := decide_eq_false g0
              go_wp2
              go_returns
              rw [HV.out, HW.out, g0d]
              exact ⟨rfl, rfl⟩

set_option maxHeartbeats 4000000 in
theorem number_neg (S : ByteArray) (least most : Int) (w : World) (V : Int × Bool) (hp0 : 0 < S.size) (h45 : S[0] = 45) (hV : ∀ b, (bareB (S.extract 1 S.size).data.toList || (S.extract 1 S.size).data.toList == [48]) = b → V = if b then (0, false) else valD true (S.extract 1 S.size).data.toList least most) (hs : S.size ≤ 65536) :
    Calls Tryz.prog 52 #[.string S, .int .i64 least, .int .i64 most] w fun e w' => e = .returned (.tuple #[.int .i64 V.1, .bool V.2]) ∧ w' = w := by
  have h45i : ((S[0].toNat : Int) == 45) = true := by simpa using (byte45 S[0]).2 h45
  have hDs : (S.extract 1 S.size).size ≤ 65536 := by simp; omega
  clear h45
  go_enter Tryz.func52, Tryz.ntmps52
  go_upto_region 5 with (fail)
  generalize S.extract 1 S.size = D at *
  have hbl : bareB D.data.toList = (D.size == 0 || decide (10 < D.size) || (D.data.toList.head? == some 48 && decide (1 < D.size))) := rfl
  by_cases hz : D.size = 0
  · have HV : Hid (V = (0, false)) := hV true (by rw [hbl, hz]; rfl)
    clear hV hbl
    go_wp2
    go_returns
    rw [HV.out]
    exact ⟨rfl, rfl⟩
  · have hpos : 0 < D.size := by omega
    have hh := head_get D hpos
    have hzI : ((D.size : Int) == 0) = false := by rw [beq_eq_false_iff_ne]; omega
    by_cases h10 : 10 < D.size
    · have HV : Hid (V = (0, false)) := hV true (by rw [hbl, decide_eq_true h10]; simp)
      clear hV hbl hh
      go_wp2
      go_returns
      rw [HV.out]
      exact ⟨rfl, rfl⟩
    · have h10I : decide ((10 : Int) < (D.size : Int)) = false := decide_eq_false (by omega)
      by_cases h48 : D[0] = 48
      · have h48i : ((D[0].toNat : Int) == 48) = true := by simpa using (byte48 D[0]).2 h48
        by_cases h1 : 1 < D.size
        · have h1I : decide ((1 : Int) < (D.size : Int)) = true := decide_eq_true (by omega)
          have HV : Hid (V = (0, false)) := hV true (by rw [hbl, hh, h48, decide_eq_true h1]; simp)
          clear hV hbl hh h48
          go_wp2
          go_returns
          rw [HV.out]
          exact ⟨rfl, rfl⟩
        · have h1I : decide ((1 : Int) < (D.size : Int)) = false := decide_eq_false (by omega)
          have hD : D = ⟨#[48]⟩ := one48 D (by omega) h48
          have HV : Hid (V = (0, false)) := hV true (by rw [hD]; rfl)
          clear hV hbl hh h48
          subst hD
          go_wp2
          go_returns
          rw [HV.out]
          exact ⟨rfl, rfl⟩
      · have h48i : ((D[0].toNat : Int) == 48) = false := by simpa using fun h => h48 ((byte48 D[0]).1 h)
        have hne : (D.data.toList == [48]) = false := not48 D hpos h48
        have HV : Hid (V = valD true D.data.toList least most) := hV false (by rw [hbl, hh, beq_eq_false_iff_ne.2 hz, decide_eq_false h10, show (some D[0] == some 48) = false by simp [h48], Bool.false_and, hne]; rfl)
        have hne2 : (D.toList == [48]) = false := by rw [ByteArray.toList_eq]; exact hne
        clear hV hbl hh h48
        go_wp2
        go_loop [10, 11] (fun nv iv => ∃ k acc : Nat, k ≤ D.size ∧ nv = .int .i64 acc ∧ iv = .int .i64 k ∧ Hid (acc < 10 ^ k) ∧ Hid (digN (D.data.toList.drop k) acc = digN D.data.toList 0)) (fun _ iv => D.size - (intOf iv).toNat)
        case atStart => exact ⟨0, 0, by omega, rfl, rfl, (by decide : (0 : Nat) < 10 ^ 0), (rfl : _ = _)⟩
        case round =>
          obtain ⟨k, acc, hk, rfl, rfl, HA, HN⟩ := hrel
          have hacc : (acc : Int) ≤ 10000000000 := by
            have h1 := HA.out
            have h2 : 10 ^ k ≤ 10 ^ 10 := Nat.pow_le_pow_right (by decide) (by omega)
            omega
          by_cases hlt : k < D.size
          · by_cases hok : 48 ≤ D[k].toNat ∧ D[k].toNat ≤ 57
            · obtain ⟨h0, h1⟩ := hok
              have HN2 : Hid (digN (D.data.toList.drop (k + 1)) (acc * 10 + (D[k].toNat - 48)) = digN D.data.toList 0) := by
                have h := HN.out
                rw [digN_step D.data.toList k acc hlt h0 h1] at h
                exact h
              have HA2 : Hid (acc * 10 + (D[k].toNat - 48) < 10 ^ (k + 1)) := by
                have h := HA.out
                show _ < _
                rw [Nat.pow_succ]; omega
              have i0 : ¬ ((D[k].toNat : Int) < 48) := by omega
              have i1 : ¬ ((57 : Int) < (D[k].toNat : Int)) := by omega
              have e2 : ((acc * 10 + (D[k].toNat - 48) : Nat) : Int) = (acc : Int) * 10 + ((D[k].toNat : Int) - 48) := by omega
              generalize hq : acc * 10 + (D[k].toNat - 48) = q at *
              go_wp2
              go_round
              case rel => exact ⟨k + 1, q, by omega, by rw [e2], by go_num, HA2, HN2⟩
              case measure => simp [intOf]; omega
            · have HB : Hid (digN D.data.toList 0 = none) := by
                have h := HN.out
                rw [digN_bad D.data.toList k acc hlt (by show D[k].toNat < 48 ∨ 57 < D[k].toNat; omega)] at h
                exact h.symm
              by_cases h0 : D[k].toNat < 48
              · have i0 : ((D[k].toNat : Int) < 48) := by omega
                go_wp2
                go_returns
                rw [HV.out, valD, HB.out]
                exact ⟨rfl, rfl⟩
              · have i0 : ¬ ((D[k].toNat : Int) < 48) := by omega
                have i1 : (57 : Int) < (D[k].toNat : Int) := by omega
                go_wp2
                go_returns
                rw [HV.out, valD, HB.out]
                exact ⟨rfl, rfl⟩
          · obtain rfl : k = D.size := by omega
            have HB : Hid (digN D.data.toList 0 = some acc) := by
              have h := HN.out
              rw [show D.data.toList.drop D.size = [] from List.drop_eq_nil_of_le (Nat.le_refl _)] at h
              exact h.symm
            have HW : Hid (valD true D.data.toList least most = (-(acc : Int), decide (least ≤ -(acc : Int)) && decide (-(acc : Int) ≤ most))) := by rw [show valD true D.data.toList least most = _ from rfl, valD, HB.out]; rfl
            by_cases g0 : least ≤ -(acc : Int)
            · have g0d := decide_eq_true g0
              by_cases g1 : -(acc : Int) ≤ most
              · have g1d := decide_eq_true g1
                go_wp2
                go_returns
                rw [HV.out, HW.out, g0d, g1d]
                exact ⟨rfl, rfl⟩
              · have g1d := decide_eq_false g1
                go_wp2
                go_returns
                rw [HV.out, HW.out, g0d, g1d]
                exact ⟨rfl, rfl⟩
            · have g0d := decide_eq_false g0
              go_wp2
              go_returns
              rw [HV.out, HW.out, g0d]
              exact ⟨rfl, rfl⟩

theorem number_doc (s : ByteArray) (least most : Int) (w : World) (hs : s.size ≤ 65536) :
    Calls Tryz.prog 52 #[.string s, .int .i64 least, .int .i64 most] w fun e w' => e = .returned (.tuple #[.int .i64 (numD s.data.toList least most).1, .bool (numD s.data.toList least most).2]) ∧ w' = w := by
  by_cases h : ∃ h : 0 < s.size, s[0] = 45
  · obtain ⟨h0, h45⟩ := h
    have hh := head_get s h0
    have he : (s.extract 1 s.size).data.toList = s.data.toList.drop 1 := Lib.extract_to_end s 1
    refine number_neg s least most w _ h0 h45 (fun b hb => ?_) hs
    rw [he] at hb ⊢
    rw [numD, hh, h45]
    simp only [beq_self_eq_true, if_true, Bool.true_and]
    rw [hb]
    cases b
    · simp only [Bool.false_eq_true, if_false, valD, if_true]
    · rfl
  · refine number_pos s least most w _ (fun h0 h45 => h ⟨h0, h45⟩) (fun b hb => ?_) hs
    have hn : (s.data.toList.head? == some 45) = false := by
      rcases Nat.eq_zero_or_pos s.size with h0 | h0
      · rw [show s.data.toList = [] from List.eq_nil_of_length_eq_zero h0]; rfl
      · rw [head_get s h0]
        simp only [beq_eq_false_iff_ne, ne_eq, Option.some.injEq]
        exact fun e => h ⟨h0, e⟩
    rw [numD, hn]
    simp only [Bool.false_eq_true, if_false, Bool.false_and, Bool.or_false]
    rw [hb]
    cases b
    · simp only [Bool.false_eq_true, if_false, valD]
    · rfl
end Go.Proofs.YthfchelkfbboaaaGreatDoor.Pr
