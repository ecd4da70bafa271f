/- What the closure of package table that wants a number answers, and what it leaves, read off the program by the walk. Conditions: the word is not empty; its bounds and its place lie in memory. -/
import Derived.Test.YtgabnjiapkkjaaaGreatDoorCl
namespace Go.Proofs.YtgabnjiapkkjaaaGreatDoor.Tb
open Go.ChangeShapes Go.WideShapes Go.ChangeAt Go.RowKit

theorem parse10 : ∀ (l : List UInt8) (a : Nat), l.all digB = true → a < 18446744073709551616 → Lib.parseUint10 a l = if decA a l < 18446744073709551616 then .ok (decA a l) else .range
  | [], a, _, h => by simp [Lib.parseUint10, decA, h]
  | c :: r, a, hd, h => by
    simp only [List.all_cons, Bool.and_eq_true, digB, decide_eq_true_eq] at hd
    obtain ⟨⟨h1, h2⟩, hr⟩ := hd
    have hge := decA_ge r (a * 10 + (c.toNat - 48))
    have hdef : decA a (c :: r) = decA (a * 10 + (c.toNat - 48)) r := rfl
    rw [Lib.parseUint10, if_pos ⟨h1, h2⟩, hdef]
    by_cases h3 : 1844674407370955162 ≤ a
    · rw [if_pos h3, if_neg (by omega)]
    · rw [if_neg h3]
      by_cases h4 : 18446744073709551616 ≤ a * 10 + (c.toNat - 48)
      · rw [if_pos h4, if_neg (by omega)]
      · rw [if_neg h4]
        exact parse10 r _ hr (by omega)
theorem atoi_dec (l : List UInt8) (h0 : l ≠ []) (hd : l.all digB = true) : Lib.atoiAll l = if decV l < 9223372036854775808 then .ok (decV l : Int) else .range := by
  cases l with
  | nil => exact absurd rfl h0
  | cons c r =>
    have hc := hd
    simp only [List.all_cons, Bool.and_eq_true, digB, decide_eq_true_eq] at hc
    have n1 : ¬ (c.toNat = 43 ∨ c.toNat = 45) := by omega
    have n2 : ¬ c.toNat = 45 := by omega
    simp only [Lib.atoiAll, if_neg n1, Lib.parseMag, if_neg h0]
    rw [parse10 _ 0 hd (by omega)]
    show _ = if decA 0 (c :: r) < _ then _ else _
    by_cases h1 : decA 0 (c :: r) < 18446744073709551616
    · rw [if_pos h1]
      by_cases h2 : decA 0 (c :: r) < 9223372036854775808
      · rw [if_pos h2]; simp [n2, decV]; omega
      · rw [if_neg h2]; simp [n2]; omega
    · rw [if_neg h1, if_neg (by omega)]

set_option maxRecDepth 20000 in
theorem isNumber_any (l : List UInt8) (w : World) (hs : l.length ≤ 200000) :
    Calls Tryz.prog 72 #[.string ⟨l.toArray⟩] w fun e w' => e = .returned (.bool (isNumB l)) ∧ w' = w := by
  obtain ⟨s, hsd⟩ : ∃ s : ByteArray, s = ⟨l.toArray⟩ := ⟨_, rfl⟩
  have hsz : s.size ≤ 200000 := by rw [hsd]; exact hs
  have hll : l = s.data.toList := by rw [hsd]
  rw [← hsd]
  have HL : Hid (l = s.data.toList) := hll
  have hp := Tryz.strings_HasPrefix s ⟨#[48]⟩ w
  rw [show Lib.hasPrefix s.data.toList (⟨#[48]⟩ : ByteArray).data.toList = [48].isPrefixOf l from by rw [hll]; rfl] at hp
  have Hp : Hid _ := hp
  have hq : (s.toList == [48]) = (l == [48]) := by rw [ByteArray.toList_eq, hll]
  clear hsd hll hp
  go_enter Tryz.func72, Tryz.ntmps72
  go_wp2
  go_loop [6] (fun i => ∃ k : Nat, k ≤ s.size ∧ i = .int .i64 k ∧ Hid ((s.data.toList.take k).all digB = true)) (fun i => s.size - (intOf i).toNat)
  case atStart => exact ⟨0, by omega, rfl, (rfl : _ = _)⟩
  case round =>
    obtain ⟨k, hk, rfl, Hk⟩ := hrel
    by_cases hlt : k < s.size
    · have hx : (s[k].toNat : Int) < 256 := by have := s[k].toNat_lt; omega
      have hx0 : (0 : Int) ≤ (s[k].toNat : Int) := by omega
      have hno : digB s[k] = false → isNumB l = false := fun h => by
        have : l.all digB = false := by
          rw [HL.out, List.all_eq_false]
          exact ⟨s[k], by exact List.getElem_mem (l := s.data.toList) hlt, by simp [h]⟩
        simp [isNumB, this]
      by_cases h1 : (s[k].toNat : Int) < 48
      · have e : isNumB l = false := hno (by simp [digB]; omega)
        have E : Hid _ := e
        clear e hno
        go_wp2
        go_ret
        exact ⟨ret_bool E.out.symm, rfl⟩
      · by_cases h2 : 57 < (s[k].toNat : Int)
        · have e : isNumB l = false := hno (by simp [digB]; omega)
          have E : Hid _ := e
          clear e hno
          go_wp2
          go_ret
          exact ⟨ret_bool E.out.symm, rfl⟩
        · clear hno
          go_wp2
          go_round
          case rel => exact ⟨k + 1, by omega, by go_num, (by
            have hd : digB s[k] = true := by simp [digB]; omega
            rw [List.take_succ_eq_append_getElem (l := s.data.toList) hlt, List.all_append, Hk.out]
            simp only [List.all_cons, List.all_nil, Bool.and_true, Bool.true_and]
            exact hd : _ = _)⟩
          case measure => simp [intOf]; omega
    · have hall : l.all digB = true := by
        have h := Hk.out
        rw [List.take_of_length_le (by show s.size ≤ k; omega)] at h
        rw [HL.out]; exact h
      have hq' : (s.toList == [48]) = (l == [48]) := by rw [ByteArray.toList_eq, HL.out]
      by_cases h0 : l = [48]
      · have e : (s.toList == [48]) = true := by rw [hq']; simp [h0]
        have E : Hid (isNumB l = true) := by
          have : isNumB l = true := by rw [isNumB, hall, h0]; rfl
          exact this
        clear hall h0 hq hq' Hk HL
        go_wp2
        go_ret
        exact ⟨ret_bool E.out.symm, rfl⟩
      · have e : (s.toList == [48]) = false := by rw [hq']; simp [h0]
        have E : Hid (isNumB l = !([48].isPrefixOf l)) := by
          have e2 : (l == [48]) = false := by simp [h0]
          have : isNumB l = !([48].isPrefixOf l) := by rw [isNumB, hall, e2]; rfl
          exact this
        clear hall h0 hq hq' Hk HL
        generalize [48].isPrefixOf l = bb at *
        go_wp2_with (first | (go_at_call 86; refine Calls.mono Hp.out ?_; rintro e w' ⟨rfl, hw⟩; subst w'))
        go_ret
        exact ⟨ret_bool E.out.symm, rfl⟩

/-- What the closure answers: 60, no number; 20, out of its bounds; 0. -/
def numC (lo hi : Int) (l : List UInt8) : Int := if isNumB l then (if inB lo hi (decV l) then 0 else 20) else 60

theorem atoi_ok (l : List UInt8) (w : World) (h0 : l ≠ []) (hs : l.length ≤ 200000) (hd : l.all digB = true) (hv : decV l < 9223372036854775808) :
    Calls Tryz.prog 73 #[.string ⟨l.toArray⟩] w fun e w' => e = .returned (.tuple #[.int .i64 (decV l), .nilIface]) ∧ Below w.heap.size w w' := by
  refine (Tryz.strconv_Atoi_ok ⟨l.toArray⟩ (by show l.length ≤ _; omega) (decV l) (by show Lib.atoiAll l = _; rw [atoi_dec l h0 hd, if_pos hv]) w).mono ?_
  rintro e w' ⟨rfl, h⟩
  refine ⟨rfl, ?_⟩
  rcases h with rfl | ⟨t, rfl⟩
  · exact Below.refl _ _
  · exact Lib.bytesWorld_below _ _ _
theorem atoi_far (l : List UInt8) (w : World) (tp : TypeId) (p : Value) (h0 : l ≠ []) (hs : l.length ≤ 200000) (hd : l.all digB = true) (hv : ¬ decV l < 9223372036854775808) (hvar : w.var? Tryz.prog "strconv.ErrRange" = some #[.iface tp p]) :
    Calls Tryz.prog 73 #[.string ⟨l.toArray⟩] w fun e w' => (∃ n q, e = .returned (.tuple #[.int .i64 n, .iface 171 (.pointer (some q))])) ∧ Below w.heap.size w w' := by
  refine (Tryz.strconv_Atoi_range_var ⟨l.toArray⟩ (by show l.length ≤ _; omega) (by show Lib.atoiAll l = _; rw [atoi_dec l h0 hd, if_neg hv]) tp p w hvar).mono ?_
  rintro e w' ⟨N, rfl, _, _, hb⟩
  exact ⟨⟨_, _, rfl⟩, hb⟩
theorem isNum_digits {l : List UInt8} (h : isNumB l = true) : l.all digB = true := by
  rw [isNumB, Bool.and_eq_true] at h; exact h.1

theorem number_no (l : List UInt8) (cw ct : Nat) (w : World) (hs : l.length ≤ 200000) (hn : isNumB l = false) :
    Calls Tryz.prog 71 #[.string ⟨l.toArray⟩, .pointer (some ⟨cw, 0, none⟩), .pointer (some ⟨ct, 0, none⟩)] w fun e w' => e = .returned (.int .i64 60) ∧ w' = w := by
  have hc := isNumber_any l w hs
  rw [hn] at hc
  have Hc : Hid _ := hc
  clear hc hn
  go_enter Tryz.func71, Tryz.ntmps71
  go_wp2_with (first | (go_at_call 72; refine Calls.mono Hc.out ?_; rintro e w' ⟨rfl, hw⟩; subst w'))
  go_ret
  exact ⟨rfl, rfl⟩

set_option maxRecDepth 20000 in
theorem number_yes (l : List UInt8) (lo hi : Int) (cw ct : Nat) (p : Addr) (old : Value) (w : World) (h0 : l ≠ []) (hs : l.length ≤ 200000) (hn : isNumB l = true) (hb : inB lo hi (decV l) = true) (hhi : hi ≤ 1000)
    (c0 : w.cell? ⟨cw, 0, none⟩ = some (.int .i64 lo)) (c1 : w.cell? ⟨cw, 1, none⟩ = some (.int .i64 hi)) (c2 : w.cell? ⟨ct, 0, none⟩ = some (.pointer (some p))) (c3 : w.cell? p = some old) (c4 : w.frozen? p = false)
    (z1 : cw < w.heap.size) (z2 : ct < w.heap.size) (z3 : p.block < w.heap.size) :
    Calls Tryz.prog 71 #[.string ⟨l.toArray⟩, .pointer (some ⟨cw, 0, none⟩), .pointer (some ⟨ct, 0, none⟩)] w fun e w' => e = .returned (.int .i64 0) ∧ ∃ w1, Below w.heap.size w w1 ∧ w' = w1.setCell p (.int .i64 (decV l)) := by
  have hc := isNumber_any l w hs
  rw [hn] at hc
  have Hc : Hid _ := hc
  have hv := inB_iff hb
  have ha := atoi_ok l w h0 hs (isNum_digits hn) (by omega)
  have Ha : Hid _ := ha
  obtain ⟨v, hvd⟩ : ∃ v : Int, v = (decV l : Int) := ⟨_, rfl⟩
  rw [← hvd] at ha Ha hb ⊢
  clear hc ha hn hv hvd
  go_enter Tryz.func71, Tryz.ntmps71
  go_wp2_with (first
    | (go_at_call 72; refine Calls.mono Hc.out ?_; rintro e w' ⟨rfl, hw⟩; subst w')
    | (go_at_call 73; refine Calls.mono Ha.out ?_; rintro e w1 ⟨rfl, hb1⟩; have d0 := ((bcell hb1).1 cw 0 z1).trans c0; have d1 := ((bcell hb1).1 cw 1 z1).trans c1; have d2 := ((bcell hb1).1 ct 0 z2).trans c2; have d3 : w1.cell? p = some old := (hb1.cell z3).trans c3; have d4 : w1.frozen? p = false := (hb1.frozen z3).trans c4)
    | (go_at_call 22; refine (hold_any _ _ _ _).mono ?_; rintro e w2 ⟨rfl, hb2⟩; have hs2 := hb1.size; have f2 := ((bcell hb2).1 ct 0 (by omega)).trans d2; have f3 : w2.cell? p = some old := (hb2.cell (by omega)).trans d3; have f4 : w2.frozen? p = false := (hb2.frozen (by omega)).trans d4))
  go_ret
  exact ⟨rfl, w2, hb1.trans (hb2.mono hb1.size), rfl⟩

set_option maxRecDepth 20000 in
theorem number_far (l : List UInt8) (lo hi : Int) (cw ct : Nat) (tp : TypeId) (q : Value) (w : World) (h0 : l ≠ []) (hs : l.length ≤ 200000) (hn : isNumB l = true) (hb : inB lo hi (decV l) = false)
    (hvar : w.var? Tryz.prog "strconv.ErrRange" = some #[.iface tp q]) (c0 : w.cell? ⟨cw, 0, none⟩ = some (.int .i64 lo)) (c1 : w.cell? ⟨cw, 1, none⟩ = some (.int .i64 hi)) (z1 : cw < w.heap.size) :
    Calls Tryz.prog 71 #[.string ⟨l.toArray⟩, .pointer (some ⟨cw, 0, none⟩), .pointer (some ⟨ct, 0, none⟩)] w fun e w' => e = .returned (.int .i64 20) ∧ Below w.heap.size w w' := by
  have hc := isNumber_any l w hs
  rw [hn] at hc
  have Hc : Hid _ := hc
  by_cases hv : decV l < 9223372036854775808
  · have ha := atoi_ok l w h0 hs (isNum_digits hn) hv
    have Ha : Hid _ := ha
    obtain ⟨v, hvd⟩ : ∃ v : Int, v = (decV l : Int) := ⟨_, rfl⟩
    rw [← hvd] at ha Ha hb
    clear hc ha hn hv hvd hvar
    go_enter Tryz.func71, Tryz.ntmps71
    go_wp2_with (first
      | (go_at_call 72; refine Calls.mono Hc.out ?_; rintro e w' ⟨rfl, hw⟩; subst w')
      | (go_at_call 73; refine Calls.mono Ha.out ?_; rintro e w1 ⟨rfl, hb1⟩; have d0 := ((bcell hb1).1 cw 0 z1).trans c0; have d1 := ((bcell hb1).1 cw 1 z1).trans c1)
      | (go_at_call 22; refine (hold_any _ _ _ _).mono ?_; rintro e w2 ⟨rfl, hb2⟩))
    go_ret
    exact ⟨rfl, hb1.trans (hb2.mono hb1.size)⟩
  · have ha := atoi_far l w tp q h0 hs (isNum_digits hn) hv hvar
    have Ha : Hid _ := ha
    clear hc ha hn hv hvar
    go_enter Tryz.func71, Tryz.ntmps71
    go_wp2_with (first
      | (go_at_call 72; refine Calls.mono Hc.out ?_; rintro e w' ⟨rfl, hw⟩; subst w')
      | (go_at_call 73; refine Calls.mono Ha.out ?_; rintro e w1 ⟨⟨nn, qq, rfl⟩, hb1⟩))
    go_ret
    exact ⟨rfl, hb1⟩

end Go.Proofs.YtgabnjiapkkjaaaGreatDoor.Tb
