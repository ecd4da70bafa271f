/- Both machines asked the same (the statement PipePlays): what is asked, how many cycles; more than is asked about. Conditions: words, table, state and asks lie in memory. -/
import Derived.Test.YtldfjlepbbmhnaaDoorZn
namespace Go.Proofs.YtldfjlepbbmhnaaDoor.Pp
open Go.ChangeShapes Go.WideShapes Go.ChangeAt Go.RowKit
open _root_.Go.Proofs.YtldfjlepbbmhnaaDoor.Op _root_.Go.Proofs.YtldfjlepbbmhnaaDoor.So _root_.Go.Proofs.YtldfjlepbbmhnaaDoor.Bu
open _root_.Go.Proofs.YtldfjlepbbmhnaaDoor.Tb (Tab TabAt Bnds)
set_option maxRecDepth 20000

/-- What is asked, in memory. -/
structure AL (W : World) (la : Option Addr) (l : List (Int × Int)) : Prop where
  is : 0 < l.length → ∃ b f, la = some ⟨b, f, none⟩ ∧ b < W.heap.size ∧ ∀ (i : Nat) (x : Int × Int), l[i]? = some x → W.cell? ⟨b, f + i * 2, none⟩ = some (.int .i64 x.1) ∧ W.cell? ⟨b, f + i * 2 + 1, none⟩ = some (.int .i64 x.2)
theorem AL.up {w W : World} {la : Option Addr} {l : List (Int × Int)} (h : AL w la l) (g : Below w.heap.size w W) : AL W la l := ⟨fun h0 => by
  obtain ⟨b, f, e, z, hc⟩ := h.is h0
  exact ⟨b, f, e, Nat.lt_of_lt_of_le z g.size, fun i x hx => by rw [((Fr.of (X := Non) g).cell z (fun e => e) _), ((Fr.of (X := Non) g).cell z (fun e => e) _)]; exact hc i x hx⟩⟩
def asN (x : Int × Int) : Int := min (max x.2 0) 5000
def smN (l : List (Int × Int)) (k : Nat) : Int := ((l.take k).map asN).sum
theorem smN_succ {l : List (Int × Int)} {k : Nat} {x : Int × Int} (h : l[k]? = some x) : smN l (k + 1) = smN l k + asN x := by
  unfold smN
  rw [take_at h, List.map_append, List.sum_append]
  simp
theorem asN_in (x : Int × Int) : 0 ≤ asN x ∧ asN x ≤ 5000 := by unfold asN; omega
theorem smN_in (l : List (Int × Int)) : ∀ k, 0 ≤ smN l k ∧ smN l k ≤ 5000 * k
  | 0 => ⟨by simp [smN], by simp [smN]⟩
  | k + 1 => by
    have h := smN_in l k
    cases hx : l[k]? with
    | none =>
      have e : smN l (k + 1) = smN l k := by
        unfold smN
        rw [List.take_add_one, hx]
        simp
      rw [e]
      omega
    | some x =>
      rw [smN_succ hx]
      have := asN_in x
      omega
theorem smN_le (l : List (Int × Int)) (k : Nat) : ∀ n, smN l k ≤ smN l (k + n)
  | 0 => Int.le_refl _
  | n + 1 => by
    refine Int.le_trans (smN_le l k n) ?_
    show smN l (k + n) ≤ smN l (k + n + 1)
    cases hx : l[k + n]? with
    | none =>
      have e : smN l (k + n + 1) = smN l (k + n) := by
        unfold smN
        rw [List.take_add_one, hx]
        simp
      rw [e]
      exact Int.le_refl _
    | some x =>
      rw [smN_succ hx]
      have := asN_in x
      omega
/-- Where the table and the state lie. -/
structure Sb (w W : World) (t : Tab) (ra ma : Option Addr) (rl rc ml mc : Nat) : Prop where
  p : TabAt W w.heap.size t
  s : At W (w.heap.size + 1) #[.slice ra rl rc, .slice ma ml mc]
  b : Below w.heap.size w W
theorem Sb.up {w W W' : World} {t : Tab} {ra ma : Option Addr} {rl rc ml mc : Nat} (h : Sb w W t ra ma rl rc ml mc) (hb : Below W.heap.size W W') : Sb w W' t ra ma rl rc ml mc := ⟨h.p.below hb h.p.lt, h.s.below hb h.s.lt, h.b.trans (hb.mono h.b.size)⟩
theorem Sb.start (w : World) (t : Tab) (ra ma : Option Addr) (rl rc ml mc : Nat) : Sb w ((w.alloc (.cells t.cells 25)).alloc (.cells #[.slice ra rl rc, .slice ma ml mc] 28)) t ra ma rl rc ml mc := by
  obtain ⟨-, a2, hb, -, -⟩ := two_new w t.cells #[.slice ra rl rc, .slice ma ml mc] 25 28 (Below.refl _ _)
  exact ⟨(Tb.tabAt_new w t 25).below (B := (w.alloc (.cells t.cells 25)).heap.size) ((Below.refl _ _).alloc (Nat.le_refl _) _) (by simp), a2, hb⟩
set_option maxHeartbeats 4000000 in
theorem plays_far0 (ao ra ma la : Option Addr) (n cap rl rc ml mc lc : Nat) (t : Tab) (l : List (Int × Int)) (w : World) (hG : Bnds w) (hl : AL w la l) (f0 : 16384 < n) : Calls Tryd.prog 3 #[.slice ao n cap, t.val, .agg #[.slice ra rl rc, .slice ma ml mc], .slice la l.length lc] w (Yes w) := by
  have HW : Hid (∀ V, Below w.heap.size w V → Calls Tryd.prog 7 #[] V fun e w' => e = .returned (.bool true) ∧ Below V.heap.size V w') := fun V hV => wakes_any V (hG.below hV hG.big)
  have HX0 : Hid (Sb w ((w.alloc (.cells t.cells 25)).alloc (.cells #[.slice ra rl rc, .slice ma ml mc] 28)) t ra ma rl rc ml mc) := Sb.start w t ra ma rl rc ml mc
  have HA : Hid (AL w la l) := hl
  clear hG hl
  unfold Tab.val
  go_enter Tryd.func3, Tryd.ntmps3
  go_upto_region 1 with fail
  generalize ((w.alloc (.cells t.cells 25)).alloc (.cells #[.slice ra rl rc, .slice ma ml mc] 28)) = X at *
  go_wp2_with fail
  go_loopw [9, 10] (fun c i wr => ∃ k : Nat, k ≤ l.length ∧ k ≤ 41 ∧ i = .int .i64 k ∧ c = .int .i64 (smN l k) ∧ Hid (Sb w wr t ra ma rl rc ml mc)) (fun _ i _ => 41 - (intOf i).toNat)
  case atStart => exact ⟨0, by omega, by omega, rfl, rfl, HX0⟩
  case round =>
    rename World => wr
    clear HX0
    obtain ⟨k, hk, hk1, rfl, rfl, HX⟩ := hrel
    by_cases hlt : k < l.length
    · by_cases h40 : k ≤ 40
      · have k0 : (0 : Int) ≤ (k : Int) := by omega
        have k1 : (k : Int) < (l.length : Int) := by omega
        have k2 : (k : Int) ≤ 40 := by omega
        obtain ⟨x, hx⟩ : ∃ x, l[k]? = some x := ⟨_, List.getElem?_eq_getElem hlt⟩
        obtain ⟨lb, lf, rfl, lz, hc⟩ := (HA.out.up HX.out.b).is (by omega)
        have c1 := (hc k x hx).2
        have HS : Hid (smN l (k + 1) = smN l k + asN x) := smN_succ hx
        have hsn := smN_in l k
        have han := asN_in x
        obtain ⟨m0, hm0⟩ : ∃ m0, max x.2 0 = m0 := ⟨_, rfl⟩
        have hm1 : min m0 5000 = asN x := by rw [← hm0]; rfl
        generalize smN l k = sk at *
        generalize asN x = ax at *
        have hw : IntKind.i64.wrap (sk + ax) = sk + ax := by rw [IntKind.wrap_i64]; omega
        clear hx hc
        go_wp2_with fail
        go_roundw
        case rel => exact ⟨k + 1, by omega, by omega, by go_num, by rw [HS.out], HX⟩
        case measure => simp [intOf]; omega
      · have k1 : (k : Int) < (l.length : Int) := by omega
        have k2 : ¬ (k : Int) ≤ 40 := by omega
        have hks : smN l k = smN l (min l.length 41) := by rw [show min l.length 41 = k by omega]
        rw [hks]
        clear hks
        generalize smN l (min l.length 41) = cs at *
        have g0 : 16384 < (n : Int) := by omega
        have s0 := HX.out.s.c 0 _ rfl
        have s1 := HX.out.s.c 1 _ rfl
        have sl := HX.out.s.lt
        clear hk hk1
        go_wp2_with (first | (go_at_call 7; refine Calls.mono (HW.out _ HX.out.b) ?_; rintro e w4 ⟨rfl, hb⟩; have HC4 : Hid (Below w.heap.size w w4) := HX.out.b.trans (hb.mono HX.out.b.size); clear hb))
        go_ret
        exact ⟨rfl, HC4.out⟩
    · have k1 : ¬ (k : Int) < (l.length : Int) := by omega
      have hks : smN l k = smN l (min l.length 41) := by rw [show min l.length 41 = k by omega]
      rw [hks]
      clear hks
      generalize smN l (min l.length 41) = cs at *
      have g0 : 16384 < (n : Int) := by omega
      have s0 := HX.out.s.c 0 _ rfl
      have s1 := HX.out.s.c 1 _ rfl
      have sl := HX.out.s.lt
      clear hk hk1
      go_wp2_with (first | (go_at_call 7; refine Calls.mono (HW.out _ HX.out.b) ?_; rintro e w4 ⟨rfl, hb⟩; have HC4 : Hid (Below w.heap.size w w4) := HX.out.b.trans (hb.mono HX.out.b.size); clear hb))
      go_ret
      exact ⟨rfl, HC4.out⟩
set_option maxHeartbeats 4000000 in
theorem plays_far1 (ao ra ma la : Option Addr) (n cap rl rc ml mc lc : Nat) (t : Tab) (l : List (Int × Int)) (w : World) (hG : Bnds w) (hl : AL w la l) (f0 : ¬ 16384 < n) (f1 : 40 < l.length) : Calls Tryd.prog 3 #[.slice ao n cap, t.val, .agg #[.slice ra rl rc, .slice ma ml mc], .slice la l.length lc] w (Yes w) := by
  have HW : Hid (∀ V, Below w.heap.size w V → Calls Tryd.prog 7 #[] V fun e w' => e = .returned (.bool true) ∧ Below V.heap.size V w') := fun V hV => wakes_any V (hG.below hV hG.big)
  have HX0 : Hid (Sb w ((w.alloc (.cells t.cells 25)).alloc (.cells #[.slice ra rl rc, .slice ma ml mc] 28)) t ra ma rl rc ml mc) := Sb.start w t ra ma rl rc ml mc
  have HA : Hid (AL w la l) := hl
  clear hG hl
  unfold Tab.val
  go_enter Tryd.func3, Tryd.ntmps3
  go_upto_region 1 with fail
  generalize ((w.alloc (.cells t.cells 25)).alloc (.cells #[.slice ra rl rc, .slice ma ml mc] 28)) = X at *
  go_wp2_with fail
  go_loopw [9, 10] (fun c i wr => ∃ k : Nat, k ≤ l.length ∧ k ≤ 41 ∧ i = .int .i64 k ∧ c = .int .i64 (smN l k) ∧ Hid (Sb w wr t ra ma rl rc ml mc)) (fun _ i _ => 41 - (intOf i).toNat)
  case atStart => exact ⟨0, by omega, by omega, rfl, rfl, HX0⟩
  case round =>
    rename World => wr
    clear HX0
    obtain ⟨k, hk, hk1, rfl, rfl, HX⟩ := hrel
    by_cases hlt : k < l.length
    · by_cases h40 : k ≤ 40
      · have k0 : (0 : Int) ≤ (k : Int) := by omega
        have k1 : (k : Int) < (l.length : Int) := by omega
        have k2 : (k : Int) ≤ 40 := by omega
        obtain ⟨x, hx⟩ : ∃ x, l[k]? = some x := ⟨_, List.getElem?_eq_getElem hlt⟩
        obtain ⟨lb, lf, rfl, lz, hc⟩ := (HA.out.up HX.out.b).is (by omega)
        have c1 := (hc k x hx).2
        have HS : Hid (smN l (k + 1) = smN l k + asN x) := smN_succ hx
        have hsn := smN_in l k
        have han := asN_in x
        obtain ⟨m0, hm0⟩ : ∃ m0, max x.2 0 = m0 := ⟨_, rfl⟩
        have hm1 : min m0 5000 = asN x := by rw [← hm0]; rfl
        generalize smN l k = sk at *
        generalize asN x = ax at *
        have hw : IntKind.i64.wrap (sk + ax) = sk + ax := by rw [IntKind.wrap_i64]; omega
        clear hx hc
        go_wp2_with fail
        go_roundw
        case rel => exact ⟨k + 1, by omega, by omega, by go_num, by rw [HS.out], HX⟩
        case measure => simp [intOf]; omega
      · have k1 : (k : Int) < (l.length : Int) := by omega
        have k2 : ¬ (k : Int) ≤ 40 := by omega
        have hks : smN l k = smN l (min l.length 41) := by rw [show min l.length 41 = k by omega]
        rw [hks]
        clear hks
        generalize smN l (min l.length 41) = cs at *
        have g0 : ¬ 16384 < (n : Int) := by omega
        have g1 : 40 < (l.length : Int) := by omega
        have s0 := HX.out.s.c 0 _ rfl
        have s1 := HX.out.s.c 1 _ rfl
        have sl := HX.out.s.lt
        clear hk hk1
        go_wp2_with (first | (go_at_call 7; refine Calls.mono (HW.out _ HX.out.b) ?_; rintro e w4 ⟨rfl, hb⟩; have HC4 : Hid (Below w.heap.size w w4) := HX.out.b.trans (hb.mono HX.out.b.size); clear hb))
        go_ret
        exact ⟨rfl, HC4.out⟩
    · have k1 : ¬ (k : Int) < (l.length : Int) := by omega
      have hks : smN l k = smN l (min l.length 41) := by rw [show min l.length 41 = k by omega]
      rw [hks]
      clear hks
      generalize smN l (min l.length 41) = cs at *
      have g0 : ¬ 16384 < (n : Int) := by omega
      have g1 : 40 < (l.length : Int) := by omega
      have s0 := HX.out.s.c 0 _ rfl
      have s1 := HX.out.s.c 1 _ rfl
      have sl := HX.out.s.lt
      clear hk hk1
      go_wp2_with (first | (go_at_call 7; refine Calls.mono (HW.out _ HX.out.b) ?_; rintro e w4 ⟨rfl, hb⟩; have HC4 : Hid (Below w.heap.size w w4) := HX.out.b.trans (hb.mono HX.out.b.size); clear hb))
      go_ret
      exact ⟨rfl, HC4.out⟩
set_option maxHeartbeats 4000000 in
theorem plays_far2 (ao ra ma la : Option Addr) (n cap rl rc ml mc lc : Nat) (t : Tab) (l : List (Int × Int)) (w : World) (hG : Bnds w) (hl : AL w la l) (f0 : ¬ 16384 < n) (f1 : ¬ 40 < l.length) (f2 : 2000 < smN l (min l.length 41)) : Calls Tryd.prog 3 #[.slice ao n cap, t.val, .agg #[.slice ra rl rc, .slice ma ml mc], .slice la l.length lc] w (Yes w) := by
  have HW : Hid (∀ V, Below w.heap.size w V → Calls Tryd.prog 7 #[] V fun e w' => e = .returned (.bool true) ∧ Below V.heap.size V w') := fun V hV => wakes_any V (hG.below hV hG.big)
  have HX0 : Hid (Sb w ((w.alloc (.cells t.cells 25)).alloc (.cells #[.slice ra rl rc, .slice ma ml mc] 28)) t ra ma rl rc ml mc) := Sb.start w t ra ma rl rc ml mc
  have HA : Hid (AL w la l) := hl
  clear hG hl
  unfold Tab.val
  go_enter Tryd.func3, Tryd.ntmps3
  go_upto_region 1 with fail
  generalize ((w.alloc (.cells t.cells 25)).alloc (.cells #[.slice ra rl rc, .slice ma ml mc] 28)) = X at *
  go_wp2_with fail
  go_loopw [9, 10] (fun c i wr => ∃ k : Nat, k ≤ l.length ∧ k ≤ 41 ∧ i = .int .i64 k ∧ c = .int .i64 (smN l k) ∧ Hid (Sb w wr t ra ma rl rc ml mc)) (fun _ i _ => 41 - (intOf i).toNat)
  case atStart => exact ⟨0, by omega, by omega, rfl, rfl, HX0⟩
  case round =>
    rename World => wr
    clear HX0
    obtain ⟨k, hk, hk1, rfl, rfl, HX⟩ := hrel
    by_cases hlt : k < l.length
    · by_cases h40 : k ≤ 40
      · have k0 : (0 : Int) ≤ (k : Int) := by omega
        have k1 : (k : Int) < (l.length : Int) := by omega
        have k2 : (k : Int) ≤ 40 := by omega
        obtain ⟨x, hx⟩ : ∃ x, l[k]? = some x := ⟨_, List.getElem?_eq_getElem hlt⟩
        obtain ⟨lb, lf, rfl, lz, hc⟩ := (HA.out.up HX.out.b).is (by omega)
        have c1 := (hc k x hx).2
        have HS : Hid (smN l (k + 1) = smN l k + asN x) := smN_succ hx
        have hsn := smN_in l k
        have han := asN_in x
        obtain ⟨m0, hm0⟩ : ∃ m0, max x.2 0 = m0 := ⟨_, rfl⟩
        have hm1 : min m0 5000 = asN x := by rw [← hm0]; rfl
        generalize smN l k = sk at *
        generalize asN x = ax at *
        have hw : IntKind.i64.wrap (sk + ax) = sk + ax := by rw [IntKind.wrap_i64]; omega
        clear hx hc
        go_wp2_with fail
        go_roundw
        case rel => exact ⟨k + 1, by omega, by omega, by go_num, by rw [HS.out], HX⟩
        case measure => simp [intOf]; omega
      · have k1 : (k : Int) < (l.length : Int) := by omega
        have k2 : ¬ (k : Int) ≤ 40 := by omega
        exact absurd hlt (by omega)
    · have k1 : ¬ (k : Int) < (l.length : Int) := by omega
      have hks : smN l k = smN l (min l.length 41) := by rw [show min l.length 41 = k by omega]
      rw [hks]
      clear hks
      generalize smN l (min l.length 41) = cs at *
      have g0 : ¬ 16384 < (n : Int) := by omega
      have g1 : ¬ 40 < (l.length : Int) := by omega
      have g2 : 2000 < cs := by omega
      have s0 := HX.out.s.c 0 _ rfl
      have s1 := HX.out.s.c 1 _ rfl
      have sl := HX.out.s.lt
      clear hk hk1
      go_wp2_with (first | (go_at_call 7; refine Calls.mono (HW.out _ HX.out.b) ?_; rintro e w4 ⟨rfl, hb⟩; have HC4 : Hid (Below w.heap.size w w4) := HX.out.b.trans (hb.mono HX.out.b.size); clear hb))
      go_ret
      exact ⟨rfl, HC4.out⟩
set_option maxHeartbeats 4000000 in
theorem plays_far3 (ao ra ma la : Option Addr) (n cap rl rc ml mc lc : Nat) (t : Tab) (l : List (Int × Int)) (w : World) (hG : Bnds w) (hl : AL w la l) (f0 : ¬ 16384 < n) (f1 : ¬ 40 < l.length) (f2 : ¬ 2000 < smN l (min l.length 41)) (f3 : 1000 < rl) : Calls Tryd.prog 3 #[.slice ao n cap, t.val, .agg #[.slice ra rl rc, .slice ma ml mc], .slice la l.length lc] w (Yes w) := by
  have HW : Hid (∀ V, Below w.heap.size w V → Calls Tryd.prog 7 #[] V fun e w' => e = .returned (.bool true) ∧ Below V.heap.size V w') := fun V hV => wakes_any V (hG.below hV hG.big)
  have HX0 : Hid (Sb w ((w.alloc (.cells t.cells 25)).alloc (.cells #[.slice ra rl rc, .slice ma ml mc] 28)) t ra ma rl rc ml mc) := Sb.start w t ra ma rl rc ml mc
  have HA : Hid (AL w la l) := hl
  clear hG hl
  unfold Tab.val
  go_enter Tryd.func3, Tryd.ntmps3
  go_upto_region 1 with fail
  generalize ((w.alloc (.cells t.cells 25)).alloc (.cells #[.slice ra rl rc, .slice ma ml mc] 28)) = X at *
  go_wp2_with fail
  go_loopw [9, 10] (fun c i wr => ∃ k : Nat, k ≤ l.length ∧ k ≤ 41 ∧ i = .int .i64 k ∧ c = .int .i64 (smN l k) ∧ Hid (Sb w wr t ra ma rl rc ml mc)) (fun _ i _ => 41 - (intOf i).toNat)
  case atStart => exact ⟨0, by omega, by omega, rfl, rfl, HX0⟩
  case round =>
    rename World => wr
    clear HX0
    obtain ⟨k, hk, hk1, rfl, rfl, HX⟩ := hrel
    by_cases hlt : k < l.length
    · by_cases h40 : k ≤ 40
      · have k0 : (0 : Int) ≤ (k : Int) := by omega
        have k1 : (k : Int) < (l.length : Int) := by omega
        have k2 : (k : Int) ≤ 40 := by omega
        obtain ⟨x, hx⟩ : ∃ x, l[k]? = some x := ⟨_, List.getElem?_eq_getElem hlt⟩
        obtain ⟨lb, lf, rfl, lz, hc⟩ := (HA.out.up HX.out.b).is (by omega)
        have c1 := (hc k x hx).2
        have HS : Hid (smN l (k + 1) = smN l k + asN x) := smN_succ hx
        have hsn := smN_in l k
        have han := asN_in x
        obtain ⟨m0, hm0⟩ : ∃ m0, max x.2 0 = m0 := ⟨_, rfl⟩
        have hm1 : min m0 5000 = asN x := by rw [← hm0]; rfl
        generalize smN l k = sk at *
        generalize asN x = ax at *
        have hw : IntKind.i64.wrap (sk + ax) = sk + ax := by rw [IntKind.wrap_i64]; omega
        clear hx hc
        go_wp2_with fail
        go_roundw
        case rel => exact ⟨k + 1, by omega, by omega, by go_num, by rw [HS.out], HX⟩
        case measure => simp [intOf]; omega
      · have k1 : (k : Int) < (l.length : Int) := by omega
        have k2 : ¬ (k : Int) ≤ 40 := by omega
        exact absurd hlt (by omega)
    · have k1 : ¬ (k : Int) < (l.length : Int) := by omega
      have hks : smN l k = smN l (min l.length 41) := by rw [show min l.length 41 = k by omega]
      rw [hks]
      clear hks
      generalize smN l (min l.length 41) = cs at *
      have g0 : ¬ 16384 < (n : Int) := by omega
      have g1 : ¬ 40 < (l.length : Int) := by omega
      have g2 : ¬ 2000 < cs := by omega
      have g3 : 1000 < (rl : Int) := by omega
      have s0 := HX.out.s.c 0 _ rfl
      have s1 := HX.out.s.c 1 _ rfl
      have sl := HX.out.s.lt
      clear hk hk1
      go_wp2_with (first | (go_at_call 7; refine Calls.mono (HW.out _ HX.out.b) ?_; rintro e w4 ⟨rfl, hb⟩; have HC4 : Hid (Below w.heap.size w w4) := HX.out.b.trans (hb.mono HX.out.b.size); clear hb))
      go_ret
      exact ⟨rfl, HC4.out⟩
set_option maxHeartbeats 4000000 in
theorem plays_far4 (ao ra ma la : Option Addr) (n cap rl rc ml mc lc : Nat) (t : Tab) (l : List (Int × Int)) (w : World) (hG : Bnds w) (hl : AL w la l) (f0 : ¬ 16384 < n) (f1 : ¬ 40 < l.length) (f2 : ¬ 2000 < smN l (min l.length 41)) (f3 : ¬ 1000 < rl) (f4 : 1000 < ml) : Calls Tryd.prog 3 #[.slice ao n cap, t.val, .agg #[.slice ra rl rc, .slice ma ml mc], .slice la l.length lc] w (Yes w) := by
  have HW : Hid (∀ V, Below w.heap.size w V → Calls Tryd.prog 7 #[] V fun e w' => e = .returned (.bool true) ∧ Below V.heap.size V w') := fun V hV => wakes_any V (hG.below hV hG.big)
  have HX0 : Hid (Sb w ((w.alloc (.cells t.cells 25)).alloc (.cells #[.slice ra rl rc, .slice ma ml mc] 28)) t ra ma rl rc ml mc) := Sb.start w t ra ma rl rc ml mc
  have HA : Hid (AL w la l) := hl
  clear hG hl
  unfold Tab.val
  go_enter Tryd.func3, Tryd.ntmps3
  go_upto_region 1 with fail
  generalize ((w.alloc (.cells t.cells 25)).alloc (.cells #[.slice ra rl rc, .slice ma ml mc] 28)) = X at *
  go_wp2_with fail
  go_loopw [9, 10] (fun c i wr => ∃ k : Nat, k ≤ l.length ∧ k ≤ 41 ∧ i = .int .i64 k ∧ c = .int .i64 (smN l k) ∧ Hid (Sb w wr t ra ma rl rc ml mc)) (fun _ i _ => 41 - (intOf i).toNat)
  case atStart => exact ⟨0, by omega, by omega, rfl, rfl, HX0⟩
  case round =>
    rename World => wr
    clear HX0
    obtain ⟨k, hk, hk1, rfl, rfl, HX⟩ := hrel
    by_cases hlt : k < l.length
    · by_cases h40 : k ≤ 40
      · have k0 : (0 : Int) ≤ (k : Int) := by omega
        have k1 : (k : Int) < (l.length : Int) := by omega
        have k2 : (k : Int) ≤ 40 := by omega
        obtain ⟨x, hx⟩ : ∃ x, l[k]? = some x := ⟨_, List.getElem?_eq_getElem hlt⟩
        obtain ⟨lb, lf, rfl, lz, hc⟩ := (HA.out.up HX.out.b).is (by omega)
        have c1 := (hc k x hx).2
        have HS : Hid (smN l (k + 1) = smN l k + asN x) := smN_succ hx
        have hsn := smN_in l k
        have han := asN_in x
        obtain ⟨m0, hm0⟩ : ∃ m0, max x.2 0 = m0 := ⟨_, rfl⟩
        have hm1 : min m0 5000 = asN x := by rw [← hm0]; rfl
        generalize smN l k = sk at *
        generalize asN x = ax at *
        have hw : IntKind.i64.wrap (sk + ax) = sk + ax := by rw [IntKind.wrap_i64]; omega
        clear hx hc
        go_wp2_with fail
        go_roundw
        case rel => exact ⟨k + 1, by omega, by omega, by go_num, by rw [HS.out], HX⟩
        case measure => simp [intOf]; omega
      · have k1 : (k : Int) < (l.length : Int) := by omega
        have k2 : ¬ (k : Int) ≤ 40 := by omega
        exact absurd hlt (by omega)
    · have k1 : ¬ (k : Int) < (l.length : Int) := by omega
      have hks : smN l k = smN l (min l.length 41) := by rw [show min l.length 41 = k by omega]
      rw [hks]
      clear hks
      generalize smN l (min l.length 41) = cs at *
      have g0 : ¬ 16384 < (n : Int) := by omega
      have g1 : ¬ 40 < (l.length : Int) := by omega
      have g2 : ¬ 2000 < cs := by omega
      have g3 : ¬ 1000 < (rl : Int) := by omega
      have g4 : 1000 < (ml : Int) := by omega
      have s0 := HX.out.s.c 0 _ rfl
      have s1 := HX.out.s.c 1 _ rfl
      have sl := HX.out.s.lt
      clear hk hk1
      go_wp2_with (first | (go_at_call 7; refine Calls.mono (HW.out _ HX.out.b) ?_; rintro e w4 ⟨rfl, hb⟩; have HC4 : Hid (Below w.heap.size w w4) := HX.out.b.trans (hb.mono HX.out.b.size); clear hb))
      go_ret
      exact ⟨rfl, HC4.out⟩
end Go.Proofs.YtldfjlepbbmhnaaDoor.Pp
