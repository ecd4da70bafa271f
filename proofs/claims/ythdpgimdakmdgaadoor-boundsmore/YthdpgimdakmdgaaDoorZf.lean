/- Package bounds: the least number of cycles that lets every way back be in time (leastOf, byRounds), read off the program by the walk. Conditions: the dependences lie in memory. -/
import Derived.Test.YthdpgimdakmdgaaDoorZe
namespace Go.Proofs.YthdpgimdakmdgaaDoor.Bn
open Go.ChangeShapes Go.WideShapes Go.ChangeAt Go.RowKit
open _root_.Go.Proofs.YthdpgimdakmdgaaDoor.Op _root_.Go.Proofs.YthdpgimdakmdgaaDoor.So
open _root_.Go.Proofs.YthdpgimdakmdgaaDoor.Dp (Ed)
set_option maxRecDepth 20000

/-- What the search rests on. -/
structure Srch (P : Int → Bool) : Prop where
  top : P 512 = true
  up : ∀ q p, 1 ≤ q → q ≤ p → p ≤ 512 → P q = true → P p = true
set_option maxHeartbeats 4000000 in
theorem leastOf_any (P : Int → Bool) (hP : Srch P) (x y : Value) (w : World) (hC : ∀ W (q : Int), Below w.heap.size w W → 1 ≤ q → q ≤ 512 → Calls Tryd.prog 34 #[.int .i64 q, x, y] W fun e w' => e = .returned (.bool (P q)) ∧ Below W.heap.size W w') :
    Calls Tryd.prog 33 #[.int .i64 1, .int .i64 512, .func (.func 34) #[] #[x, y]] w fun e w' => e = .returned (.int .i64 (rnd P)) ∧ Below w.heap.size w w' := by
  have HC : Hid (∀ W (q : Int), Below w.heap.size w W → 1 ≤ q → q ≤ 512 → Calls Tryd.prog 34 #[.int .i64 q, x, y] W fun e w' => e = .returned (.bool (P q)) ∧ Below W.heap.size W w') := hC
  have HP : Hid (Srch P) := hP
  clear hC hP
  go_enter Tryd.func33, Tryd.ntmps33
  go_wp2_with fail
  go_loopw [0, 1] (fun u v wr => ∃ l h : Int, 1 ≤ l ∧ l ≤ h ∧ h ≤ 512 ∧ u = .int .i64 l ∧ v = .int .i64 h ∧ P h = true ∧ (∀ m, 1 ≤ m → m < l → P m = false) ∧ Below w.heap.size w wr) (fun u v _ => (intOf v - intOf u).toNat)
  case atStart => exact ⟨1, 512, by omega, by omega, by omega, rfl, rfl, HP.out.top, fun m h1 h2 => by omega, Below.refl _ _⟩
  case round =>
    rename World => wr
    obtain ⟨l, h, h1, h2, h3, rfl, rfl, h4, h5, h6⟩ := hrel
    have HI : Hid (P h = true ∧ (∀ m, 1 ≤ m → m < l → P m = false) ∧ Below w.heap.size w wr) := ⟨h4, h5, h6⟩
    clear h4 h5 h6
    by_cases hlt : l < h
    · obtain ⟨m, hm⟩ : ∃ m, l + (h - l) / 2 = m := ⟨_, rfl⟩
      have m1 : l ≤ m := by omega
      have m2 : m < h := by omega
      have ht : (h - l).tdiv 2 = (h - l) / 2 := Int.tdiv_eq_ediv_of_nonneg (by omega)
      have HCm : Hid (Calls Tryd.prog 34 #[.int .i64 m, x, y] wr fun e w' => e = .returned (.bool (P m)) ∧ Below wr.heap.size wr w') := HC.out wr m HI.out.2.2 (by omega) (by omega)
      cases hPm : P m
      · have HL : Hid (∀ k, 1 ≤ k → k < m + 1 → P k = false) := fun k k1 k2 => by
          cases e : P k
          · rfl
          · rw [HP.out.up k m k1 (by omega) (by omega) e] at hPm; cases hPm
        rw [hPm] at HCm
        clear hPm
        go_wp2_with (first
          | (rw [ht, hm]; go_at_call 34; refine Calls.mono HCm.out ?_; rintro e w1 ⟨rfl, hb⟩; have HB : Hid (Below w.heap.size w w1) := HI.out.2.2.trans (hb.mono HI.out.2.2.size); clear hb HCm)
          | (go_at_call 34; refine Calls.mono HCm.out ?_; rintro e w1 ⟨rfl, hb⟩; have HB : Hid (Below w.heap.size w w1) := HI.out.2.2.trans (hb.mono HI.out.2.2.size); clear hb HCm))
        go_roundw
        case rel => exact ⟨m + 1, h, by omega, by omega, by omega, rfl, rfl, HI.out.1, HL.out, HB.out⟩
        case measure => simp [intOf]; omega
      · have HT : Hid (P m = true) := hPm
        rw [hPm] at HCm
        clear hPm
        go_wp2_with (first
          | (rw [ht, hm]; go_at_call 34; refine Calls.mono HCm.out ?_; rintro e w1 ⟨rfl, hb⟩; have HB : Hid (Below w.heap.size w w1) := HI.out.2.2.trans (hb.mono HI.out.2.2.size); clear hb HCm)
          | (go_at_call 34; refine Calls.mono HCm.out ?_; rintro e w1 ⟨rfl, hb⟩; have HB : Hid (Below w.heap.size w w1) := HI.out.2.2.trans (hb.mono HI.out.2.2.size); clear hb HCm))
        go_roundw
        case rel => exact ⟨l, m, by omega, by omega, by omega, rfl, rfl, HT.out, HI.out.2.1, HB.out⟩
        case measure => simp [intOf]; omega
    · obtain rfl : l = h := by omega
      have hlt' : ¬ l < l := by omega
      have HR : Hid (l = rnd P) := rnd_uniq HP.out.top HI.out.1 h1 HI.out.2.1
      go_wp2_with fail
      go_ret
      exact ⟨by rw [← HR.out]; rfl, HI.out.2.2⟩
set_option maxHeartbeats 2000000 in
theorem clo_any (n : Nat) (a : Option Addr) (c N b1 b2 : Nat) (q : Int) (P : Bool) (w : World) (h1 : w.cell? ⟨b1, 0, none⟩ = some (.int .i64 n)) (h2 : w.cell? ⟨b2, 0, none⟩ = some (.slice a N c)) (hC : Calls Tryd.prog 35 #[.int .i64 n, .slice a N c, .int .i64 q] w fun e w' => e = .returned (.bool P) ∧ Below w.heap.size w w') :
    Calls Tryd.prog 34 #[.int .i64 q, .pointer (some ⟨b1, 0, none⟩), .pointer (some ⟨b2, 0, none⟩)] w fun e w' => e = .returned (.bool P) ∧ Below w.heap.size w w' := by
  have HC : Hid (Calls Tryd.prog 35 #[.int .i64 n, .slice a N c, .int .i64 q] w fun e w' => e = .returned (.bool P) ∧ Below w.heap.size w w') := hC
  clear hC
  go_enter Tryd.func34, Tryd.ntmps34
  go_wp2_with (first
    | (go_at_call 35; refine Calls.mono HC.out ?_; rintro e w1 ⟨rfl, hb⟩; have HB : Hid (Below w.heap.size w w1) := hb; clear hb HC))
  go_ret
  exact ⟨rfl, HB.out⟩
/-- In how many cycles every way back is in time. -/
def rndE (n : Nat) (es : List Ed) : Int := rnd fun q => inT (stp q es) n
theorem srch_of {n : Nat} {es : List Ed} (hE : EL n es) (hn : n ≤ 41) : Srch fun q => inT (stp q es) n :=
  ⟨(inT_iff hE hn (by omega) (by omega)).2 (pot_big hE (by omega) (by omega)), fun q p h1 h2 h3 h => (inT_iff hE hn (by omega) h3).2 (pot_mono hE h2 ((inT_iff hE hn (by omega) (by omega)).1 h))⟩
theorem fit_of {n : Nat} {es : List Ed} (hE : EL n es) (hn : n ≤ 41) {q : Int} (h0 : 0 ≤ q) (h1 : q ≤ 512) : Fit n (stp q es) := fun k hk i j => by
  have := fw_sm hE h0 h1 (k := k) (by omega) i j
  omega
set_option maxHeartbeats 2000000 in
theorem byRounds_any (n : Nat) (hn : n ≤ 64) (a : Option Addr) (c N : Nat) (es : List Ed) (hN : es.length = N) (w : World) (he : Es w a es) (hE : EL n es) (hl : N ≤ 100000000) (hP : Srch fun q => inT (stp q es) n) (hF : ∀ q : Int, 0 ≤ q → q ≤ 512 → Fit n (stp q es)) :
    Calls Tryd.prog 19 #[.int .i64 n, .slice a N c] w fun e w' => e = .returned (.int .i64 (rndE n es)) ∧ Below w.heap.size w w' := by
  have HL : Hid (∀ W, Below (w.heap.size + 1 + 1) ((w.alloc (.cells #[.int .i64 n] 3)).alloc (.cells #[.slice a N c] 35)) W → Calls Tryd.prog 33 #[.int .i64 1, .int .i64 512, .func (.func 34) #[] #[.pointer (some ⟨w.heap.size, 0, none⟩), .pointer (some ⟨w.heap.size + 1, 0, none⟩)]] W fun e w' => e = .returned (.int .i64 (rndE n es)) ∧ Below W.heap.size W w') := fun W hb => by
    have hz := hb.size
    simp at hz
    have a1 := ((At.new w #[.int .i64 n] 3).alloc (.cells #[.slice a N c] 35)).below hb (by omega)
    have a2 := At.new (w.alloc (.cells #[.int .i64 n] 3)) #[.slice a N c] 35
    rw [show (w.alloc (.cells #[.int .i64 n] 3)).heap.size = w.heap.size + 1 by simp] at a2
    have a2 := a2.below hb (by omega)
    have hw : Below w.heap.size w W := Below.trans (by go_grown) (hb.mono (by omega))
    refine leastOf_any _ hP _ _ W fun X q hX h1 h2 => ?_
    refine clo_any n a c N _ _ q _ X ((a1.below hX a1.lt).c 0 _ rfl) ((a2.below hX a2.lt).c 0 _ rfl) ?_
    exact inTime_any n hn a c N es hN q X ((he.up hw).up hX) hE (by omega) h2 hl (hF q (by omega) h2)
  clear he hE hl hP hF
  generalize rndE n es = r at *
  go_enter Tryd.func19, Tryd.ntmps19
  go_wp2_with (first
    | (go_at_call 33; refine Calls.mono (HL.out _ (Below.refl _ _)) ?_; rintro e w1 ⟨rfl, hb⟩; have HB : Hid (Below w.heap.size w w1) := Below.trans (by go_grown) (hb.mono (by simp; omega)); clear hb HL))
  go_ret
  exact ⟨rfl, HB.out⟩
end Go.Proofs.YthdpgimdakmdgaaDoor.Bn
