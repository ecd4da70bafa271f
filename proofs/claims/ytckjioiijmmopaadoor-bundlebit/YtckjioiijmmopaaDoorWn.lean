/- What BundleBit answers: true. Conditions: bundles and the table's bounds lie in memory. -/
import Derived.Test.YtckjioiijmmopaaDoorWl
namespace Go.Proofs.YtckjioiijmmopaaDoor.Bu
open Go.ChangeShapes Go.WideShapes Go.ChangeAt Go.RowKit
open _root_.Go.Proofs.YtckjioiijmmopaaDoor.Op
open _root_.Go.Proofs.YtckjioiijmmopaaDoor.Tb (Tab TabAt Bnds four tabAt_new ckR)
open _root_.Go.Proofs.YtckjioiijmmopaaDoor.So
set_option maxRecDepth 20000

theorem xor_bit (x : Int) (k : Nat) (hk : k < 64) (x0 : 0 ≤ x) (x1 : x < 18446744073709551616) : ∃ y : Int, bits BinOp.xor IntKind.u64 x (IntKind.u64.wrap (2 ^ k)) = y ∧ 0 ≤ y ∧ y < 18446744073709551616 ∧ y ≠ x := by
  obtain ⟨X, rfl⟩ := Int.eq_ofNat_of_zero_le x0
  have hp : 2 ^ k < 18446744073709551616 := Nat.pow_lt_pow_right (by decide) hk (m := k) (n := 64)
  rw [pow_wrap k hk, u64_xor_nat X (2 ^ k) (by omega) hp]
  refine ⟨_, rfl, by omega, ?_, ?_⟩
  · have : X ^^^ 2 ^ k < 2 ^ 64 := Nat.xor_lt_two_pow (by omega) hp
    omega
  · intro e
    have e : X ^^^ 2 ^ k = X := by omega
    have h1 : (X ^^^ 2 ^ k).testBit k = X.testBit k := by rw [e]
    rw [Nat.testBit_xor, Nat.testBit_two_pow_self] at h1
    cases h : X.testBit k <;> rw [h] at h1 <;> cases h1
def tv (ws : List Int) (a : Nat) (y : Int) : Nat → Int := fun j => if j = a then y else ws.getD j 0
theorem bit_no {t : Tab} {ls : List Bn} {a : Nat} {y : Int} (hN : a < ls.length * ofs t 4) (h0 : ∀ j, j < ls.length * ofs t 4 → 0 ≤ tv (encW t ls) a y j) (hy : y ≠ (encW t ls).getD a 0) (hd : deB t (tv (encW t ls) a y) ls.length = true) : ¬ sameL (deL t (tv (encW t ls) a y) ls.length) ls := by
  intro hs
  have h1 := de_just hd h0
  rw [encW_same hs] at h1
  have key : ∀ (l : List Int) (v : Nat → Int) (n : Nat), l = (List.range n).map v → a < n → l.getD a 0 = v a := fun l v n e h => by rw [e]; simp [List.getD_eq_getElem?_getD, h]
  have h2 := key _ _ _ h1 hN
  apply hy
  rw [h2]
  unfold tv
  rw [if_pos rfl]
/-- Words of which one was turned. -/
theorem Wl.turned {W : World} {b n a : Nat} {ws : List Int} {y : Int} (h : Wl W b n ws) (hok : ∀ y ∈ ws, 0 ≤ y ∧ y < 18446744073709551616) (ha : a < n) (y0 : 0 ≤ y) (y1 : y < 18446744073709551616) : Ws (W.setCell ⟨b, a, none⟩ (.int .u64 y)) (some ⟨b, 0, none⟩) n (tv ws a y) := by
  have hs := h.ws hok
  refine ⟨fun j hj => ?_, fun _ => ⟨b, 0, rfl, by simpa using h.lt, fun j hj => ?_⟩⟩
  · unfold tv
    split
    · exact ⟨y0, y1⟩
    · exact hs.ok j hj
  · rw [Nat.zero_add, cell_set _ _ ⟨_, h.c a ha⟩]
    unfold tv
    split
    · rfl
    · exact h.c j hj
theorem tm_in (a : Int) (n : Nat) (hn : 0 < n) : ∃ k : Nat, (a.tmod n + n).tmod n = (k : Int) ∧ k < n ∧ -(n : Int) < a.tmod n ∧ a.tmod n < n := by
  have h1 : a.tmod n < n := Int.tmod_lt_of_pos a (by omega)
  have h2 : -(n : Int) < a.tmod n := by
    have := Int.tmod_lt_of_pos (-a) (show (0 : Int) < n by omega)
    rw [Int.neg_tmod] at this
    omega
  have h3 := Int.tmod_nonneg (n : Int) (show 0 ≤ a.tmod n + n by omega)
  have h4 : (a.tmod n + n).tmod n < n := Int.tmod_lt_of_pos _ (by omega)
  exact ⟨((a.tmod n + n).tmod n).toNat, by omega, by omega, h2, h1⟩
set_option maxHeartbeats 2000000 in
theorem law_bit (ao : Option Addr) (cap : Nat) (ls : List Bn) (t : Tab) (at' bit : Int) (w : World) (hx : BsAt w ao ls) (hG : Bnds w) :
    Calls Tryd.prog 6 #[.slice ao ls.length cap, t.val, .int .i64 at', .int .i64 bit] w fun e w' => e = .returned (.bool true) ∧ Below w.heap.size w w' := by
  have HK : Hid (∀ W, Below w.heap.size w W → Calls Tryd.prog 15 #[] W fun e w' => e = .returned (.bool true) ∧ Below W.heap.size W w') := fun W hb => wakes_any W (hG.below hb hG.big)
  by_cases he : enE t ls = 0
  · have HE : Hid (∀ W, Below w.heap.size w W → Calls Tryd.prog 7 #[.slice ao ls.length cap, t.val] W fun e w' => ∃ b, e = .returned (.tuple #[.slice (some ⟨b, 0, none⟩) (ls.length * ofs t 4) (ls.length * ofs t 4), .int .i64 0]) ∧ Wl w' b (ls.length * ofs t 4) (encW t ls) ∧ W.heap.size ≤ b ∧ Below W.heap.size W w') := fun W hb => enc_yes ao cap ls t W (hx.below hb) (hG.below hb hG.big) he
    obtain ⟨h1, h2, h3⟩ := enE_ok he
    have h32 := ofs_le h1
    have HOk : Hid (∀ y ∈ encW t ls, 0 ≤ y ∧ y < 18446744073709551616) := enc_in (bs_ok hx) h3
    by_cases hN0 : ls.length * ofs t 4 = 0
    · rw [hN0] at HE
      clear hN0 h32 h1 h2 h3 he hG hx
      unfold Tab.val at *
      go_enter Tryd.func6, Tryd.ntmps6
      go_wp2_with (first
        | (go_at_call 7; refine Calls.mono (HE.out _ (by go_grown)) ?_; rintro e w1 ⟨b, rfl, -, -, hb⟩; have HS1 : Hid (TabAt w1 w.heap.size t ∧ Below w.heap.size w w1) := ⟨(tabAt_new w t 26).below hb (by simp), (by go_grown : Below w.heap.size w (w.alloc (.cells t.cells 26))).trans (hb.mono (by simp))⟩; clear hb)
        | (go_at_call 15; refine Calls.mono (HK.out _ HS1.out.2) ?_; rintro e w9 ⟨rfl, hb9⟩; have HS9 : Hid (Below w.heap.size w w9) := HS1.out.2.trans (hb9.mono HS1.out.2.size); clear hb9))
      go_ret
      exact ⟨rfl, HS9.out⟩
    · have hwp : 0 < ofs t 4 := Nat.pos_of_ne_zero fun e => hN0 (by rw [e, Nat.mul_zero])
      have hNb : ls.length * ofs t 4 ≤ 2097152 := Nat.mul_le_mul h2 h32
      have hdiv : ls.length * ofs t 4 / ofs t 4 = ls.length := Nat.mul_div_cancel _ hwp
      have hdE : ∀ v, deE t v (ls.length * ofs t 4) = if deB t v ls.length then 0 else 210 := fun v => by
        unfold deE
        rw [h1, hdiv, Nat.mul_mod_left, if_pos rfl, if_pos rfl, if_neg (by omega)]
      have HDy : Hid (∀ b v W, Below w.heap.size w W → Ws W (some ⟨b, 0, none⟩) (ls.length * ofs t 4) v → deB t v ls.length = true → Calls Tryd.prog 9 #[.slice (some ⟨b, 0, none⟩) (ls.length * ofs t 4) (ls.length * ofs t 4), t.val] W fun e w' => ∃ b, e = .returned (.tuple #[.slice (some ⟨b, 0, none⟩) ls.length ls.length, .int .i64 0]) ∧ BsAt w' (some ⟨b, 0, none⟩) (deL t v ls.length) ∧ Below W.heap.size W w') := fun b v W hb hl hd => by
        have := dec_yes (some ⟨b, 0, none⟩) (ls.length * ofs t 4) (ls.length * ofs t 4) v t W hl (Nat.le_refl _) (hG.below hb hG.big) (by omega) (by rw [hdE, hd]; rfl)
        rw [hdiv] at this
        exact this
      have HDn : Hid (∀ b v W, Below w.heap.size w W → Ws W (some ⟨b, 0, none⟩) (ls.length * ofs t 4) v → deB t v ls.length = false → Calls Tryd.prog 9 #[.slice (some ⟨b, 0, none⟩) (ls.length * ofs t 4) (ls.length * ofs t 4), t.val] W fun e w' => e = .returned (.tuple #[.slice none 0 0, .int .i64 210]) ∧ Below W.heap.size W w') := fun b v W hb hl hd => by
        have := dec_no (some ⟨b, 0, none⟩) (ls.length * ofs t 4) (ls.length * ofs t 4) v t W hl (Nat.le_refl _) (hG.below hb hG.big) (by omega) (by rw [hdE, hd]; decide)
        rw [hdE, hd] at this
        exact this
      have HSa : Hid (∀ b v W, Below w.heap.size w W → BsAt W (some ⟨b, 0, none⟩) (deL t v ls.length) → ¬ sameL (deL t v ls.length) ls → Calls Tryd.prog 14 #[.slice (some ⟨b, 0, none⟩) ls.length ls.length, .slice ao ls.length cap] W fun e w' => e = .returned (.bool false) ∧ Below W.heap.size W w') := fun b v W hb hB hs => by
        have := same_any (some ⟨b, 0, none⟩) ao ls.length cap (deL t v ls.length) ls false W hB (hx.below hb) ⟨fun h => (by cases h), fun h => absurd h hs⟩
        rw [deL_len] at this
        exact this
      have HBn : Hid (∀ a y, a < ls.length * ofs t 4 → 0 ≤ y → y ≠ (encW t ls).getD a 0 → deB t (tv (encW t ls) a y) ls.length = true → ¬ sameL (deL t (tv (encW t ls) a y) ls.length) ls) := fun a y ha hy0 hy hd => bit_no ha (fun j hj => by
        unfold tv
        split
        · exact hy0
        · rw [List.getD_eq_getElem?_getD]
          cases e : (encW t ls)[j]? with
          | none => simp
          | some z => exact (HOk.out z (List.mem_of_getElem? e)).1) hy hd
      clear hdE hdiv h1 h2 h3 he hG hx hwp h32
      generalize ls.length * ofs t 4 = NN at *
      have hN1 : ((NN : Int) == 0) = false := by simp; omega
      have hN2 : ¬ (NN : Int) = 0 := by omega
      have hNi : (NN : Int) ≤ 2097152 := by omega
      have hNp : (0 : Int) < (NN : Int) := by omega
      obtain ⟨AT, t1, t2, t3, t4⟩ := tm_in at' NN (by omega)
      obtain ⟨SH, s1, s2, s3, s4⟩ := tm_in bit 64 (by decide)
      unfold Tab.val at *
      go_enter Tryd.func6, Tryd.ntmps6
      go_upto_region 4 with (first
        | (go_at_call 7; refine Calls.mono (HE.out _ (by go_grown)) ?_; rintro e w1 ⟨b, rfl, hwl, hge, hb⟩; have HS1 : Hid (TabAt w1 w.heap.size t ∧ Below w.heap.size w w1 ∧ Wl w1 b NN (encW t ls) ∧ w.heap.size < b) := ⟨(tabAt_new w t 26).below hb (by simp), (by go_grown : Below w.heap.size w (w.alloc (.cells t.cells 26))).trans (hb.mono (by simp)), hwl, (by have := hge; simp at this; omega)⟩; clear hb hwl hge HE))
      go_upto_region 5 with fail
      have s1' : (bit.tmod 64 + 64).tmod 64 = (SH : Int) := s1
      have s3' : -64 < bit.tmod 64 := s3
      have s4' : bit.tmod 64 < 64 := s4
      clear s1 s3 s4
      have sh0 : (0 : Int) ≤ (SH : Int) := by omega
      have sh1 : (SH : Int) < 64 := by omega
      have at0 : (0 : Int) ≤ (AT : Int) := by omega
      have at1 : (AT : Int) < (NN : Int) := by omega
      have hcc := HS1.out.2.2.1.c AT t2
      have hff := HS1.out.2.2.1.f AT
      have hll := HS1.out.2.2.1.lt
      have hxx := (HS1.out.2.2.1.ws HOk.out).ok AT t2
      obtain ⟨x0, x1⟩ := hxx
      obtain ⟨Y, y1, y2, y3, y4⟩ := xor_bit ((encW t ls).getD AT 0) SH s2 x0 x1
      have HY : Hid (Y ≠ (encW t ls).getD AT 0 ∧ 0 ≤ Y ∧ Y < 18446744073709551616) := ⟨y4, y2, y3⟩
      clear y2 y3 y4
      obtain ⟨X, hX⟩ : ∃ X, (encW t ls).getD AT 0 = X := ⟨_, rfl⟩
      rw [hX] at hcc x0 x1 y1
      clear hX
      go_upto_region 6 with fail
      have HS2 : Hid (TabAt (w1.setCell ⟨b, AT, none⟩ (.int .u64 Y)) w.heap.size t ∧ Below w.heap.size w (w1.setCell ⟨b, AT, none⟩ (.int .u64 Y)) ∧ Ws (w1.setCell ⟨b, AT, none⟩ (.int .u64 Y)) (some ⟨b, 0, none⟩) NN (tv (encW t ls) AT Y)) := ⟨HS1.out.1.below ((Below.refl b w1).setCell (Nat.le_refl _) _) HS1.out.2.2.2, HS1.out.2.1.setCell (Nat.le_of_lt HS1.out.2.2.2) _, HS1.out.2.2.1.turned HOk.out t2 HY.out.2.1 HY.out.2.2⟩
      generalize (w1.setCell ⟨b, AT, none⟩ (.int .u64 Y)) = W2 at *
      clear hcc hff hll x0 x1 y1 s1' s3' s4' HS1 t1 t3 t4
      have HBn2 : Hid (deB t (tv (encW t ls) AT Y) ls.length = true → ¬ sameL (deL t (tv (encW t ls) AT Y) ls.length) ls) := fun hd => HBn.out AT Y t2 HY.out.2.1 HY.out.1 hd
      clear HBn HY HOk
      generalize tv (encW t ls) AT Y = v at *
      have k2 := HS2.out.1; have qu0 := k2.cu 0 (by decide); have qu1 := k2.cu 1 (by decide); have qu2 := k2.cu 2 (by decide); have qu3 := k2.cu 3 (by decide); have ql0 := k2.cl 0 (by decide); have ql1 := k2.cl 1 (by decide); have ql2 := k2.cl 2 (by decide); have ql3 := k2.cl 3 (by decide); have qb0 := k2.cb 0 (by decide); have qb1 := k2.cb 1 (by decide); have qb2 := k2.cb 2 (by decide); have qb3 := k2.cb 3 (by decide); have qd := k2.cd; have qz := k2.lt; clear k2
      cases hd : deB t v ls.length
      · have HD2 : Hid _ := HDn.out b v W2 HS2.out.2.1 HS2.out.2.2 hd
        clear HDn HDy HBn2 HSa hd
        go_wp2_with (first
          | (go_at_call 9; refine Calls.mono HD2.out ?_; rintro e w3 ⟨rfl, hb⟩; have HS3 : Hid (Below w.heap.size w w3) := HS2.out.2.1.trans (hb.mono HS2.out.2.1.size); clear hb)
          | (go_at_call 15; refine Calls.mono (HK.out _ HS3.out) ?_; rintro e w9 ⟨rfl, hb9⟩; have HS9 : Hid (Below w.heap.size w w9) := HS3.out.trans (hb9.mono HS3.out.size); clear hb9))
        go_ret
        exact ⟨rfl, HS9.out⟩
      · have HD2 : Hid _ := HDy.out b v W2 HS2.out.2.1 HS2.out.2.2 hd
        have HNs : Hid _ := HBn2.out hd
        clear HDn HDy HBn2 hd
        go_wp2_with (first
          | (go_at_call 9; refine Calls.mono HD2.out ?_; rintro e w3 ⟨b3, rfl, hB, hb⟩; have HS3 : Hid (Below w.heap.size w w3 ∧ BsAt w3 (some ⟨b3, 0, none⟩) (deL t v ls.length)) := ⟨HS2.out.2.1.trans (hb.mono HS2.out.2.1.size), hB⟩; clear hb hB)
          | (go_at_call 14; refine Calls.mono (HSa.out b3 v w3 HS3.out.1 HS3.out.2 HNs.out) ?_; rintro e w4 ⟨rfl, hb⟩; have HS4 : Hid (Below w.heap.size w w4) := HS3.out.1.trans (hb.mono HS3.out.1.size); clear hb)
          | (go_at_call 15; refine Calls.mono (HK.out _ HS4.out) ?_; rintro e w9 ⟨rfl, hb9⟩; have HS9 : Hid (Below w.heap.size w w9) := HS4.out.trans (hb9.mono HS4.out.size); clear hb9))
        go_ret
        exact ⟨rfl, HS9.out⟩
  · have HE : Hid (∀ W, Below w.heap.size w W → Calls Tryd.prog 7 #[.slice ao ls.length cap, t.val] W fun e w' => e = .returned (.tuple #[.slice none 0 0, .int .i64 (enE t ls)]) ∧ Below W.heap.size W w') := fun W hb => enc_no ao cap ls t W (hx.below hb) (hG.below hb hG.big) he
    have he' : (enE t ls != 0) = true := by simpa using he
    have hi := enE_in t ls
    obtain ⟨i0, i1⟩ := hi
    clear he hG hx
    generalize enE t ls = er at *
    unfold Tab.val at *
    go_enter Tryd.func6, Tryd.ntmps6
    go_wp2_with (first
      | (go_at_call 7; refine Calls.mono (HE.out _ (by go_grown)) ?_; rintro e w1 ⟨rfl, hb⟩; have HS1 : Hid (TabAt w1 w.heap.size t ∧ Below w.heap.size w w1) := ⟨(tabAt_new w t 26).below hb (by simp), (by go_grown : Below w.heap.size w (w.alloc (.cells t.cells 26))).trans (hb.mono (by simp))⟩; clear hb)
      | (go_at_call 15; refine Calls.mono (HK.out _ HS1.out.2) ?_; rintro e w9 ⟨rfl, hb9⟩; have HS9 : Hid (Below w.heap.size w w9) := HS1.out.2.trans (hb9.mono HS1.out.2.size); clear hb9))
    go_ret
    exact ⟨rfl, HS9.out⟩
end Go.Proofs.YtckjioiijmmopaaDoor.Bu
