/- Whether an operation is dead, what is read from it on (only, dead, ahead): read off the program by the walk. Conditions: each field is a number of its own width. -/
import Derived.Test.YtddcndlogoajkaaDoorGb
import Derived.Test.YtddcndlogoajkaaDoorBa
import Derived.Test.YtddcndlogoajkaaDoorQVa
import Derived.Laws.BitsAll
import Derived.Laws.BitsAllLaws
namespace Go.Proofs.YtddcndlogoajkaaDoor.L8.Bt
open Go.ChangeShapes Go.WideShapes Go.ChangeAt Go.RowKit
open _root_.Go.Proofs.YtddcndlogoajkaaDoor.L8.So _root_.Go.Proofs.YtddcndlogoajkaaDoor.L8.Op _root_.Go.Proofs.YtddcndlogoajkaaDoor.L8.Fl _root_.Go.Proofs.YtddcndlogoajkaaDoor.L8.Lv
open _root_.Go.Proofs.YtddcndlogoajkaaDoor.L8.Li (Rl reads_sl put_u32 clr_u32 take_put take_lt pow_mod pow_nat)
set_option maxRecDepth 20000

theorem only_b (r : Nat) (w : World) (h1 : r < 32) : Calls Tryd.prog 43 #[.int .u8 r] w fun e w' => e = .returned (.int .u32 ((2 ^ r : Nat) : Int)) ∧ w' = w := by
  have h2 : (r : Int) ≤ 32 := by omega
  have h3 : (0 : Int) ≤ (r : Int) := by omega
  go_enter Tryd.func43, Tryd.ntmps43
  go_wp2
  go_ret
  exact ⟨ret_int (pow_mod h1), rfl⟩
theorem and_pow (x d : Nat) : x &&& 2 ^ d = if x.testBit d = true then 2 ^ d else 0 := by
  refine Nat.eq_of_testBit_eq fun i => ?_
  rw [Nat.testBit_and, Nat.testBit_two_pow]
  by_cases e : d = i
  · subst e
    cases h : x.testBit d <;> simp
  · cases h : x.testBit d <;> simp [e]
theorem and_u32 {x d : Nat} (hx : x < 4294967296) (hd : d < 32) : bits .and .u32 (x : Int) ((2 ^ d : Nat) : Int) = if x.testBit d = true then ((2 ^ d : Nat) : Int) else 0 := by
  rw [u32_and_nat x (2 ^ d) hx (pow32 hd), and_pow]
  split <;> rfl
set_option maxHeartbeats 1000000 in
theorem ahead_any (o : O) (x : Nat) (w : World) (ho : o.Ok) (hx : x < 4294967296) : Calls Tryd.prog 31 #[o.val, .int .u32 x] w fun e w' => e = .returned (.int .u32 (aheadN (wOf o) x : Nat)) ∧ Below w.heap.size w w' := by
  have hs := Lv.small_of o ho
  have HO : Hid (∀ (r : Nat) w, r < 32 → Calls Tryd.prog 43 #[.int .u8 r] w fun e w' => e = .returned (.int .u32 ((2 ^ r : Nat) : Int)) ∧ w' = w) := fun r w h => only_b r w h
  have HR : Hid _ := fun w => reads_sl o w ho
  have HW0 := fun w => writes_any o w ho
  have hrd : ∀ r ∈ rdL o, r < 32 := hs.1
  have hyl : wipe (wOf o) x < 4294967296 := wipe_lt hx
  have hdef : aheadN (wOf o) x = (rdL o).foldl put (wipe (wOf o) x) := rfl
  rw [hdef]
  have hll : (rdL o).length ≤ 2 := by unfold rdL; split <;> (try split) <;> (try split) <;> simp
  generalize hxs : rdL o = xs at *
  cases hw : wrB o with
  | false =>
    have e0 : wipe (wOf o) x = x := by simp [wipe, wOf, hw]
    rw [e0]
    rw [hw] at HW0
    have HW : Hid _ := HW0
    clear HW0 hs hdef hw e0 hyl ho hxs
    go_enter Tryd.func31, Tryd.ntmps31
    go_wp2_with (first
      | (go_at_call 36; refine Calls.mono (HW.out _) ?_; rintro e w1 ⟨rfl, hb⟩; obtain ⟨a1, hb0, hz⟩ := one_new w _ _ hb; obtain ⟨o0, o1, o2, o3, o4⟩ := a1.o5; have HB : Hid (Below w.heap.size w w1) := hb0; clear hb hb0 a1 HW)
      | (go_at_call 34; refine Calls.mono (HR.out _) ?_; rintro e w2 ⟨a, c, rfl, hl, hb⟩; have HL : Hid (Rl w2 a xs) := hl; have HB2 : Hid (Below w.heap.size w w2) := HB.out.trans (hb.mono (Nat.le_of_lt hz)); clear hb hl HR o0 o1 o2 o3 o4))
    go_loop [1, 22] (fun b i => ∃ k : Nat, k ≤ xs.length ∧ i = .int .i64 k ∧ b = .int .u32 (((xs.take k).foldl put x : Nat) : Int)) (fun _ i => xs.length - (intOf i).toNat)
    case atStart => exact ⟨0, by omega, rfl, rfl⟩
    case round =>
      obtain ⟨k, hk, rfl, rfl⟩ := hrel
      by_cases hlt : k < xs.length
      · obtain ⟨b, rfl, hb, hc⟩ := HL.out.is (by omega)
        have cc := hc k hlt
        have hr : xs[k] < 32 := hrd _ (List.getElem_mem hlt)
        have hb1 : (xs.take k).foldl put x < 4294967296 := take_lt hx hrd
        have HE : Hid _ := put_u32 hb1 hr
        have HT : Hid _ := take_put (y := x) hlt
        generalize xs[k] = r at *
        generalize (xs.take k).foldl put x = y at *
        clear hc HL hb1
        go_wp2_with (first | (go_at_call 43; refine Calls.mono (HO.out _ _ hr) ?_; rintro e w3 ⟨rfl, hw3⟩; subst w3))
        go_roundw
        case rel => exact ⟨k + 1, by omega, by go_num, by rw [HT.out, HE.out]⟩
        case measure => simp [intOf]; omega
      · obtain rfl : k = xs.length := by omega
        rw [List.take_length]
        go_wp2
        go_ret
        exact ⟨rfl, HB2.out⟩
  | true =>
    have hd0 : wrD o = ((o.d.toNat : Nat) : Int) := by
      obtain ⟨_, _, hd, _⟩ := ho
      simp only [wrD, hw, if_true]; omega
    have hd1 : o.d.toNat < 32 := hs.2 _ (by simp [wOf, hw])
    have e0 : wipe (wOf o) x = clr x o.d.toNat := by simp [wipe, wOf, hw]
    rw [e0] at hyl ⊢
    rw [hw, hd0] at HW0
    have HW : Hid _ := HW0
    have HC : Hid _ := clr_u32 hx hd1
    generalize o.d.toNat = d at *
    clear HW0 hs hdef hw e0 ho hd0 hxs
    go_enter Tryd.func31, Tryd.ntmps31
    go_wp2_with (first
      | (go_at_call 36; refine Calls.mono (HW.out _) ?_; rintro e w1 ⟨rfl, hb⟩; obtain ⟨a1, hb0, hz⟩ := one_new w _ _ hb; obtain ⟨o0, o1, o2, o3, o4⟩ := a1.o5; have HB : Hid (Below w.heap.size w w1) := hb0; clear hb hb0 a1 HW)
      | (go_at_call 43; refine Calls.mono (HO.out _ _ hd1) ?_; rintro e w3 ⟨rfl, hw3⟩; subst w3)
      | (go_at_call 34; refine Calls.mono (HR.out _) ?_; rintro e w2 ⟨a, c, rfl, hl, hb⟩; have HL : Hid (Rl w2 a xs) := hl; have HB2 : Hid (Below w.heap.size w w2) := HB.out.trans (hb.mono (Nat.le_of_lt hz)); clear hb hl HR o0 o1 o2 o3 o4))
    go_loop [1, 22] (fun b i => ∃ k : Nat, k ≤ xs.length ∧ i = .int .i64 k ∧ b = .int .u32 (((xs.take k).foldl put (clr x d) : Nat) : Int)) (fun _ i => xs.length - (intOf i).toNat)
    case atStart => exact ⟨0, by omega, rfl, by rw [HC.out]; rfl⟩
    case round =>
      obtain ⟨k, hk, rfl, rfl⟩ := hrel
      by_cases hlt : k < xs.length
      · obtain ⟨b, rfl, hb, hc⟩ := HL.out.is (by omega)
        have cc := hc k hlt
        have hr : xs[k] < 32 := hrd _ (List.getElem_mem hlt)
        have hb1 : (xs.take k).foldl put (clr x d) < 4294967296 := take_lt hyl hrd
        have HE : Hid _ := put_u32 hb1 hr
        have HT : Hid _ := take_put (y := clr x d) hlt
        generalize xs[k] = r at *
        generalize (xs.take k).foldl put (clr x d) = y at *
        clear hc HL hb1
        go_wp2_with (first | (go_at_call 43; refine Calls.mono (HO.out _ _ hr) ?_; rintro e w3 ⟨rfl, hw3⟩; subst w3))
        go_roundw
        case rel => exact ⟨k + 1, by omega, by go_num, by rw [HT.out, HE.out]⟩
        case measure => simp [intOf]; omega
      · obtain rfl : k = xs.length := by omega
        rw [List.take_length]
        go_wp2
        go_ret
        exact ⟨rfl, HB2.out⟩


set_option maxHeartbeats 1000000 in
theorem dead_any (o : O) (x : Nat) (w : World) (ho : o.Ok) (hx : x < 4294967296) : Calls Tryd.prog 30 #[o.val, .int .u32 x] w fun e w' => e = .returned (.bool (deadB o x)) ∧ Below w.heap.size w w' := by
  have hs := Lv.small_of o ho
  have HW0 := fun w => writes_any o w ho
  cases hw : wrB o with
  | false =>
    have e0 : deadB o x = false := by simp [deadB, hw]
    rw [e0]
    rw [hw] at HW0
    have HW : Hid _ := HW0
    clear HW0 hs hw e0 ho
    go_enter Tryd.func30, Tryd.ntmps30
    go_wp2_with (first
      | (go_at_call 36; refine Calls.mono (HW.out _) ?_; rintro e w1 ⟨rfl, hb⟩; obtain ⟨a1, hb0, hz⟩ := one_new w _ _ hb; obtain ⟨o0, o1, o2, o3, o4⟩ := a1.o5; have HB : Hid (Below w.heap.size w w1) := hb0; clear hb hb0 a1 HW))
    go_ret
    exact ⟨rfl, HB.out⟩
  | true =>
    have hd0 : wrD o = ((o.d.toNat : Nat) : Int) := by
      obtain ⟨_, _, hd, _⟩ := ho
      simp only [wrD, hw, if_true]; omega
    have hd1 : o.d.toNat < 32 := hs.2 _ (by simp [wOf, hw])
    have HO0 : ∀ W, Calls Tryd.prog 43 #[.int .u8 ((o.d.toNat : Nat) : Int)] W fun e w' => e = .returned (.int .u32 ((2 ^ o.d.toNat : Nat) : Int)) ∧ w' = W := fun W => only_b _ W hd1
    have hA := and_u32 hx hd1
    have e0 : deadB o x = (!(x.testBit o.d.toNat) && !(decide (o.op = 13)) && !(decide (o.op = 14))) := by simp [deadB, hw]
    rw [e0]
    rw [hw, hd0] at HW0
    have hp : ¬ ((2 ^ o.d.toNat : Nat) : Int) = 0 := by have := Nat.two_pow_pos o.d.toNat; omega
    clear hs hw e0 hd0 hd1
    generalize ((2 ^ o.d.toNat : Nat) : Int) = p at *
    generalize x.testBit o.d.toNat = tb at *
    generalize (x : Int) = xi at *
    have HW : Hid _ := HW0
    have HO : Hid _ := HO0
    clear HW0 HO0 hx ho
    generalize ((o.d.toNat : Nat) : Int) = d at *
    obtain ⟨op, od, oa, ob, oi⟩ := o
    cases tb with
    | true =>
      rw [if_pos rfl] at hA
      simp only [Bool.not_true, Bool.false_and]
      go_enter Tryd.func30, Tryd.ntmps30
      go_wp2_with (first
        | (go_at_call 36; refine Calls.mono (HW.out _) ?_; rintro e w1 ⟨rfl, hb⟩; obtain ⟨a1, hb0, hz⟩ := one_new w _ _ hb; obtain ⟨o0, o1, o2, o3, o4⟩ := a1.o5; have HB : Hid (Below w.heap.size w w1) := hb0; clear hb hb0 a1 HW)
        | (go_at_call 43; refine Calls.mono (HO.out _) ?_; rintro e w3 ⟨rfl, hw3⟩; subst w3; clear HO))
      go_ret
      exact ⟨rfl, HB.out⟩
    | false =>
      rw [if_neg (by simp)] at hA
      simp only [Bool.not_false, Bool.true_and]
      by_cases h13 : op = 13
      · subst h13
        simp only [decide_true, Bool.not_true, Bool.false_and]
        go_enter Tryd.func30, Tryd.ntmps30
        go_wp2_with (first
          | (go_at_call 36; refine Calls.mono (HW.out _) ?_; rintro e w1 ⟨rfl, hb⟩; obtain ⟨a1, hb0, hz⟩ := one_new w _ _ hb; obtain ⟨o0, o1, o2, o3, o4⟩ := a1.o5; have HB : Hid (Below w.heap.size w w1) := hb0; clear hb hb0 a1 HW)
          | (go_at_call 43; refine Calls.mono (HO.out _) ?_; rintro e w3 ⟨rfl, hw3⟩; subst w3; clear HO))
        go_ret
        exact ⟨rfl, HB.out⟩
      · by_cases h14 : op = 14
        · subst h14
          simp only [h13, decide_true, decide_false, Bool.not_true, Bool.not_false, Bool.and_false]
          go_enter Tryd.func30, Tryd.ntmps30
          go_wp2_with (first
            | (go_at_call 36; refine Calls.mono (HW.out _) ?_; rintro e w1 ⟨rfl, hb⟩; obtain ⟨a1, hb0, hz⟩ := one_new w _ _ hb; obtain ⟨o0, o1, o2, o3, o4⟩ := a1.o5; have HB : Hid (Below w.heap.size w w1) := hb0; clear hb hb0 a1 HW)
            | (go_at_call 43; refine Calls.mono (HO.out _) ?_; rintro e w3 ⟨rfl, hw3⟩; subst w3; clear HO))
          go_ret
          exact ⟨rfl, HB.out⟩
        · simp only [h13, h14, decide_false, Bool.not_false, Bool.and_self]
          have k13 : (op == 13) = false := by simpa using h13
          have k14 : (op == 14) = false := by simpa using h14
          go_enter Tryd.func30, Tryd.ntmps30
          go_wp2_with (first
            | (go_at_call 36; refine Calls.mono (HW.out _) ?_; rintro e w1 ⟨rfl, hb⟩; obtain ⟨a1, hb0, hz⟩ := one_new w _ _ hb; obtain ⟨o0, o1, o2, o3, o4⟩ := a1.o5; have HB : Hid (Below w.heap.size w w1) := hb0; clear hb hb0 a1 HW)
            | (go_at_call 43; refine Calls.mono (HO.out _) ?_; rintro e w3 ⟨rfl, hw3⟩; subst w3; clear HO))
          go_ret
          exact ⟨ret_bool (by simp [bne, k13, k14]), HB.out⟩
end Go.Proofs.YtddcndlogoajkaaDoor.L8.Bt
