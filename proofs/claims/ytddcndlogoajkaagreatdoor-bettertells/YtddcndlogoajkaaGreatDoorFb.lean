/- What is known of each register, as it lies in memory (facts: fold, allKnown, note): read off the program by the walk. Conditions: said at each. -/
import Derived.Test.YtddcndlogoajkaaGreatDoorGb
import Derived.Test.YtddcndlogoajkaaGreatDoorBa
import Derived.Test.YtddcndlogoajkaaGreatDoorQVa
import Derived.Laws.BitsAll
import Derived.Laws.BitsAllLaws
namespace Go.Proofs.YtddcndlogoajkaaGreatDoor.L8.Bt
open Go.ChangeShapes Go.WideShapes Go.ChangeAt Go.RowKit
open _root_.Go.Proofs.YtddcndlogoajkaaGreatDoor.L8.So _root_.Go.Proofs.YtddcndlogoajkaaGreatDoor.L8.Op _root_.Go.Proofs.YtddcndlogoajkaaGreatDoor.L8.Fl _root_.Go.Proofs.YtddcndlogoajkaaGreatDoor.L8.Lv
open _root_.Go.Proofs.YtddcndlogoajkaaGreatDoor.L8.Li (Rl reads_sl put_u32 clr_u32 take_put take_lt pow_mod pow_nat)
set_option maxRecDepth 20000

theorem only_b (r : Nat) (w : World) (h1 : r < 32) : Calls Tryz.prog 94 #[.int .u8 r] w fun e w' => e = .returned (.int .u32 ((2 ^ r : Nat) : Int)) ∧ w' = w := by
  have h2 : (r : Int) ≤ 32 := by omega
  have h3 : (0 : Int) ≤ (r : Int) := by omega
  go_enter Tryz.func94, Tryz.ntmps94
  go_wp2
  go_ret
  exact ⟨ret_int (pow_mod h1), rfl⟩
theorem and_pow (x d : Nat) : x &&& 2 ^ d = if x.testBit d = true then 2 ^ d else 0 := by
  refine Nat.eq_of_testBit_eq fun i => ?_
  rw [Nat.testBit_and, Nat.testBit_two_pow]
  by_cases e : d = i
  · subst e
    cases h : x.testBit d <;> simp
  · cases h : x.testBit d <;> simp [e]
theorem and_u32 {x d : Nat} (hx : x < 4294967296) (hd : d < 32) : bits .and .u32 (x : Int) ((2 ^ d : Nat) : Int) = if x.testBit d = true then ((2 ^ d : Nat) : Int) else 0 := by
  rw [u32_and_nat x (2 ^ d) hx (pow32 hd), and_pow]
  split <;> rfl
set_option maxHeartbeats 1000000 in
theorem ahead_any (o : O) (x : Nat) (w : World) (ho : o.Ok) (hx : x < 4294967296) : Calls Tryz.prog 73 #[o.val, .int .u32 x] w fun e w' => e = .returned (.int .u32 (aheadN (wOf o) x : Nat)) ∧ Below w.heap.size w w' := by
  have hs := Lv.small_of o ho
  have HO : Hid (∀ (r : Nat) w, r < 32 → Calls Tryz.prog 94 #[.int .u8 r] w fun e w' => e = .returned (.int .u32 ((2 ^ r : Nat) : Int)) ∧ w' = w) := fun r w h => only_b r w h
  have HR : Hid _ := fun w => reads_sl o w ho
  have HW0 := fun w => writes_any o w ho
  have hrd : ∀ r ∈ rdL o, r < 32 := hs.1
  have hyl : wipe (wOf o) x < 4294967296 := wipe_lt hx
  have hdef : aheadN (wOf o) x = (rdL o).foldl put (wipe (wOf o) x) := rfl
  rw [hdef]
  have hll : (rdL o).length ≤ 2 := by unfold rdL; split <;> (try split) <;> (try split) <;> simp
  generalize hxs : rdL o = xs at *
  cases hw : wrB o with
  | false =>
    have e0 : wipe (wOf o) x = x := by simp [wipe, wOf, hw]
    rw [e0]
    rw [hw] at HW0
    have HW : Hid _ := HW0
    clear HW0 hs hdef hw e0 hyl ho hxs
    go_enter Tryz.func73, Tryz.ntmps73
    go_wp2_with (first
      | (go_at_call 85; refine Calls.mono (HW.out _) ?_; rintro e w1 ⟨rfl, hb⟩; obtain ⟨a1, hb0, hz⟩ := one_new w _ _ hb; obtain ⟨o0, o1, o2, o3, o4⟩ := a1.o5; have HB : Hid (Below w.heap.size w w1) := hb0; clear hb hb0 a1 HW)
      | (go_at_call 84; refine Calls.mono (HR.out _) ?_; rintro e w2 ⟨a, c, rfl, hl, hb⟩; have HL : Hid (Rl w2 a xs) := hl; have HB2 : Hid (Below w.heap.size w w2) := HB.out.trans (hb.mono (Nat.le_of_lt hz)); clear hb hl HR o0 o1 o2 o3 o4))
    go_loop [1, 22] (fun b i => ∃ k : Nat, k ≤ xs.length ∧ i = .int .i64 k ∧ b = .int .u32 (((xs.take k).foldl put x : Nat) : Int)) (fun _ i => xs.length - (intOf i).toNat)
    case atStart => exact ⟨0, by omega, rfl, rfl⟩
    case round =>
      obtain ⟨k, hk, rfl, rfl⟩ := hrel
      by_cases hlt : k < xs.length
      · obtain ⟨b, rfl, hb, hc⟩ := HL.out.is (by omega)
        have cc := hc k hlt
        have hr : xs[k] < 32 := hrd _ (List.getElem_mem hlt)
        have hb1 : (xs.take k).foldl put x < 4294967296 := take_lt hx hrd
        have HE : Hid _ := put_u32 hb1 hr
        have HT : Hid _ := take_put (y := x) hlt
        generalize xs[k] = r at *
        generalize (xs.take k).foldl put x = y at *
        clear hc HL hb1
        go_wp2_with (first | (go_at_call 94; refine Calls.mono (HO.out _ _ hr) ?_; rintro e w3 ⟨rfl, hw3⟩; subst w3))
        go_roundw
        case rel => exact ⟨k + 1, by omega, by go_num, by rw [HT.out, HE.out]⟩
        case measure => simp [intOf]; omega
      · obtain rfl : k = xs.length := by omega
        rw [List.take_length]
        go_wp2
        go_ret
        exact ⟨rfl, HB2.out⟩
  | true =>
    have hd0 : wrD o = ((o.d.toNat : Nat) : Int) := by
      obtain ⟨_, _, hd, _⟩ := ho
      simp only [wrD, hw, if_true]; omega
    have hd1 : o.d.toNat < 32 := hs.2 _ (by simp [wOf, hw])
    have e0 : wipe (wOf o) x = clr x o.d.toNat := by simp [wipe, wOf, hw]
    rw [e0] at hyl ⊢
    rw [hw, hd0] at HW0
    have HW : Hid _ := HW0
    have HC : Hid _ := clr_u32 hx hd1
    generalize o.d.toNat = d at *
    clear HW0 hs hdef hw e0 ho hd0 hxs
    go_enter Tryz.func73, Tryz.ntmps73
    go_wp2_with (first
      | (go_at_call 85; refine Calls.mono (HW.out _) ?_; rintro e w1 ⟨rfl, hb⟩; obtain ⟨a1, hb0, hz⟩ := one_new w _ _ hb; obtain ⟨o0, o1, o2, o3, o4⟩ := a1.o5; have HB : Hid (Below w.heap.size w w1) := hb0; clear hb hb0 a1 HW)
      | (go_at_call 94; refine Calls.mono (HO.out _ _ hd1) ?_; rintro e w3 ⟨rfl, hw3⟩; subst w3)
      | (go_at_call 84; refine Calls.mono (HR.out _) ?_; rintro e w2 ⟨a, c, rfl, hl, hb⟩; have HL : Hid (Rl w2 a xs) := hl; have HB2 : Hid (Below w.heap.size w w2) := HB.out.trans (hb.mono (Nat.le_of_lt hz)); clear hb hl HR o0 o1 o2 o3 o4))
    go_loop [1, 22] (fun b i => ∃ k : Nat, k ≤ xs.length ∧ i = .int .i64 k ∧ b = .int .u32 (((xs.take k).foldl put (clr x d) : Nat) : Int)) (fun _ i => xs.length - (intOf i).toNat)
    case atStart => exact ⟨0, by omega, rfl, by rw [HC.out]; rfl⟩
    case round =>
      obtain ⟨k, hk, rfl, rfl⟩ := hrel
      by_cases hlt : k < xs.length
      · obtain ⟨b, rfl, hb, hc⟩ := HL.out.is (by omega)
        have cc := hc k hlt
        have hr : xs[k] < 32 := hrd _ (List.getElem_mem hlt)
        have hb1 : (xs.take k).foldl put (clr x d) < 4294967296 := take_lt hyl hrd
        have HE : Hid _ := put_u32 hb1 hr
        have HT : Hid _ := take_put (y := clr x d) hlt
        generalize xs[k] = r at *
        generalize (xs.take k).foldl put (clr x d) = y at *
        clear hc HL hb1
        go_wp2_with (first | (go_at_call 94; refine Calls.mono (HO.out _ _ hr) ?_; rintro e w3 ⟨rfl, hw3⟩; subst w3))
        go_roundw
        case rel => exact ⟨k + 1, by omega, by go_num, by rw [HT.out, HE.out]⟩
        case measure => simp [intOf]; omega
      · obtain rfl : k = xs.length := by omega
        rw [List.take_length]
        go_wp2
        go_ret
        exact ⟨rfl, HB2.out⟩


set_option maxHeartbeats 1000000 in
theorem dead_any (o : O) (x : Nat) (w : World) (ho : o.Ok) (hx : x < 4294967296) : Calls Tryz.prog 72 #[o.val, .int .u32 x] w fun e w' => e = .returned (.bool (deadB o x)) ∧ Below w.heap.size w w' := by
  have hs := Lv.small_of o ho
  have HW0 := fun w => writes_any o w ho
  cases hw : wrB o with
  | false =>
    have e0 : deadB o x = false := by simp [deadB, hw]
    rw [e0]
    rw [hw] at HW0
    have HW : Hid _ := HW0
    clear HW0 hs hw e0 ho
    go_enter Tryz.func72, Tryz.ntmps72
    go_wp2_with (first
      | (go_at_call 85; refine Calls.mono (HW.out _) ?_; rintro e w1 ⟨rfl, hb⟩; obtain ⟨a1, hb0, hz⟩ := one_new w _ _ hb; obtain ⟨o0, o1, o2, o3, o4⟩ := a1.o5; have HB : Hid (Below w.heap.size w w1) := hb0; clear hb hb0 a1 HW))
    go_ret
    exact ⟨rfl, HB.out⟩
  | true =>
    have hd0 : wrD o = ((o.d.toNat : Nat) : Int) := by
      obtain ⟨_, _, hd, _⟩ := ho
      simp only [wrD, hw, if_true]; omega
    have hd1 : o.d.toNat < 32 := hs.2 _ (by simp [wOf, hw])
    have HO0 : ∀ W, Calls Tryz.prog 94 #[.int .u8 ((o.d.toNat : Nat) : Int)] W fun e w' => e = .returned (.int .u32 ((2 ^ o.d.toNat : Nat) : Int)) ∧ w' = W := fun W => only_b _ W hd1
    have hA := and_u32 hx hd1
    have e0 : deadB o x = (!(x.testBit o.d.toNat) && !(decide (o.op = 13)) && !(decide (o.op = 14))) := by simp [deadB, hw]
    rw [e0]
    rw [hw, hd0] at HW0
    have hp : ¬ ((2 ^ o.d.toNat : Nat) : Int) = 0 := by have := Nat.two_pow_pos o.d.toNat; omega
    clear hs hw e0 hd0 hd1
    generalize ((2 ^ o.d.toNat : Nat) : Int) = p at *
    generalize x.testBit o.d.toNat = tb at *
    generalize (x : Int) = xi at *
    have HW : Hid _ := HW0
    have HO : Hid _ := HO0
    clear HW0 HO0 hx ho
    generalize ((o.d.toNat : Nat) : Int) = d at *
    obtain ⟨op, od, oa, ob, oi⟩ := o
    cases tb with
    | true =>
      rw [if_pos rfl] at hA
      simp only [Bool.not_true, Bool.false_and]
      go_enter Tryz.func72, Tryz.ntmps72
      go_wp2_with (first
        | (go_at_call 85; refine Calls.mono (HW.out _) ?_; rintro e w1 ⟨rfl, hb⟩; obtain ⟨a1, hb0, hz⟩ := one_new w _ _ hb; obtain ⟨o0, o1, o2, o3, o4⟩ := a1.o5; have HB : Hid (Below w.heap.size w w1) := hb0; clear hb hb0 a1 HW)
        | (go_at_call 94; refine Calls.mono (HO.out _) ?_; rintro e w3 ⟨rfl, hw3⟩; subst w3; clear HO))
      go_ret
      exact ⟨rfl, HB.out⟩
    | false =>
      rw [if_neg (by simp)] at hA
      simp only [Bool.not_false, Bool.true_and]
      by_cases h13 : op = 13
      · subst h13
        simp only [decide_true, Bool.not_true, Bool.false_and]
        go_enter Tryz.func72, Tryz.ntmps72
        go_wp2_with (first
          | (go_at_call 85; refine Calls.mono (HW.out _) ?_; rintro e w1 ⟨rfl, hb⟩; obtain ⟨a1, hb0, hz⟩ := one_new w _ _ hb; obtain ⟨o0, o1, o2, o3, o4⟩ := a1.o5; have HB : Hid (Below w.heap.size w w1) := hb0; clear hb hb0 a1 HW)
          | (go_at_call 94; refine Calls.mono (HO.out _) ?_; rintro e w3 ⟨rfl, hw3⟩; subst w3; clear HO))
        go_ret
        exact ⟨rfl, HB.out⟩
      · by_cases h14 : op = 14
        · subst h14
          simp only [h13, decide_true, decide_false, Bool.not_true, Bool.not_false, Bool.and_false]
          go_enter Tryz.func72, Tryz.ntmps72
          go_wp2_with (first
            | (go_at_call 85; refine Calls.mono (HW.out _) ?_; rintro e w1 ⟨rfl, hb⟩; obtain ⟨a1, hb0, hz⟩ := one_new w _ _ hb; obtain ⟨o0, o1, o2, o3, o4⟩ := a1.o5; have HB : Hid (Below w.heap.size w w1) := hb0; clear hb hb0 a1 HW)
            | (go_at_call 94; refine Calls.mono (HO.out _) ?_; rintro e w3 ⟨rfl, hw3⟩; subst w3; clear HO))
          go_ret
          exact ⟨rfl, HB.out⟩
        · simp only [h13, h14, decide_false, Bool.not_false, Bool.and_self]
          have k13 : (op == 13) = false := by simpa using h13
          have k14 : (op == 14) = false := by simpa using h14
          go_enter Tryz.func72, Tryz.ntmps72
          go_wp2_with (first
            | (go_at_call 85; refine Calls.mono (HW.out _) ?_; rintro e w1 ⟨rfl, hb⟩; obtain ⟨a1, hb0, hz⟩ := one_new w _ _ hb; obtain ⟨o0, o1, o2, o3, o4⟩ := a1.o5; have HB : Hid (Below w.heap.size w w1) := hb0; clear hb hb0 a1 HW)
            | (go_at_call 94; refine Calls.mono (HO.out _) ?_; rintro e w3 ⟨rfl, hw3⟩; subst w3; clear HO))
          go_ret
          exact ⟨ret_bool (by simp [bne, k13, k14]), HB.out⟩
end Go.Proofs.YtddcndlogoajkaaGreatDoor.L8.Bt
namespace Go.Proofs.YtddcndlogoajkaaGreatDoor.L8.Bt
open Go.ChangeShapes Go.WideShapes Go.ChangeAt Go.RowKit
open _root_.Go.Proofs.YtddcndlogoajkaaGreatDoor.L8.Op _root_.Go.Proofs.YtddcndlogoajkaaGreatDoor.L8.So
open _root_.Go.Proofs.YtddcndlogoajkaaGreatDoor.L8.Lv (rdL wOf PsOk)
open _root_.Go.Proofs.YtddcndlogoajkaaGreatDoor.L8.Li (Rl reads_sl)
set_option maxRecDepth 20000

/-- What is known, at the head of a block. -/
structure Fk (w : World) (q : Nat) (K : Kn) : Prop where
  lt : q < w.heap.size
  fz : ∀ j : Nat, w.frozen? ⟨q, j, none⟩ = false
  b : ∀ r : Nat, r < 32 → w.cell? ⟨q, r * 2, none⟩ = some (.bool (K r).isSome)
  n : ∀ r : Nat, r < 32 → w.cell? ⟨q, r * 2 + 1, none⟩ = some (.int .i64 ((K r).getD 0))
theorem Fk.below {w w' : World} {q : Nat} {K : Kn} (h : Fk w q K) (hb : Below w.heap.size w w') : Fk w' q K :=
  ⟨Nat.lt_of_lt_of_le h.lt hb.size, fun j => by rw [(bcell hb).2 _ _ h.lt]; exact h.fz j, fun r hr => by rw [(bcell hb).1 _ _ h.lt]; exact h.b r hr, fun r hr => by rw [(bcell hb).1 _ _ h.lt]; exact h.n r hr⟩
theorem Fk.fr {X : Nat → Prop} {w w' : World} {q : Nat} {K : Kn} (h : Fk w q K) (g : Fr X w w') (hx : ¬ X q) : Fk w' q K :=
  ⟨Nat.lt_of_lt_of_le h.lt g.size, fun j => by rw [g.frozen h.lt hx]; exact h.fz j, fun r hr => (g.cell h.lt hx _).trans (h.b r hr), fun r hr => (g.cell h.lt hx _).trans (h.n r hr)⟩
theorem Fk.put {w : World} {q : Nat} {K : Kn} (h : Fk w q K) {d : Nat} (hd : d < 32) (v : Option Int) : Fk ((w.setCell ⟨q, d * 2, none⟩ (.bool v.isSome)).setCell ⟨q, d * 2 + 1, none⟩ (.int .i64 (v.getD 0))) q (putK K d v) := by
  refine ⟨by simpa using h.lt, fun j => by rw [World.frozen?_setCell, World.frozen?_setCell]; exact h.fz j, fun r hr => ?_, fun r hr => ?_⟩
  · unfold putK
    by_cases e : r = d
    · subst e
      rw [if_pos rfl, co (by omega), cs (h.b r hr)]
    · rw [if_neg e, co (by omega), co (by omega)]
      exact h.b r hr
  · unfold putK
    by_cases e : r = d
    · subst e
      rw [if_pos rfl, cs ((co (by omega)).trans (h.n r hr))]
    · rw [if_neg e, co (by omega), co (by omega)]
      exact h.n r hr
theorem allK_no {K : Kn} {xs : List Nat} {k : Nat} (h : k < xs.length) (e : (K xs[k]).isSome = false) : false = allK K xs := by
  unfold allK
  cases hx : xs.all fun r => (K r).isSome with
  | false => rfl
  | true =>
    have := List.all_eq_true.1 hx _ (List.getElem_mem h)
    rw [e] at this; cases this
theorem allK_yes {K : Kn} {xs : List Nat} (h : ∀ (j : Nat) (hj : j < xs.length), (K xs[j]).isSome = true) : true = allK K xs := by
  symm
  refine List.all_eq_true.2 fun o ho => ?_
  obtain ⟨i, hi, rfl⟩ := List.getElem_of_mem ho
  exact h i hi
set_option maxHeartbeats 1000000 in
theorem allKnown_any (q : Nat) (K : Kn) (a : Option Addr) (c : Nat) (xs : List Nat) (w : World) (hF : Fk w q K) (hR : Rl w a xs) (hx : ∀ r ∈ xs, r < 32) (hl : xs.length ≤ 2) :
    Calls Tryz.prog 83 #[.pointer (some ⟨q, 0, none⟩), .slice a xs.length c] w fun e w' => e = .returned (.bool (allK K xs)) ∧ w' = w := by
  have HF : Hid _ := hF
  have HR : Hid _ := hR
  have HX : Hid _ := hx
  clear hF hR hx
  go_enter Tryz.func83, Tryz.ntmps83
  go_wp2
  go_loop [9] (fun i => ∃ k : Nat, k ≤ xs.length ∧ i = .int .i64 k ∧ ∀ (j : Nat) (hj : j < xs.length), j < k → (K xs[j]).isSome = true) (fun i => xs.length - (intOf i).toNat)
  case atStart => exact ⟨0, by omega, rfl, fun j _ hj => by omega⟩
  case round =>
    obtain ⟨k, hk, rfl, hok⟩ := hrel
    have HK : Hid _ := hok
    clear hok
    by_cases hlt : k < xs.length
    · obtain ⟨b, rfl, hb, hc⟩ := HR.out.is (by omega)
      have cc := hc k hlt
      have hr := HX.out _ (List.getElem_mem hlt)
      have cb := HF.out.b _ hr
      have hri : ((xs[k] : Nat) : Int) < 32 := by omega
      clear hc HR HF
      generalize hg : xs[k] = r at *
      have HG : Hid (xs[k] = r) := hg
      clear hg
      cases hs : (K r).isSome
      · have HS : Hid _ := hs
        rw [hs] at cb
        clear hs
        go_wp2
        go_ret
        exact ⟨ret_bool (allK_no hlt (by rw [HG.out]; exact HS.out)), rfl⟩
      · have HS : Hid _ := hs
        rw [hs] at cb
        clear hs
        go_wp2
        go_roundw
        case rel =>
          refine ⟨k + 1, by omega, by go_num, fun j hj hjk => ?_⟩
          rcases Nat.lt_or_ge j k with h | h
          · exact HK.out j hj h
          · obtain rfl : j = k := by omega
            rw [HG.out]; exact HS.out
        case measure => simp [intOf]; omega
    · obtain rfl : k = xs.length := by omega
      go_wp2
      go_ret
      exact ⟨ret_bool (allK_yes fun j hj => HK.out j hj hj), rfl⟩

/-- What comes of note. -/
structure Nt (w w' : World) (q : Nat) (K : Kn) : Prop where
  k : Fk w' q K
  f : Fr (One q) w w'
set_option maxHeartbeats 2000000 in
theorem note_any (q : Nat) (K : Kn) (o : O) (w : World) (hF : Fk w q K) (ho : o.Ok) :
    Calls Tryz.prog 65 #[.pointer (some ⟨q, 0, none⟩), o.val] w fun e w' => e = .returned (.tuple #[]) ∧ Nt w w' q (ntO K o) := by
  have HW0 := fun w => writes_any o w ho
  have hdf := fun (h : wrB o = true) => (Lv.small_of o ho).2 o.d.toNat (by simp [Lv.wOf, h])
  have hdd : wrD o = if wrB o then o.d else 0 := rfl
  have hqw := hF.lt
  have HF : Hid _ := hF
  have ho0 := ho.d0
  unfold ntO
  cases hw : wrB o with
  | false =>
    rw [hw] at HW0
    have HW : Hid _ := HW0
    simp only [Bool.false_eq_true, if_false]
    clear HW0 hdf hw hF ho hdd
    go_enter Tryz.func65, Tryz.ntmps65
    go_wp2_with (first
      | (go_at_call 85; go_loud (refine Calls.mono (HW.out _) ?_; rintro e w1 ⟨rfl, hb⟩; obtain ⟨a1, hb0, hz⟩ := one_new w _ _ hb; have HB : Hid (Below w.heap.size w w1) := hb0; clear hb hb0 a1 HW)))
    go_end0
    exact ⟨rfl, HF.out.below HB.out, Fr.of HB.out⟩
  | true =>
    have hd := hdf hw
    rw [hw] at hdd
    simp only [if_true] at hdd
    rw [hw, hdd] at HW0
    have HW : Hid _ := HW0
    simp only [if_true]
    obtain ⟨n, hn⟩ : ∃ n : Nat, o.d = n := ⟨o.d.toNat, by omega⟩
    have hn' : o.d.toNat = n := by omega
    rw [hn'] at hd ⊢
    have hni : (n : Int) < 32 := by omega
    have hqne : ¬ q = w.heap.size := by omega
    have hqne' : ¬ w.heap.size = q := by omega
    clear HW0 hw hF ho hdd hn' hdf
    obtain ⟨op, d, na, nb, im⟩ := o
    simp only at hn
    subst hn
    by_cases hc : op = 1
    · subst hc
      simp only [if_true]
      go_enter Tryz.func65, Tryz.ntmps65
      go_wp2_with (first
        | (go_at_call 85; go_loud (refine Calls.mono (HW.out _) ?_; rintro e w1 ⟨rfl, hb⟩; obtain ⟨a1, hb0, hz⟩ := one_new w _ _ hb; have c0 := a1.c 0 _ rfl; have c4 := a1.c 4 _ rfl; have HB : Hid (Below w.heap.size w w1) := hb0; have HQ : Hid (Fk w1 q K) := HF.out.below hb0; have e0 := HQ.out.b n hd; have e1 := HQ.out.n n hd; have f0 := HQ.out.fz (n * 2); have f1 := HQ.out.fz (n * 2 + 1); clear hb hb0 a1 HW)))
      go_region
      all_goals go_wp2_with fail
      all_goals
        go_end0
        exact ⟨rfl, (HQ.out.put hd (some im)).fr (X := Non) (Fr.refl Non _).drew (fun h => h), (((Fr.of (X := One q) HB.out).setCell (.inr rfl) _ _).setCell (.inr rfl) _ _).drew⟩
    · rw [if_neg hc]
      go_enter Tryz.func65, Tryz.ntmps65
      go_wp2_with (first
        | (go_at_call 85; go_loud (refine Calls.mono (HW.out _) ?_; rintro e w1 ⟨rfl, hb⟩; obtain ⟨a1, hb0, hz⟩ := one_new w _ _ hb; have c0 := a1.c 0 _ rfl; have HB : Hid (Below w.heap.size w w1) := hb0; have HQ : Hid (Fk w1 q K) := HF.out.below hb0; have e0 := HQ.out.b n hd; have e1 := HQ.out.n n hd; have f0 := HQ.out.fz (n * 2); have f1 := HQ.out.fz (n * 2 + 1); clear hb hb0 a1 HW)))
      go_end0
      exact ⟨rfl, HQ.out.put hd none, ((Fr.of (X := One q) HB.out).setCell (.inr rfl) _ _).setCell (.inr rfl) _ _⟩

end Go.Proofs.YtddcndlogoajkaaGreatDoor.L8.Bt
