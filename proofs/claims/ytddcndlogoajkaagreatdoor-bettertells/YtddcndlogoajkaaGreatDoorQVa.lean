/- The set of one register; what is ahead of an operation, of a list of them, of rounds: read off the program by the walk. Conditions: each field is a number of its own width. -/
import Derived.Test.YtddcndlogoajkaaGreatDoorQRg
import Derived.Laws.BitsAll
import Derived.Laws.BitsAllLaws
namespace Go.Proofs.YtddcndlogoajkaaGreatDoor.L8.Li
open Go.ChangeShapes Go.WideShapes Go.ChangeAt Go.RowKit
open _root_.Go.Proofs.YtddcndlogoajkaaGreatDoor.L8.So _root_.Go.Proofs.YtddcndlogoajkaaGreatDoor.L8.Op _root_.Go.Proofs.YtddcndlogoajkaaGreatDoor.L8.Fl _root_.Go.Proofs.YtddcndlogoajkaaGreatDoor.L8.Lv
set_option maxRecDepth 20000

theorem pow_nat (r : Nat) : (2 : Int) ^ r = ((2 ^ r : Nat) : Int) := by simp
theorem pow_mod {r : Nat} (h : r < 32) : (2 : Int) ^ r % 4294967296 = ((2 ^ r : Nat) : Int) := by
  have h1 : 2 ^ r < 4294967296 := pow32 h
  rw [pow_nat]
  generalize 2 ^ r = m at *
  omega
theorem only_any (r : Nat) (w : World) (h1 : r < 32) : Calls Tryz.prog 92 #[.int .u8 r] w fun e w' => e = .returned (.int .u32 ((2 ^ r : Nat) : Int)) ∧ w' = w := by
  have h2 : (r : Int) ≤ 32 := by omega
  have h3 : (0 : Int) ≤ (r : Int) := by omega
  go_enter Tryz.func92, Tryz.ntmps92
  go_wp2
  go_ret
  exact ⟨ret_int (pow_mod h1), rfl⟩
theorem put_u32 {x d : Nat} (hx : x < 4294967296) (hd : d < 32) : bits .or .u32 (x : Int) ((2 : Int) ^ d) = ((put x d : Nat) : Int) := by rw [pow_nat]; exact u32_or_nat x (2 ^ d) hx (pow32 hd)
theorem clr_u32 {x d : Nat} (hx : x < 4294967296) (hd : d < 32) : bits .andNot .u32 (x : Int) ((2 : Int) ^ d) = ((clr x d : Nat) : Int) := by rw [pow_nat]; exact u32_andNot_nat x (2 ^ d) hx (pow32 hd)

/-- A list of registers in memory. -/
structure Rl (w : World) (a : Option Addr) (xs : List Nat) : Prop where
  is : 0 < xs.length → ∃ b, a = some ⟨b, 0, none⟩ ∧ b < w.heap.size ∧ ∀ (i : Nat) (h : i < xs.length), w.cell? ⟨b, i, none⟩ = some (.int .u8 ((xs[i] : Nat) : Int))
theorem Rl.below {w w' : World} {a : Option Addr} {xs : List Nat} (h : Rl w a xs) (hb : Below w.heap.size w w') : Rl w' a xs := ⟨fun h0 => by
  obtain ⟨b, e, hlt, hc⟩ := h.is h0
  exact ⟨b, e, Nat.lt_of_lt_of_le hlt hb.size, fun i hi => by rw [(bcell hb).1 _ _ hlt]; exact hc i hi⟩⟩
theorem rd_no {o : O} (h : okO o = false) : rdL o = [] := by
  unfold rdL
  cases hk : kOf o.op with
  | none => rfl
  | some k =>
    rw [okO_some hk] at h
    simp [h]
theorem rd_yes {o : O} {k : K} (hk : kOf o.op = some k) (hf : okF k o = true) : rdL o = [o.a.toNat, o.b.toNat].take (rcN k o) := by
  unfold rdL rcN
  rw [hk]
  simp only [hf, Bool.true_and]
  cases k.A
  · rfl
  · cases k.B
    · rfl
    · cases o.a == o.b <;> rfl
theorem rc_two (k : K) (o : O) : rcN k o ≤ 2 := by unfold rcN; split <;> (try split) <;> simp
theorem reads_sl (o : O) (w : World) (ho : o.Ok) : Calls Tryz.prog 84 #[o.val] w fun e w' => ∃ a c, e = .returned (.slice a (rdL o).length c) ∧ Rl w' a (rdL o) ∧ Below w.heap.size w w' := by
  cases hO : okO o with
  | false =>
    refine (reads_no o w ho hO).mono ?_
    rintro e w' ⟨rfl, hb⟩
    rw [rd_no hO]
    exact ⟨none, 0, rfl, ⟨fun h => by simp at h⟩, hb⟩
  | true =>
    cases hk : kOf o.op with
    | none => rw [okO_none hk] at hO; cases hO
    | some k =>
      have hf : okF k o = true := by rw [← okO_some hk]; exact hO
      refine (reads_yes o k w hk hf).mono ?_
      rintro e w' ⟨b, rfl, hA, hb⟩
      have h2 := rc_two k o
      have hl : (rdL o).length = rcN k o := by rw [rd_yes hk hf, List.length_take]; simp; omega
      refine ⟨some ⟨b, 0, none⟩, rcN k o, by rw [hl], ⟨fun _ => ⟨b, rfl, hA.lt, fun i hi => ?_⟩⟩, hb⟩
      obtain ⟨_, _, _, _, ha, _, hb', _, _, _⟩ := ho
      rw [hl] at hi
      have e : (rdL o)[i]? = [o.a.toNat, o.b.toNat][i]? := by rw [rd_yes hk hf, List.getElem?_take, if_pos hi]
      rcases (show i = 0 ∨ i = 1 by omega) with rfl | rfl
      · have : (rdL o)[0] = o.a.toNat := by
          have := List.getElem?_eq_some_iff.1 e
          exact this.2
        rw [this, hA.c 0 _ rfl, Int.toNat_of_nonneg ha]; rfl
      · have : (rdL o)[1] = o.b.toNat := by
          have := List.getElem?_eq_some_iff.1 e
          exact this.2
        rw [this, hA.c 1 _ rfl, Int.toNat_of_nonneg hb']; rfl
theorem take_put {xs : List Nat} {k y : Nat} (h : k < xs.length) : (xs.take (k + 1)).foldl put y = put ((xs.take k).foldl put y) xs[k] := by
  rw [List.take_succ_eq_append_getElem h, List.foldl_append]; rfl
theorem take_lt {xs : List Nat} {k y : Nat} (hy : y < 4294967296) (h : ∀ r ∈ xs, r < 32) : (xs.take k).foldl put y < 4294967296 := fold_lt hy fun r hr => h r (List.mem_of_mem_take hr)

set_option maxHeartbeats 1000000 in
theorem aheadOf_any (o : O) (x : Nat) (w : World) (ho : o.Ok) (hx : x < 4294967296) : Calls Tryz.prog 124 #[o.val, .int .u32 x] w fun e w' => e = .returned (.int .u32 (aheadN (wOf o) x : Nat)) ∧ Below w.heap.size w w' := by
  have hs := Lv.small_of o ho
  have HO : Hid (∀ (r : Nat) w, r < 32 → Calls Tryz.prog 92 #[.int .u8 r] w fun e w' => e = .returned (.int .u32 ((2 ^ r : Nat) : Int)) ∧ w' = w) := fun r w h => only_any r w h
  have HR : Hid _ := fun w => reads_sl o w ho
  have HW0 := fun w => writes_any o w ho
  have hrd : ∀ r ∈ rdL o, r < 32 := hs.1
  have hyl : wipe (wOf o) x < 4294967296 := wipe_lt hx
  have hdef : aheadN (wOf o) x = (rdL o).foldl put (wipe (wOf o) x) := rfl
  rw [hdef]
  have hll : (rdL o).length ≤ 2 := by unfold rdL; split <;> (try split) <;> (try split) <;> simp
  generalize hxs : rdL o = xs at *
  cases hw : wrB o with
  | false =>
    have e0 : wipe (wOf o) x = x := by simp [wipe, wOf, hw]
    rw [e0]
    rw [hw] at HW0
    have HW : Hid _ := HW0
    clear HW0 hs hdef hw e0 hyl ho hxs
    go_enter Tryz.func124, Tryz.ntmps124
    go_wp2_with (first
      | (go_at_call 85; refine Calls.mono (HW.out _) ?_; rintro e w1 ⟨rfl, hb⟩; obtain ⟨a1, hb0, hz⟩ := one_new w _ _ hb; obtain ⟨o0, o1, o2, o3, o4⟩ := a1.o5; have HB : Hid (Below w.heap.size w w1) := hb0; clear hb hb0 a1 HW)
      | (go_at_call 84; refine Calls.mono (HR.out _) ?_; rintro e w2 ⟨a, c, rfl, hl, hb⟩; have HL : Hid (Rl w2 a xs) := hl; have HB2 : Hid (Below w.heap.size w w2) := HB.out.trans (hb.mono (Nat.le_of_lt hz)); clear hb hl HR o0 o1 o2 o3 o4))
    go_loop [1, 22] (fun b i => ∃ k : Nat, k ≤ xs.length ∧ i = .int .i64 k ∧ b = .int .u32 (((xs.take k).foldl put x : Nat) : Int)) (fun _ i => xs.length - (intOf i).toNat)
    case atStart => exact ⟨0, by omega, rfl, rfl⟩
    case round =>
      obtain ⟨k, hk, rfl, rfl⟩ := hrel
      by_cases hlt : k < xs.length
      · obtain ⟨b, rfl, hb, hc⟩ := HL.out.is (by omega)
        have cc := hc k hlt
        have hr : xs[k] < 32 := hrd _ (List.getElem_mem hlt)
        have hb1 : (xs.take k).foldl put x < 4294967296 := take_lt hx hrd
        have HE : Hid _ := put_u32 hb1 hr
        have HT : Hid _ := take_put (y := x) hlt
        generalize xs[k] = r at *
        generalize (xs.take k).foldl put x = y at *
        clear hc HL hb1
        go_wp2_with (first | (go_at_call 92; refine Calls.mono (HO.out _ _ hr) ?_; rintro e w3 ⟨rfl, hw3⟩; subst w3))
        go_roundw
        case rel => exact ⟨k + 1, by omega, by go_num, by rw [HT.out, HE.out]⟩
        case measure => simp [intOf]; omega
      · obtain rfl : k = xs.length := by omega
        rw [List.take_length]
        go_wp2
        go_ret
        exact ⟨rfl, HB2.out⟩
  | true =>
    have hd0 : wrD o = ((o.d.toNat : Nat) : Int) := by
      obtain ⟨_, _, hd, _⟩ := ho
      simp only [wrD, hw, if_true]; omega
    have hd1 : o.d.toNat < 32 := hs.2 _ (by simp [wOf, hw])
    have e0 : wipe (wOf o) x = clr x o.d.toNat := by simp [wipe, wOf, hw]
    rw [e0] at hyl ⊢
    rw [hw, hd0] at HW0
    have HW : Hid _ := HW0
    have HC : Hid _ := clr_u32 hx hd1
    generalize o.d.toNat = d at *
    clear HW0 hs hdef hw e0 ho hd0 hxs
    go_enter Tryz.func124, Tryz.ntmps124
    go_wp2_with (first
      | (go_at_call 85; refine Calls.mono (HW.out _) ?_; rintro e w1 ⟨rfl, hb⟩; obtain ⟨a1, hb0, hz⟩ := one_new w _ _ hb; obtain ⟨o0, o1, o2, o3, o4⟩ := a1.o5; have HB : Hid (Below w.heap.size w w1) := hb0; clear hb hb0 a1 HW)
      | (go_at_call 92; refine Calls.mono (HO.out _ _ hd1) ?_; rintro e w3 ⟨rfl, hw3⟩; subst w3)
      | (go_at_call 84; refine Calls.mono (HR.out _) ?_; rintro e w2 ⟨a, c, rfl, hl, hb⟩; have HL : Hid (Rl w2 a xs) := hl; have HB2 : Hid (Below w.heap.size w w2) := HB.out.trans (hb.mono (Nat.le_of_lt hz)); clear hb hl HR o0 o1 o2 o3 o4))
    go_loop [1, 22] (fun b i => ∃ k : Nat, k ≤ xs.length ∧ i = .int .i64 k ∧ b = .int .u32 (((xs.take k).foldl put (clr x d) : Nat) : Int)) (fun _ i => xs.length - (intOf i).toNat)
    case atStart => exact ⟨0, by omega, rfl, by rw [HC.out]; rfl⟩
    case round =>
      obtain ⟨k, hk, rfl, rfl⟩ := hrel
      by_cases hlt : k < xs.length
      · obtain ⟨b, rfl, hb, hc⟩ := HL.out.is (by omega)
        have cc := hc k hlt
        have hr : xs[k] < 32 := hrd _ (List.getElem_mem hlt)
        have hb1 : (xs.take k).foldl put (clr x d) < 4294967296 := take_lt hyl hrd
        have HE : Hid _ := put_u32 hb1 hr
        have HT : Hid _ := take_put (y := clr x d) hlt
        generalize xs[k] = r at *
        generalize (xs.take k).foldl put (clr x d) = y at *
        clear hc HL hb1
        go_wp2_with (first | (go_at_call 92; refine Calls.mono (HO.out _ _ hr) ?_; rintro e w3 ⟨rfl, hw3⟩; subst w3))
        go_roundw
        case rel => exact ⟨k + 1, by omega, by go_num, by rw [HT.out, HE.out]⟩
        case measure => simp [intOf]; omega
      · obtain rfl : k = xs.length := by omega
        rw [List.take_length]
        go_wp2
        go_ret
        exact ⟨rfl, HB2.out⟩

/-- A list of operations, from the end. -/
theorem drop_put {xs : List O} {k x : Nat} (h : k < xs.length) : aheadNL ((xs.drop k).map wOf) x = aheadN (wOf xs[k]) (aheadNL ((xs.drop (k + 1)).map wOf) x) := by
  rw [List.drop_eq_getElem_cons h]; rfl
theorem drop_lt {xs : List O} {k x : Nat} (hx : x < 4294967296) (h : ∀ o ∈ xs, o.Ok) : aheadNL ((xs.drop k).map wOf) x < 4294967296 :=
  aheadNL_lt hx fun o ho => by
    obtain ⟨y, hy, rfl⟩ := List.mem_map.1 ho
    exact Lv.small_of y (h y (List.mem_of_mem_drop hy))
set_option maxHeartbeats 1000000 in
theorem aheadOfList_any (ao : Option Addr) (cap : Nat) (xs : List O) (x : Nat) (w : World) (h : OpsAt w ao xs) (hx : x < 4294967296) :
    Calls Tryz.prog 110 #[.slice ao xs.length cap, .int .u32 x] w fun e w' => e = .returned (.int .u32 (aheadNL (xs.map wOf) x : Nat)) ∧ Below w.heap.size w w' := by
  have hlen := h.len
  have HO : Hid (OpsAt w ao xs) := h
  clear h
  go_enter Tryz.func110, Tryz.ntmps110
  go_wp2
  go_loopw [1, 5] (fun b i wr => ∃ k : Nat, k ≤ xs.length ∧ i = .int .i64 ((k : Int) - 1) ∧ b = .int .u32 ((aheadNL ((xs.drop k).map wOf) x : Nat) : Int) ∧ Below w.heap.size w wr) (fun _ i _ => (intOf i + 1).toNat)
  case atStart => exact ⟨xs.length, Nat.le_refl _, by go_num, by rw [List.drop_length]; rfl, Below.refl _ _⟩
  case round =>
    rename_i wr
    obtain ⟨k, hk, rfl, rfl, hbw⟩ := hrel
    cases k with
    | zero =>
      have e : xs.drop 0 = xs := rfl
      rw [e]
      go_wp2
      go_ret
      exact ⟨rfl, hbw⟩
    | succ k =>
      obtain ⟨b, f, rfl, hz, hc⟩ := HO.out.is (by omega)
      obtain ⟨c0, c1, c2, c3, c4⟩ := (hc k (by omega)).below hbw hz
      have hb1 : aheadNL ((xs.drop (k + 1)).map wOf) x < 4294967296 := drop_lt hx HO.out.ok
      have HT : Hid _ := drop_put (x := x) (show k < xs.length by omega)
      have HA : Hid _ := fun w' => aheadOf_any xs[k] _ w' (HO.out.ok _ (List.getElem_mem _)) hb1
      have e1 : ((k + 1 : Nat) : Int) - 1 = (k : Int) := by omega
      rw [e1]
      have i1 : (0 : Int) ≤ (k : Int) := by omega
      have i2 : (k : Int) < (xs.length : Int) := by omega
      generalize xs[k] = o at *
      generalize aheadNL ((xs.drop (k + 1)).map wOf) x = y at *
      clear hc HO e1 hb1
      go_wp2_with (first | (go_at_call 124; refine Calls.mono (HA.out _) ?_; rintro e w3 ⟨rfl, hb3⟩))
      go_roundw
      case rel => exact ⟨k, by omega, by go_num, by rw [HT.out], hbw.trans (hb3.mono hbw.size)⟩
      case measure => simp [intOf]
theorem or_u32 {x y : Nat} (hx : x < 4294967296) (hy : y < 4294967296) : bits .or .u32 (x : Int) (y : Int) = ((x ||| y : Nat) : Int) := u32_or_nat x y hx hy
theorem map_small {xs : List O} (h : ∀ o ∈ xs, o.Ok) : ∀ o ∈ xs.map wOf, Lv.Small o := fun o ho => by
  obtain ⟨y, hy, rfl⟩ := List.mem_map.1 ho
  exact Lv.small_of y (h y hy)
theorem aheadOfRounds_any (ao : Option Addr) (cap : Nat) (xs : List O) (x : Nat) (w : World) (h : OpsAt w ao xs) (hx : x < 4294967296) :
    Calls Tryz.prog 93 #[.slice ao xs.length cap, .int .u32 x] w fun e w' => e = .returned (.int .u32 (loopN (xs.map wOf) x : Nat)) ∧ Below w.heap.size w w' := by
  have HE : Hid (bits .or .u32 (x : Int) ((aheadNL (xs.map wOf) x : Nat) : Int) = ((loopN (xs.map wOf) x : Nat) : Int)) := or_u32 hx (aheadNL_lt hx (map_small h.ok))
  have HL : Hid _ := aheadOfList_any ao cap xs x w h hx
  clear h
  go_enter Tryz.func93, Tryz.ntmps93
  go_wp2_with (first | (go_at_call 110; refine Calls.mono HL.out ?_; rintro e w1 ⟨rfl, hb⟩))
  go_ret
  exact ⟨ret_int HE.out, hb⟩
end Go.Proofs.YtddcndlogoajkaaGreatDoor.L8.Li
