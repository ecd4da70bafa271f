/- The document's answer on what is into each block: sets that grow, round by round, until they don't: read off the program by the walk. Conditions: the program lies in memory. -/
import Derived.Test.YtddcndlogoajkaaGreatDoorBa
import Derived.Test.YtddcndlogoajkaaGreatDoorQRw
import Derived.Test.YtddcndlogoajkaaGreatDoorQRj
namespace Go.Proofs.YtddcndlogoajkaaGreatDoor.L8.Li
open Go.ChangeShapes Go.WideShapes Go.ChangeAt Go.RowKit Go.Maps
open _root_.Go.Proofs.YtddcndlogoajkaaGreatDoor.L8.So _root_.Go.Proofs.YtddcndlogoajkaaGreatDoor.L8.Op _root_.Go.Proofs.YtddcndlogoajkaaGreatDoor.L8.Fl _root_.Go.Proofs.YtddcndlogoajkaaGreatDoor.L8.Lv
set_option maxRecDepth 20000

/-- The program's box, and all that was there. -/
structure Bw (w W : World) (ao : Option Addr) (cap : Nat) (ps : List Bk) : Prop where
  a : Op.At W w.heap.size #[.slice ao ps.length cap]
  b : Below w.heap.size w W
theorem Bw.up {w W W' : World} {ao : Option Addr} {cap : Nat} {ps : List Bk} (h : Bw w W ao cap ps) (hb : Below W.heap.size W W') : Bw w W' ao cap ps := ⟨h.a.below hb h.a.lt, h.b.trans (hb.mono h.b.size)⟩
theorem Bw.new (w : World) (ao : Option Addr) (cap : Nat) (ps : List Bk) : Bw w (w.alloc (.cells #[.slice ao ps.length cap] 24)) ao cap ps := ⟨Op.At.new _ _ _, below_al _⟩
theorem Bw.cell {w W : World} {ao : Option Addr} {cap : Nat} {ps : List Bk} (h : Bw w W ao cap ps) : W.cell? ⟨w.heap.size, 0, none⟩ = some (.slice ao ps.length cap) := h.a.c 0 _ rfl
theorem put_mod {x d : Nat} (hx : x < 4294967296) (hd : d < 32) : bits .or .u32 (x : Int) ((2 : Int) ^ d % 4294967296) = ((put x d : Nat) : Int) := by rw [pow_mod hd]; exact u32_or_nat x (2 ^ d) hx (pow32 hd)
theorem clr_mod {x d : Nat} (hx : x < 4294967296) (hd : d < 32) : bits .andNot .u32 (x : Int) ((2 : Int) ^ d % 4294967296) = ((clr x d : Nat) : Int) := by rw [pow_mod hd]; exact u32_andNot_nat x (2 ^ d) hx (pow32 hd)
end Go.Proofs.YtddcndlogoajkaaGreatDoor.L8.Li
namespace Go.Proofs.YtddcndlogoajkaaGreatDoor.L8.Li
open Go.ChangeShapes Go.WideShapes Go.ChangeAt Go.RowKit
open _root_.Go.Proofs.YtddcndlogoajkaaGreatDoor.L8.So _root_.Go.Proofs.YtddcndlogoajkaaGreatDoor.L8.Op _root_.Go.Proofs.YtddcndlogoajkaaGreatDoor.L8.Fl _root_.Go.Proofs.YtddcndlogoajkaaGreatDoor.L8.Lv
set_option maxRecDepth 20000

theorem ba_all : (kindL.all fun k => !k.B || k.A) = true := by decide
theorem b_a {d : Int} {k : K} (h : kOf d = some k) (hA : k.A = false) : k.B = false := by
  obtain ⟨n, hn, -, rfl⟩ := kOf_some h
  have := List.all_eq_true.1 ba_all _ (List.getElem_mem (l := kindL) hn)
  simp [hA] at this
  exact this
theorem sl_rl {w : World} {v : Value} {n : Nat} {f : Nat → Int} {xs : List Nat} (h : SlAt w v n f) (hn : xs.length = n) (hf : ∀ (j : Nat) (hj : j < xs.length), ((xs[j] : Nat) : Int) = f j) : ∃ a c, v = .slice a xs.length c ∧ Rl w a xs := by
  subst hn
  rcases h with ⟨h0, p, c, rfl⟩ | ⟨b, c, rfl, hb, hc⟩
  · exact ⟨p, c, by rw [h0], ⟨fun h => by omega⟩⟩
  · exact ⟨_, c, rfl, ⟨fun _ => ⟨b, rfl, hb, fun i hi => by rw [hf i hi]; exact hc i hi⟩⟩⟩
theorem refReads_sl (o : O) (w : World) (ho : o.Ok) : Calls Tryz.prog 111 #[o.val] w fun e w' => ∃ a c, e = .returned (.slice a (rdL o).length c) ∧ Rl w' a (rdL o) ∧ Below w.heap.size w w' := by
  cases hO : okO o with
  | false =>
    refine (refReads_no o w ho hO).mono ?_
    rintro e w' ⟨rfl, hb⟩
    rw [rd_no hO]
    exact ⟨none, 0, rfl, ⟨fun h => by simp at h⟩, hb⟩
  | true =>
    cases hk : kOf o.op with
    | none => rw [okO_none hk] at hO; cases hO
    | some k =>
      have hf : okF k o = true := by rw [← okO_some hk]; exact hO
      refine (refReads_yes o k w ho hk hf (b_a hk)).mono ?_
      rintro e w' ⟨v, rfl, hS, hb⟩
      have h2 := rc_two k o
      have hl : (rdL o).length = rcN k o := by rw [rd_yes hk hf, List.length_take]; simp; omega
      obtain ⟨_, _, _, _, ha, _, hb', _, _, _⟩ := ho
      obtain ⟨a, c, rfl, hR⟩ := sl_rl (xs := rdL o) hS hl (fun j hj => by
        rw [hl] at hj
        have e : (rdL o)[j]? = [o.a.toNat, o.b.toNat][j]? := by rw [rd_yes hk hf, List.getElem?_take, if_pos hj]
        rcases (show j = 0 ∨ j = 1 by omega) with rfl | rfl
        · have : (rdL o)[0] = o.a.toNat := (List.getElem?_eq_some_iff.1 e).2
          rw [this]; simp only [rf, if_true]; omega
        · have : (rdL o)[1] = o.b.toNat := (List.getElem?_eq_some_iff.1 e).2
          rw [this]; simp [rf]; omega)
      exact ⟨a, c, rfl, hR, hb⟩
set_option maxHeartbeats 1000000 in
theorem refAhead_any (o : O) (x : Nat) (w : World) (ho : o.Ok) (hx : x < 4294967296) : Calls Tryz.prog 97 #[o.val, .int .u32 x] w fun e w' => e = .returned (.int .u32 (aheadN (wOf o) x : Nat)) ∧ Below w.heap.size w w' := by
  have hs := Lv.small_of o ho
  have HR : Hid _ := fun w => refReads_sl o w ho
  have HW0 := fun w => refWrites_any o w ho
  have hrd : ∀ r ∈ rdL o, r < 32 := hs.1
  have hyl : wipe (wOf o) x < 4294967296 := wipe_lt hx
  have hdef : aheadN (wOf o) x = (rdL o).foldl put (wipe (wOf o) x) := rfl
  rw [hdef]
  have hll : (rdL o).length ≤ 2 := by unfold rdL; split <;> (try split) <;> (try split) <;> simp
  generalize hxs : rdL o = xs at *
  cases hw : wrB o with
  | false =>
    have e0 : wipe (wOf o) x = x := by simp [wipe, wOf, hw]
    rw [e0]
    rw [hw] at HW0
    have HW : Hid _ := HW0
    clear HW0 hs hdef hw e0 hyl ho hxs
    go_enter Tryz.func97, Tryz.ntmps97
    go_wp2_with (first
      | (go_at_call 44; refine Calls.mono (HW.out _) ?_; rintro e w1 ⟨rfl, hb⟩; obtain ⟨a1, hb0, hz⟩ := one_new w _ _ hb; obtain ⟨o0, o1, o2, o3, o4⟩ := a1.o5; have HB : Hid (Below w.heap.size w w1) := hb0; clear hb hb0 a1 HW)
      | (go_at_call 111; refine Calls.mono (HR.out _) ?_; rintro e w2 ⟨a, c, rfl, hl, hb⟩; have HL : Hid (Rl w2 a xs) := hl; have HB2 : Hid (Below w.heap.size w w2) := HB.out.trans (hb.mono (Nat.le_of_lt hz)); clear hb hl HR o0 o1 o2 o3 o4))
    go_loop [1, 8] (fun b i => ∃ k : Nat, k ≤ xs.length ∧ i = .int .i64 k ∧ b = .int .u32 (((xs.take k).foldl put x : Nat) : Int)) (fun _ i => xs.length - (intOf i).toNat)
    case atStart => exact ⟨0, by omega, rfl, rfl⟩
    case round =>
      obtain ⟨k, hk, rfl, rfl⟩ := hrel
      by_cases hlt : k < xs.length
      · obtain ⟨b, rfl, hb, hc⟩ := HL.out.is (by omega)
        have cc := hc k hlt
        have hr : xs[k] < 32 := hrd _ (List.getElem_mem hlt)
        have hr1 : ((xs[k] : Nat) : Int) ≤ 32 := by omega
        have hr2 : (0 : Int) ≤ ((xs[k] : Nat) : Int) := by omega
        have hkz : (k : Int) < (xs.length : Int) := by omega
        have hb1 : (xs.take k).foldl put x < 4294967296 := take_lt hx hrd
        have HE : Hid _ := put_mod hb1 hr
        have HT : Hid _ := take_put (y := x) hlt
        generalize xs[k] = r at *
        generalize (xs.take k).foldl put x = y at *
        clear hc HL hb1
        go_wp2
        go_roundw
        case rel => exact ⟨k + 1, by omega, by go_num, by rw [HT.out, HE.out]⟩
        case measure => simp [intOf]; omega
      · obtain rfl : k = xs.length := by omega
        rw [List.take_length]
        go_wp2
        go_ret
        exact ⟨rfl, HB2.out⟩
  | true =>
    have hd0 : wrD o = ((o.d.toNat : Nat) : Int) := by
      obtain ⟨_, _, hd, _⟩ := ho
      simp only [wrD, hw, if_true]; omega
    have hd1 : o.d.toNat < 32 := hs.2 _ (by simp [wOf, hw])
    have e0 : wipe (wOf o) x = clr x o.d.toNat := by simp [wipe, wOf, hw]
    rw [e0] at hyl ⊢
    rw [hw, hd0] at HW0
    have HW : Hid _ := HW0
    have HC : Hid _ := clr_mod hx hd1
    have hd2 : ((o.d.toNat : Nat) : Int) ≤ 32 := by omega
    have hd3 : (0 : Int) ≤ ((o.d.toNat : Nat) : Int) := by omega
    generalize o.d.toNat = d at *
    clear HW0 hs hdef hw e0 ho hd0 hxs
    go_enter Tryz.func97, Tryz.ntmps97
    go_wp2_with (first
      | (go_at_call 44; refine Calls.mono (HW.out _) ?_; rintro e w1 ⟨rfl, hb⟩; obtain ⟨a1, hb0, hz⟩ := one_new w _ _ hb; obtain ⟨o0, o1, o2, o3, o4⟩ := a1.o5; have HB : Hid (Below w.heap.size w w1) := hb0; clear hb hb0 a1 HW)
      | (go_at_call 111; refine Calls.mono (HR.out _) ?_; rintro e w2 ⟨a, c, rfl, hl, hb⟩; have HL : Hid (Rl w2 a xs) := hl; have HB2 : Hid (Below w.heap.size w w2) := HB.out.trans (hb.mono (Nat.le_of_lt hz)); clear hb hl HR o0 o1 o2 o3 o4))
    go_loop [1, 8] (fun b i => ∃ k : Nat, k ≤ xs.length ∧ i = .int .i64 k ∧ b = .int .u32 (((xs.take k).foldl put (clr x d) : Nat) : Int)) (fun _ i => xs.length - (intOf i).toNat)
    case atStart => exact ⟨0, by omega, rfl, by rw [HC.out]; rfl⟩
    case round =>
      obtain ⟨k, hk, rfl, rfl⟩ := hrel
      by_cases hlt : k < xs.length
      · obtain ⟨b, rfl, hb, hc⟩ := HL.out.is (by omega)
        have cc := hc k hlt
        have hr : xs[k] < 32 := hrd _ (List.getElem_mem hlt)
        have hr1 : ((xs[k] : Nat) : Int) ≤ 32 := by omega
        have hr2 : (0 : Int) ≤ ((xs[k] : Nat) : Int) := by omega
        have hkz : (k : Int) < (xs.length : Int) := by omega
        have hb1 : (xs.take k).foldl put (clr x d) < 4294967296 := take_lt hyl hrd
        have HE : Hid _ := put_mod hb1 hr
        have HT : Hid _ := take_put (y := clr x d) hlt
        generalize xs[k] = r at *
        generalize (xs.take k).foldl put (clr x d) = y at *
        clear hc HL hb1
        go_wp2
        go_roundw
        case rel => exact ⟨k + 1, by omega, by go_num, by rw [HT.out, HE.out]⟩
        case measure => simp [intOf]; omega
      · obtain rfl : k = xs.length := by omega
        rw [List.take_length]
        go_wp2
        go_ret
        exact ⟨rfl, HB2.out⟩

set_option maxHeartbeats 1000000 in
theorem refList_any (ao : Option Addr) (cap : Nat) (xs : List O) (fr x : Nat) (w : World) (h : OpsAt w ao xs) (hx : x < 4294967296) (hfr : fr ≤ xs.length) :
    Calls Tryz.prog 76 #[.slice ao xs.length cap, .int .i64 fr, .int .u32 x] w fun e w' => e = .returned (.int .u32 (aheadNL ((xs.drop fr).map wOf) x : Nat)) ∧ Below w.heap.size w w' := by
  have hlen := h.len
  have HO : Hid (OpsAt w ao xs) := h
  clear h
  go_enter Tryz.func76, Tryz.ntmps76
  go_wp2
  go_loopw [2, 7] (fun b i wr => ∃ k : Nat, fr ≤ k ∧ k ≤ xs.length ∧ i = .int .i64 ((k : Int) - 1) ∧ b = .int .u32 ((aheadNL ((xs.drop k).map wOf) x : Nat) : Int) ∧ Below w.heap.size w wr) (fun _ i _ => (intOf i + 1).toNat)
  case atStart => exact ⟨xs.length, hfr, Nat.le_refl _, by go_num, by rw [List.drop_length]; rfl, Below.refl _ _⟩
  case round =>
    rename_i wr
    obtain ⟨k, hkf, hk, rfl, rfl, hbw⟩ := hrel
    by_cases hz0 : k = fr
    · subst hz0
      have i3 : ¬ ((k : Int) ≤ (k : Int) - 1) := by omega
      go_wp2
      go_ret
      exact ⟨rfl, hbw⟩
    · obtain ⟨k, rfl⟩ : ∃ j, k = j + 1 := ⟨k - 1, by omega⟩
      obtain ⟨b, f, rfl, hz, hc⟩ := HO.out.is (by omega)
      obtain ⟨c0, c1, c2, c3, c4⟩ := (hc k (by omega)).below hbw hz
      have hb1 : aheadNL ((xs.drop (k + 1)).map wOf) x < 4294967296 := drop_lt hx HO.out.ok
      have HT : Hid _ := drop_put (x := x) (show k < xs.length by omega)
      have HA : Hid _ := fun w' => refAhead_any xs[k] _ w' (HO.out.ok _ (List.getElem_mem _)) hb1
      have e1 : ((k + 1 : Nat) : Int) - 1 = (k : Int) := by omega
      rw [e1]
      have i1 : (0 : Int) ≤ (k : Int) := by omega
      have i3 : (fr : Int) ≤ (k : Int) := by omega
      have i2 : (k : Int) < (xs.length : Int) := by omega
      generalize xs[k] = o at *
      generalize aheadNL ((xs.drop (k + 1)).map wOf) x = y at *
      clear hc HO e1 hb1
      go_wp2_with (first | (go_at_call 97; refine Calls.mono (HA.out _) ?_; rintro e w3 ⟨rfl, hb3⟩))
      go_roundw
      case rel => exact ⟨k, by omega, by omega, by go_num, by rw [HT.out], hbw.trans (hb3.mono hbw.size)⟩
      case measure => simp [intOf]
end Go.Proofs.YtddcndlogoajkaaGreatDoor.L8.Li
namespace Go.Proofs.YtddcndlogoajkaaGreatDoor.L8.Li
open Go.ChangeShapes Go.WideShapes Go.ChangeAt Go.RowKit
open _root_.Go.Proofs.YtddcndlogoajkaaGreatDoor.L8.So _root_.Go.Proofs.YtddcndlogoajkaaGreatDoor.L8.Op _root_.Go.Proofs.YtddcndlogoajkaaGreatDoor.L8.Fl _root_.Go.Proofs.YtddcndlogoajkaaGreatDoor.L8.Lv
set_option maxRecDepth 20000

theorem or_mod {a y : Nat} (ha : a < 32) (hy : y < 4294967296) : bits .or .u32 ((2 : Int) ^ a % 4294967296) (y : Int) = ((2 ^ a ||| y : Nat) : Int) := by rw [pow_mod ha]; exact u32_or_nat (2 ^ a) y (pow32 ha) hy
theorem refHalt_any (x : Bk) (p : Pl) (v : Value) (w : World) (ha0 : 0 ≤ x.a) (ha : x.a < 32) (h0 : x.fin = 2) :
    Calls Tryz.prog 96 #[x.val p, v] w fun e w' => e = .returned (.int .u32 ((2 ^ x.a.toNat : Nat) : Int)) ∧ Below w.heap.size w w' := by
  obtain ⟨xo, xf, xa, xb, xt, xe⟩ := x
  simp only at h0 ha0 ha
  obtain ⟨a, rfl⟩ : ∃ a : Nat, xa = a := ⟨xa.toNat, by omega⟩
  subst h0
  have h2 : (a : Int) ≤ 32 := by omega
  have hp := pow_mod (r := a) (by omega)
  have HP : Hid _ := hp
  clear hp
  go_enter Tryz.func96, Tryz.ntmps96
  go_wp2
  go_ret
  exact ⟨ret_int HP.out, by go_grown⟩
theorem refJump_any (x : Bk) (p : Pl) (b c : Nat) (xs : List Nat) (w : World) (hU : Ul w (some ⟨b, 0, none⟩) xs) (ht0 : 0 ≤ x.thn) (ht : x.thn < xs.length) (h0 : x.fin = 0) :
    Calls Tryz.prog 96 #[x.val p, .slice (some ⟨b, 0, none⟩) xs.length c] w fun e w' => e = .returned (.int .u32 ((inN xs x.thn.toNat : Nat) : Int)) ∧ Below w.heap.size w w' := by
  obtain ⟨xo, xf, xa, xb, xt, xe⟩ := x
  simp only at h0 ht0 ht
  obtain ⟨t, rfl⟩ : ∃ t : Nat, xt = t := ⟨xt.toNat, by omega⟩
  subst h0
  have cc := hU.at (t := t) (by omega)
  obtain ⟨b', e, hb⟩ := hU.addr (by omega)
  cases e
  clear hU
  go_enter Tryz.func96, Tryz.ntmps96
  go_wp2
  go_ret
  exact ⟨rfl, by go_grown⟩
set_option maxHeartbeats 1000000 in
theorem refBranch_any (x : Bk) (p : Pl) (b c : Nat) (xs : List Nat) (w : World) (hU : Ul w (some ⟨b, 0, none⟩) xs) (hF : Fit xs) (ha0 : 0 ≤ x.a) (ha : x.a < 32) (ht0 : 0 ≤ x.thn) (ht : x.thn < xs.length) (he0 : 0 ≤ x.els) (he : x.els < xs.length) (h0 : x.fin = 1) :
    Calls Tryz.prog 96 #[x.val p, .slice (some ⟨b, 0, none⟩) xs.length c] w fun e w' => e = .returned (.int .u32 ((2 ^ x.a.toNat ||| inN xs x.thn.toNat ||| inN xs x.els.toNat : Nat) : Int)) ∧ Below w.heap.size w w' := by
  obtain ⟨xo, xf, xa, xb, xt, xe⟩ := x
  simp only at h0 ht0 ht he0 he ha0 ha
  obtain ⟨t, rfl⟩ : ∃ t : Nat, xt = t := ⟨xt.toNat, by omega⟩
  obtain ⟨u, rfl⟩ : ∃ u : Nat, xe = u := ⟨xe.toNat, by omega⟩
  obtain ⟨a, rfl⟩ : ∃ a : Nat, xa = a := ⟨xa.toNat, by omega⟩
  subst h0
  have c1 := hU.at (t := t) (by omega)
  have c2 := hU.at (t := u) (by omega)
  obtain ⟨b', e, hb⟩ := hU.addr (by omega)
  cases e
  simp only [Int.toNat_natCast]
  have h2 : (a : Int) ≤ 32 := by omega
  have f1 : 2 ^ a < 4294967296 := pow32 (by omega)
  have HE1 : Hid (bits .or .u32 ((2 : Int) ^ a % 4294967296) ((inN xs t : Nat) : Int) = ((2 ^ a ||| inN xs t : Nat) : Int)) := or_mod (by omega) (hF t)
  have HE2 : Hid (bits .or .u32 ((2 ^ a ||| inN xs t : Nat) : Int) ((inN xs u : Nat) : Int) = ((2 ^ a ||| inN xs t ||| inN xs u : Nat) : Int)) := or_u32 (Nat.or_lt_two_pow (n := 32) f1 (hF t)) (hF u)
  generalize inN xs t = y1 at *
  generalize inN xs u = y2 at *
  clear hU hF f1
  go_enter Tryz.func96, Tryz.ntmps96
  go_wp2_with fail
  go_quiet (fail)
  go_wp2_with fail
  go_ret
  refine ⟨ret_int ?_, ?_⟩
  · rw [HE1.out, HE2.out]
  · exact drewN_below (by go_grown) _
def lpN (l : List W) (x k : Nat) : Nat := if k = 0 then x else loopN l x
theorem lpN_step {l : List W} {x : Nat} (hx : x < 4294967296) (hl : ∀ o ∈ l, Lv.Small o) (k : Nat) : loopN l (lpN l x k) = lpN l x (k + 1) := by
  unfold lpN
  rw [if_neg (show ¬ k + 1 = 0 by omega)]
  by_cases h : k = 0
  · rw [if_pos h]
  · rw [if_neg h, loopN_again hx hl]
theorem lpN_lt {l : List W} {x : Nat} (hx : x < 4294967296) (hl : ∀ o ∈ l, Lv.Small o) (k : Nat) : lpN l x k < 4294967296 := by
  unfold lpN
  split
  · exact hx
  · exact loopN_lt hx hl
set_option maxHeartbeats 1000000 in
theorem refLoop_any (x : Bk) (p : Pl) (b c : Nat) (xs : List Nat) (w : World) (hB : OpsAt w p.ba x.body) (hU : Ul w (some ⟨b, 0, none⟩) xs) (hF : Fit xs) (ha0 : 0 ≤ x.a) (ha : x.a < 32) (ht0 : 0 ≤ x.thn) (ht : x.thn < xs.length) (h0 : x.fin = 3) :
    Calls Tryz.prog 96 #[x.val p, .slice (some ⟨b, 0, none⟩) xs.length c] w fun e w' => e = .returned (.int .u32 ((2 ^ x.a.toNat ||| loopN (x.body.map wOf) (inN xs x.thn.toNat) : Nat) : Int)) ∧ Below w.heap.size w w' := by
  obtain ⟨xo, xf, xa, xb, xt, xe⟩ := x
  simp only at h0 ht0 ht ha0 ha hB
  obtain ⟨t, rfl⟩ : ∃ t : Nat, xt = t := ⟨xt.toNat, by omega⟩
  obtain ⟨a, rfl⟩ : ∃ a : Nat, xa = a := ⟨xa.toNat, by omega⟩
  subst h0
  have c1 := hU.at (t := t) (by omega)
  obtain ⟨b', e, hb⟩ := hU.addr (by omega)
  cases e
  simp only [Int.toNat_natCast]
  have h2 : (a : Int) ≤ 32 := by omega
  have h3 : (0 : Int) ≤ (a : Int) := by omega
  have hsm := map_small hB.ok
  have hx0 := hF t
  have HE1 : Hid (bits .or .u32 ((2 : Int) ^ a % 4294967296) ((loopN (xb.map wOf) (inN xs t) : Nat) : Int) = ((2 ^ a ||| loopN (xb.map wOf) (inN xs t) : Nat) : Int)) := or_mod (by omega) (loopN_lt hx0 hsm)
  have HL : Hid (∀ k W, Below w.heap.size w W → Calls Tryz.prog 76 #[.slice p.ba xb.length p.bc, .int .i64 0, .int .u32 ((lpN (xb.map wOf) (inN xs t) k : Nat) : Int)] W fun e w' => e = .returned (.int .u32 ((aheadNL (xb.map wOf) (lpN (xb.map wOf) (inN xs t) k) : Nat) : Int)) ∧ Below W.heap.size W w') := fun k W hW => refList_any p.ba p.bc xb 0 _ W (hB.below hW) (lpN_lt hx0 hsm k) (Nat.zero_le _)
  have HS : Hid (∀ k, bits .or .u32 ((lpN (xb.map wOf) (inN xs t) k : Nat) : Int) ((aheadNL (xb.map wOf) (lpN (xb.map wOf) (inN xs t) k) : Nat) : Int) = ((lpN (xb.map wOf) (inN xs t) (k + 1) : Nat) : Int)) := fun k => by
    rw [← lpN_step hx0 hsm]
    exact or_u32 (lpN_lt hx0 hsm k) (aheadNL_lt (lpN_lt hx0 hsm k) hsm)
  have HA : Hid (Op.At (w.alloc (.cells #[.slice p.oa xo.length p.oc, .int .i8 3, .int .u8 a, .slice p.ba xb.length p.bc, .int .i64 t, .int .i64 xe] 49)) w.heap.size #[.slice p.oa xo.length p.oc, .int .i8 3, .int .u8 a, .slice p.ba xb.length p.bc, .int .i64 t, .int .i64 xe] ∧ Below w.heap.size w (w.alloc (.cells #[.slice p.oa xo.length p.oc, .int .i8 3, .int .u8 a, .slice p.ba xb.length p.bc, .int .i64 t, .int .i64 xe] 49))) := ⟨Op.At.new _ _ _, below_al _⟩
  have HLast : Hid (lpN (xb.map wOf) (inN xs t) 33 = loopN (xb.map wOf) (inN xs t)) := rfl
  have HFirst : Hid (lpN (xb.map wOf) (inN xs t) 0 = inN xs t) := rfl
  clear hU hB hF hsm hx0 ha0 ha
  go_enter Tryz.func96, Tryz.ntmps96
  go_wp2
  generalize w.alloc (.cells #[.slice p.oa xo.length p.oc, .int .i8 3, .int .u8 a, .slice p.ba xb.length p.bc, .int .i64 t, .int .i64 xe] 49) = V at *
  go_loopw [5, 6] (fun v i wr => ∃ k : Nat, k ≤ 33 ∧ i = .int .i64 k ∧ v = .int .u32 ((lpN (xb.map wOf) (inN xs t) k : Nat) : Int) ∧ Hid (Op.At wr w.heap.size #[.slice p.oa xo.length p.oc, .int .i8 3, .int .u8 a, .slice p.ba xb.length p.bc, .int .i64 t, .int .i64 xe] ∧ Below w.heap.size w wr)) (fun _ i _ => 33 - (intOf i).toNat)
  case atStart => exact ⟨0, by omega, rfl, by rw [HFirst.out], HA.out⟩
  case round =>
    rename_i wr
    clear HA
    obtain ⟨k, hk, rfl, rfl, H1⟩ := hrel
    have k2 := H1.out.1.c 2 _ rfl
    have k3 := H1.out.1.c 3 _ rfl
    by_cases hlt : k ≤ 32
    · have hlz : (k : Int) ≤ 32 := by omega
      have HL1 : Hid _ := HL.out k wr H1.out.2
      have HS1 : Hid _ := HS.out k
      generalize aheadNL (xb.map wOf) (lpN (xb.map wOf) (inN xs t) k) = y1 at *
      generalize lpN (xb.map wOf) (inN xs t) k = y0 at *
      clear HL HS
      go_wp2_with (first
        | (go_at_call 76; refine Calls.mono HL1.out ?_; rintro e w3 ⟨rfl, hb3⟩))
      go_roundw
      case rel => exact ⟨k + 1, by omega, by go_num, by rw [HS1.out], H1.out.1.below hb3 H1.out.1.lt, H1.out.2.trans (hb3.mono H1.out.2.size)⟩
      case measure => simp [intOf]; omega
    · obtain rfl : k = 33 := by omega
      rw [HLast.out]
      clear HL HS HLast HFirst
      go_wp2
      go_ret
      exact ⟨ret_int HE1.out, H1.out.2⟩
theorem refEnd8_any (x : Bk) (p : Pl) (a : Option Addr) (c : Nat) (xs : List Nat) (w : World) (hx : BIn w x p) (hU : Ul w a xs) (hF : Fit xs) (h0 : 0 < xs.length) (he : endB x xs.length = true) :
    Calls Tryz.prog 96 #[x.val p, .slice a xs.length c] w fun e w' => e = .returned (.int .u32 ((endN (bOf x) xs : Nat) : Int)) ∧ Below w.heap.size w w' := by
  obtain ⟨b, rfl, hb⟩ := hU.addr h0
  have ha0 := hx.ok.a0
  rcases end_fin he with h | h | h | h
  · have ht := end_thn he (by omega)
    have e : endN (bOf x) xs = inN xs x.thn.toNat := by simp [endN, bOf, eOf, h]
    rw [e]
    exact refJump_any x p b c xs w hU ht.1 ht.2 h
  · have ht := end_thn he (by omega)
    have hl := end_els he h
    have e : endN (bOf x) xs = 2 ^ x.a.toNat ||| inN xs x.thn.toNat ||| inN xs x.els.toNat := by simp [endN, bOf, eOf, h]
    rw [e]
    exact refBranch_any x p b c xs w hU hF ha0 (end_reg he (by omega)) ht.1 ht.2 hl.1 hl.2 h
  · have e : endN (bOf x) xs = 2 ^ x.a.toNat := by simp [endN, bOf, eOf, h]
    rw [e]
    exact refHalt_any x p _ w ha0 (end_reg he (by omega)) h
  · have ht := end_thn he (by omega)
    have e : endN (bOf x) xs = 2 ^ x.a.toNat ||| loopN (x.body.map wOf) (inN xs x.thn.toNat) := by simp [endN, bOf, eOf, h]
    rw [e]
    exact refLoop_any x p b c xs w hx.b hU hF ha0 (end_reg he (by omega)) ht.1 ht.2 h
end Go.Proofs.YtddcndlogoajkaaGreatDoor.L8.Li
namespace Go.Proofs.YtddcndlogoajkaaGreatDoor.L8.Li
open Go.ChangeShapes Go.WideShapes Go.ChangeAt Go.RowKit
open _root_.Go.Proofs.YtddcndlogoajkaaGreatDoor.L8.So _root_.Go.Proofs.YtddcndlogoajkaaGreatDoor.L8.Op _root_.Go.Proofs.YtddcndlogoajkaaGreatDoor.L8.Fl _root_.Go.Proofs.YtddcndlogoajkaaGreatDoor.L8.Lv
set_option maxRecDepth 20000

theorem refIn_no (ao : Option Addr) (cap : Nat) (ps : List Bk) (w : World) (h : PAt w ao ps) (hc : ckP ps ≠ 0) :
    Calls Tryz.prog 95 #[.agg #[.slice ao ps.length cap]] w fun e w' => e = .returned (.slice none 0 0) ∧ Below w.heap.size w w' := by
  have HC : Hid (Calls Tryz.prog 22 #[.agg #[.slice ao ps.length cap]] (w.alloc (.cells #[.slice ao ps.length cap] 24)) fun e w' => e = .returned (.int .i64 (ckP ps)) ∧ Below (w.alloc (.cells #[.slice ao ps.length cap] 24)).heap.size (w.alloc (.cells #[.slice ao ps.length cap] 24)) w') := refCheckP_any ao cap ps _ (h.below (below_al _))
  generalize ckP ps = z at *
  clear h
  go_enter Tryz.func95, Tryz.ntmps95
  go_wp2_with (first | (go_at_call 22; refine Calls.mono HC.out ?_; rintro e w1 ⟨rfl, hb⟩; obtain ⟨a1, hb0, hz⟩ := one_new w _ _ hb; have HB1 : Hid _ := hb0; clear hb hb0 a1 HC))
  go_ret
  exact ⟨rfl, HB1.out⟩
/-- The sets under way. -/
structure D2 (w wr : World) (ao : Option Addr) (cap : Nat) (ps : List Bk) (bI : Nat) (xs : List Nat) : Prop where
  q : Bw w wr ao cap ps
  hI : w.heap.size < bI
  u : Op.At wr bI (uc xs)
  so : So (PB ps) xs
theorem D2.xl {w wr : World} {ao : Option Addr} {cap : Nat} {ps : List Bk} {bI : Nat} {xs : List Nat} (h : D2 w wr ao cap ps bI xs) : xs.length = ps.length := by rw [h.so.len]; simp
theorem D2.up {w wr w' : World} {ao : Option Addr} {cap : Nat} {ps : List Bk} {bI : Nat} {xs : List Nat} (h : D2 w wr ao cap ps bI xs) (hb : Below wr.heap.size wr w') : D2 w w' ao cap ps bI xs := ⟨h.q.up hb, h.hI, h.u.below hb h.u.lt, h.so⟩
theorem D2.set {w wr : World} {ao : Option Addr} {cap : Nat} {ps : List Bk} {bI g : Nat} {xs : List Nat} (h : D2 w wr ao cap ps bI xs) (hs : ∀ (i : Nat) k, (PB ps)[i]? = some k → SmallB k) (hg : g < ps.length) : D2 w (wr.setCell ⟨bI, g, none⟩ (.int .u32 ((inN xs g ||| intoN (bOf ps[g]) xs : Nat) : Int))) ao cap ps bI (xs.set g (inN xs g ||| intoN (bOf ps[g]) xs)) := by
  have hx := h.xl
  have hI := h.hI
  refine ⟨⟨at_fr h.q.a ((Fr.refl (One bI) wr).setCell (Or.inr rfl) _ _) (fun e => ?_), ?_⟩, hI, ?_, h.so.put (pb_at hg) (hs g _ (pb_at hg))⟩
  · have e : w.heap.size = bI := e
    omega
  · exact ((Fr.of (X := Non) h.q.b).setCell (Or.inl (by omega)) _ _).non
  · rw [← uc_set]
    exact h.u.set (by rw [uc_size]; omega) _
theorem D2.start {w w1 : World} {ao : Option Addr} {cap : Nat} {ps : List Bk} (h : Bw w w1 ao cap ps) (t : TypeId) : D2 w (w1.alloc (.cells (madeCells #[.int .u32 0] ps.length) t)) ao cap ps w1.heap.size (List.replicate ps.length 0) := by
  refine ⟨h.up (below_al _), h.a.lt, ?_, ?_⟩
  · rw [uc_made]; exact Op.At.new _ _ _
  · have := So.init (PB ps)
    simpa using this
theorem left_step {ps : List Bk} {xs : List Nat} {g : Nat} (hs : ∀ (i : Nat) k, (PB ps)[i]? = some k → SmallB k) (hf : Fit xs) (hg : g < ps.length) (hx : xs.length = ps.length) : left (xs.set g (inN xs g ||| intoN (bOf ps[g]) xs)) ≤ left xs ∧ (inN xs g ||| intoN (bOf ps[g]) xs ≠ inN xs g → left (xs.set g (inN xs g ||| intoN (bOf ps[g]) xs)) < left xs) := by
  have key : inN xs g ||| intoN (bOf ps[g]) xs ≠ inN xs g → left (xs.set g (inN xs g ||| intoN (bOf ps[g]) xs)) < left xs := fun hne => by
    refine left_set (by omega) ?_ (Nat.or_lt_two_pow (n := 32) (hf g) (intoN_lt (hs g _ (pb_at hg)) hf))
    have := grow_lt hne
    rw [← inN_eq (by omega : g < xs.length)]
    exact this
  refine ⟨?_, key⟩
  by_cases e : inN xs g ||| intoN (bOf ps[g]) xs = inN xs g
  · rw [e, inN_eq (by omega), List.set_getElem_self]; exact Nat.le_refl _
  · exact Nat.le_of_lt (key e)
/-- A round under way: what has grown, and how far. -/
structure D3 (ps : List Bk) (xs0 xs : List Nat) (grown : Bool) (k : Nat) : Prop where
  r : Rnd (PB ps) xs grown k
  le : left xs ≤ left xs0
  lt : grown = true → left xs < left xs0
theorem D3.step {ps : List Bk} {xs0 xs : List Nat} {grown : Bool} {g : Nat} (h : D3 ps xs0 xs grown (g + 1)) (hs : ∀ (i : Nat) k, (PB ps)[i]? = some k → SmallB k) (hf : Fit xs) (hg : g < ps.length) (hx : xs.length = ps.length) :
    D3 ps xs0 (xs.set g (inN xs g ||| intoN (bOf ps[g]) xs)) (grown || (inN xs g ||| intoN (bOf ps[g]) xs) != inN xs g) g := by
  obtain ⟨h1, h2⟩ := left_step hs hf hg hx
  refine ⟨h.r.step (pb_at hg) (by omega), Nat.le_trans h1 h.le, fun hn => ?_⟩
  rw [Bool.or_eq_true] at hn
  rcases hn with hn | hn
  · exact Nat.lt_of_le_of_lt h1 (h.lt hn)
  · exact Nat.lt_of_lt_of_le (h2 (by simpa using hn)) h.le

set_option maxHeartbeats 8000000 in
theorem refIn_yes (ao : Option Addr) (cap : Nat) (ps : List Bk) (w : World) (h : PAt w ao ps) (hc : ckP ps = 0) :
    Calls Tryz.prog 95 #[.agg #[.slice ao ps.length cap]] w fun e w' => ∃ v xs, e = .returned v ∧ Gu w w' v xs ∧ So (PB ps) xs ∧ ∀ (i : Nat) k, (PB ps)[i]? = some k → Lv.Shut k xs i := by
  have HC : Hid (Calls Tryz.prog 22 #[.agg #[.slice ao ps.length cap]] (w.alloc (.cells #[.slice ao ps.length cap] 24)) fun e w' => e = .returned (.int .i64 0) ∧ Below (w.alloc (.cells #[.slice ao ps.length cap] 24)).heap.size (w.alloc (.cells #[.slice ao ps.length cap] 24)) w') := by
    have := refCheckP_any ao cap ps _ (h.below (below_al (w := w) (.cells #[.slice ao ps.length cap] 24)))
    rw [hc] at this; exact this
  have hG := good_of hc
  have hpos := hG.pos
  have hle := hG.le
  have hok := psOk_of h
  have HSm : Hid (∀ (i : Nat) k, (PB ps)[i]? = some k → SmallB k) := pb_small hc hok
  obtain ⟨bp, fp, rfl, hblt, hx⟩ := h.is hpos
  have HX : Hid (∀ (i : Nat) (h : i < ps.length), ∃ p, BAt w bp (fp + i * 6) ps[i] p ∧ BIn w ps[i] p) := hx
  have HFn : Hid (∀ (i : Nat) (h : i < ps.length), endB ps[i] ps.length = true) := fun i hi => end_of (ck_blocks hc _ (List.getElem_mem hi))
  have HE : Hid (∀ (i : Nat) (hi : i < ps.length) p bI c xs W, BIn W ps[i] p → Op.At W bI (uc xs) → Fit xs → xs.length = ps.length → Calls Tryz.prog 96 #[ps[i].val p, .slice (some ⟨bI, 0, none⟩) ps.length c] W fun e w' => e = .returned (.int .u32 ((endN (bOf ps[i]) xs : Nat) : Int)) ∧ Below W.heap.size W w') := fun i hi p bI c xs W h1 h2 h3 h4 => by
    have := refEnd8_any ps[i] p (some ⟨bI, 0, none⟩) c xs W h1 (ul_of h2) h3 (by omega) (by rw [h4]; exact HFn.out i hi)
    rw [h4] at this
    exact this
  have HL : Hid (∀ (i : Nat) (hi : i < ps.length) p xs W, BIn W ps[i] p → Fit xs → Calls Tryz.prog 76 #[.slice p.oa ps[i].ops.length p.oc, .int .i64 0, .int .u32 ((endN (bOf ps[i]) xs : Nat) : Int)] W fun e w' => e = .returned (.int .u32 ((intoN (bOf ps[i]) xs : Nat) : Int)) ∧ Below W.heap.size W w') := fun i hi p xs W h1 h2 => refList_any p.oa p.oc ps[i].ops 0 (endN (bOf ps[i]) xs) W h1.o (end_lt (HFn.out i hi) h1.ok.a0 h1.o.ok h1.b.ok h2) (Nat.zero_le _)
  obtain ⟨i1, hi, hi2⟩ := Option.map_eq_some_iff.1 info99
  simp only [Prod.mk.injEq] at hi2
  obtain ⟨hz0, hz1, hz2⟩ := hi2
  have HJ : Hid (Tryz.prog.info? 99 = some i1 ∧ i1.zero = some (.int .u32 0) ∧ i1.size = 1 ∧ i1.bytes = 4) := ⟨hi, hz0, hz1, hz2⟩
  clear hi hz0 hz1 hz2 h hG hok hx hc
  go_enter Tryz.func95, Tryz.ntmps95
  go_wp2_with (first
    | (go_at_call 22; refine Calls.mono HC.out ?_; rintro e w1 ⟨rfl, hb⟩; obtain ⟨a1, hb0, hz⟩ := one_new w _ _ hb; have H1 : Hid (Bw w w1 (some ⟨bp, fp, none⟩) cap ps) := ⟨a1, hb0⟩; have cb := H1.out.cell; clear hb hb0 a1 HC)
    | (at_make; refine wpList_make_row _ rfl _ _ 97 rfl 99 i1 (.int .u32 0) Tryz.underlying97 HJ.out.1 HJ.out.2.1 HJ.out.2.2.1 rfl .i64 .i64 ps.length rfl rfl (by rw [HJ.out.2.2.2]; omega) (by omega) ?_))
  have HS : Hid (D2 w (w1.alloc (.cells (madeCells #[.int .u32 0] ps.length) 99)) (some ⟨bp, fp, none⟩) cap ps w1.heap.size (List.replicate ps.length 0)) := D2.start H1.out 99
  generalize w1.heap.size = bI at *
  clear H1 cb
  go_loopg [5] (left (List.replicate ps.length 0) * 2 + 2) (fun g1 v wr => ∃ (xs : List Nat) (grown : Bool), v = .bool grown ∧ left xs * 2 + (if grown then 1 else 0) < g1 ∧ Hid (D2 w wr (some ⟨bp, fp, none⟩) cap ps bI xs ∧ (grown = false → ∀ (i : Nat) k, (PB ps)[i]? = some k → Lv.Shut k xs i)))
  case atStart => exact ⟨_, true, rfl, by simp, HS.out, fun h => by cases h⟩
  case round =>
    clear HS
    obtain ⟨xs, grown, rfl, hcg, H2⟩ := hrel
    cases grown with
    | false =>
      have hR : Hid (xs.length = ps.length ∧ Ul wr (some ⟨bI, 0, none⟩) xs ∧ Below w.heap.size w wr ∧ So (PB ps) xs ∧ ∀ (i : Nat) k, (PB ps)[i]? = some k → Lv.Shut k xs i) := ⟨H2.out.1.xl, ul_of H2.out.1.u, H2.out.1.q.b, H2.out.1.so, H2.out.2 rfl⟩
      clear H2
      go_wp2
      go_ret
      exact ⟨_, xs, rfl, ⟨_, _, by rw [hR.out.1]; rfl, hR.out.2.1, hR.out.2.2.1⟩, hR.out.2.2.2⟩
    | true =>
      go_wp2
      go_loopw [5, 6] (fun v i wq => ∃ (k : Nat) (ys : List Nat) (gr : Bool), k ≤ ps.length ∧ i = .int .i64 ((k : Int) - 1) ∧ v = .bool gr ∧ Hid (D2 w wq (some ⟨bp, fp, none⟩) cap ps bI ys ∧ D3 ps xs ys gr k)) (fun _ i _ => (intOf i + 1).toNat)
      case atStart => exact ⟨ps.length, xs, false, Nat.le_refl _, by go_num, rfl, H2.out.1, ⟨by have := Rnd.init (PB ps) xs; simpa using this, Nat.le_refl _, fun h => by cases h⟩⟩
      case round =>
        rename World => wq
        clear H2
        obtain ⟨k, ys, gr, hk, rfl, rfl, H3⟩ := hrel
        cases k with
        | zero =>
          have HN : Hid (D2 w wq (some ⟨bp, fp, none⟩) cap ps bI ys ∧ (gr = false → ∀ (i : Nat) k, (PB ps)[i]? = some k → Lv.Shut k ys i)) := ⟨H3.out.1, fun hg => by have := H3.out.2.r; rw [hg] at this; exact this.done⟩
          have hm : left ys * 2 + (if gr then 1 else 0) < left xs * 2 + 1 := by
            have h1 := H3.out.2.le
            have h2 := H3.out.2.lt
            cases gr with
            | false => simp; omega
            | true => have := h2 rfl; simp; omega
          simp only [if_true] at hcg
          clear H3
          go_wp2
          go_roundg (left xs * 2 + 1)
          case measure => omega
          case rel => exact ⟨ys, gr, rfl, by omega, HN.out⟩
        | succ k =>
          have hkp : k < ps.length := by omega
          have hkz : (k : Int) < (ps.length : Int) := by omega
          have e1 : ((k + 1 : Nat) : Int) - 1 = (k : Int) := by omega
          rw [e1]
          obtain ⟨p, hp, hin⟩ := HX.out k hkp
          have hyl := H3.out.1.xl
          have hfit := H3.out.1.so.fit
          have HE1 : Hid (∀ z : Wd (Below wq.heap.size wq), Calls Tryz.prog 96 #[ps[k].val p, .slice (some ⟨bI, 0, none⟩) ps.length ps.length] z.w fun e w' => e = .returned (.int .u32 ((endN (bOf ps[k]) ys : Nat) : Int)) ∧ Below z.w.heap.size z.w w') := fun z => HE.out k hkp p bI _ ys z.w (hin.below (H3.out.1.up z.ok).q.b) (H3.out.1.up z.ok).u hfit hyl
          have HL1 : Hid (∀ z : Wd (Below wq.heap.size wq), Calls Tryz.prog 76 #[.slice p.oa ps[k].ops.length p.oc, .int .i64 0, .int .u32 ((endN (bOf ps[k]) ys : Nat) : Int)] z.w fun e w' => e = .returned (.int .u32 ((intoN (bOf ps[k]) ys : Nat) : Int)) ∧ Below z.w.heap.size z.w w') := fun z => HL.out k hkp p ys z.w (hin.below (H3.out.1.up z.ok).q.b) hfit
          have HO : Hid (bits .or .u32 ((inN ys k : Nat) : Int) ((intoN (bOf ps[k]) ys : Nat) : Int) = ((inN ys k ||| intoN (bOf ps[k]) ys : Nat) : Int)) := or_u32 (hfit k) (intoN_lt (HSm.out k _ (pb_at hkp)) hfit)
          have H4 : Hid (∀ W, Below wq.heap.size wq W → D2 w (W.setCell ⟨bI, k, none⟩ (.int .u32 ((inN ys k ||| intoN (bOf ps[k]) ys : Nat) : Int))) (some ⟨bp, fp, none⟩) cap ps bI (ys.set k (inN ys k ||| intoN (bOf ps[k]) ys))) := fun W hW => (H3.out.1.up hW).set HSm.out hkp
          have H5 : Hid (D3 ps xs (ys.set k (inN ys k ||| intoN (bOf ps[k]) ys)) (gr || (inN ys k ||| intoN (bOf ps[k]) ys) != inN ys k) k) := H3.out.2.step HSm.out hfit hkp hyl
          have HP : Hid (∀ z : Wd (Below wq.heap.size wq), BAt z.w bp (fp + k * 6) ps[k] p) := fun z => hp.below (H3.out.1.up z.ok).q.b hblt
          have e0 : ∀ z : Wd (Below wq.heap.size wq), z.w.cell? ⟨w.heap.size, 0, none⟩ = some (.slice (some ⟨bp, fp, none⟩) ps.length cap) := fun z => (H3.out.1.up z.ok).q.cell
          have e2 : ∀ z : Wd (Below wq.heap.size wq), z.w.cell? ⟨bI, k, none⟩ = some (.int .u32 ((inN ys k : Nat) : Int)) := fun z => (H3.out.1.up z.ok).u.c k _ (uc_get (by omega))
          have HU : Hid (∀ z : Wd (Below wq.heap.size wq), z.w.cell? ⟨bI, k, none⟩ = some (.int .u32 ((inN ys k : Nat) : Int)) ∧ z.w.frozen? ⟨bI, k, none⟩ = false) := fun z => ⟨e2 z, (H3.out.1.up z.ok).u.f k⟩
          generalize ys.set k (inN ys k ||| intoN (bOf ps[k]) ys) = ys' at *
          generalize hyo : inN ys k ||| intoN (bOf ps[k]) ys = yo at *
          generalize intoN (bOf ps[k]) ys = yi at *
          generalize inN ys k = yk at *
          generalize endN (bOf ps[k]) ys = ye at *
          generalize ps[k] = x at *
          clear hp hin H3 hfit HE HL hyo HX HFn e1
          obtain ⟨xo, xf, xa, xb, xt, xe⟩ := x
          have q0 : ∀ z : Wd (Below wq.heap.size wq), z.w.cell? ⟨bp, fp + k * 6, none⟩ = some (.slice p.oa xo.length p.oc) := fun z => (HP.out z).c0
          have q1 : ∀ z : Wd (Below wq.heap.size wq), z.w.cell? ⟨bp, fp + k * 6 + 1, none⟩ = some (.int .i8 xf) := fun z => (HP.out z).c1
          have q2 : ∀ z : Wd (Below wq.heap.size wq), z.w.cell? ⟨bp, fp + k * 6 + 2, none⟩ = some (.int .u8 xa) := fun z => (HP.out z).c2
          have q3 : ∀ z : Wd (Below wq.heap.size wq), z.w.cell? ⟨bp, fp + k * 6 + 3, none⟩ = some (.slice p.ba xb.length p.bc) := fun z => (HP.out z).c3
          have q4 : ∀ z : Wd (Below wq.heap.size wq), z.w.cell? ⟨bp, fp + k * 6 + 4, none⟩ = some (.int .i64 xt) := fun z => (HP.out z).c4
          have q5 : ∀ z : Wd (Below wq.heap.size wq), z.w.cell? ⟨bp, fp + k * 6 + 5, none⟩ = some (.int .i64 xe) := fun z => (HP.out z).c5
          haveI inst : Nonempty (Wd (Below wq.heap.size wq)) := ⟨⟨wq, Below.refl _ _⟩⟩
          have i1' : (0 : Int) ≤ (k : Int) := by omega
          go_wp2_with fail
          refine wp_region_in (Below wq.heap.size wq) (by kernel_rfl) (by kernel_rfl) ((Below.refl _ _).drew) ?_
          repeat (first | go_big_quiet_step ((first
            | (go_at_call 96; exact calls_in (Nat.le_refl _) _ (HE1.out _))
            | (go_at_call 76; exact calls_in (Nat.le_refl _) _ (HL1.out _)))))
          refine wpQuiet_nil ?_
          rintro _ ⟨x, rfl⟩
          have hx6 := x.ok
          obtain ⟨cu, fu⟩ := HU.out x
          have H6 : Hid (Below wq.heap.size wq x.w) := hx6
          rw [HO.out]
          generalize x.w = w6 at *
          clear e0 e2 q0 q1 q2 q3 q4 q5 inst HE1 HL1 HP HU HO hx6 x
          cases gr with
          | true =>
            go_wp2_with fail
            go_roundw
            case rel => exact ⟨k, _, _, by omega, by go_num, rfl, H4.out _ H6.out, H5.out⟩
            case measure => simp [intOf]
          | false =>
            have hbq : (((yo : Nat) : Int) != ((yk : Nat) : Int)) = (yo != yk) := by
              rw [Bool.eq_iff_iff]; simp only [bne_iff_ne, ne_eq]; omega
            go_wp2_with fail
            go_roundw
            case rel => exact ⟨k, _, _, by omega, by go_num, rfl, H4.out _ H6.out, H5.out⟩
            case measure => simp [intOf]
theorem refIn_is (I : List Nat) (ao : Option Addr) (cap : Nat) (ps : List Bk) (w : World) (hI0 : InIs ps I) (h : PAt w ao ps) :
    Calls Tryz.prog 95 #[.agg #[.slice ao ps.length cap]] w fun e w' => ∃ a c, e = .returned (.slice a I.length c) ∧ Ul w' a I ∧ IsIn ps I ∧ Below w.heap.size w w' := by
  by_cases hc : ckP ps = 0
  · refine (refIn_yes ao cap ps w h hc).mono ?_
    rintro e w' ⟨v, xs, rfl, ⟨a, c, rfl, h3, h4⟩, h5⟩
    have hI : IsIn ps xs := ⟨fun _ => h5, fun hn => absurd hc hn⟩
    have e1 := hI0 _ hI
    subst e1
    exact ⟨a, c, rfl, h3, hI, h4⟩
  · refine (refIn_no ao cap ps w h hc).mono ?_
    rintro e w' ⟨rfl, hb⟩
    have hI : IsIn ps [] := ⟨fun hn => absurd hn hc, fun _ => rfl⟩
    have e1 := hI0 _ hI
    rw [← e1]
    exact ⟨none, 0, rfl, Ul.nil _ _, hI, hb⟩
end Go.Proofs.YtddcndlogoajkaaGreatDoor.L8.Li
