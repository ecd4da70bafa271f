/- The list of work, a map of blocks: its greatest block, whatever order the map is gone through in. Conditions: the map's keys are small numbers. -/
import Derived.Test.YtddcndlogoajkaaGreatDoorQVa
import Derived.Test.YtddcndlogoajkaaGreatDoorQRg
import Derived.Maps.RangeWalk
import Derived.Maps.OwnSet
import Derived.Maps.OwnOps
import Derived.WideKeyPair
import Derived.Carry
namespace Go.Proofs.YtddcndlogoajkaaGreatDoor.L8.Li
open Go.ChangeShapes Go.WideShapes Go.ChangeAt Go.RowKit
open _root_.Go.Proofs.YtddcndlogoajkaaGreatDoor.L8.So _root_.Go.Proofs.YtddcndlogoajkaaGreatDoor.L8.Op _root_.Go.Proofs.YtddcndlogoajkaaGreatDoor.L8.Fl _root_.Go.Proofs.YtddcndlogoajkaaGreatDoor.L8.Lv
set_option maxRecDepth 20000

/-- A list of sets in memory. -/
structure Ul (w : World) (a : Option Addr) (xs : List Nat) : Prop where
  is : 0 < xs.length → ∃ b, a = some ⟨b, 0, none⟩ ∧ b < w.heap.size ∧ ∀ (i : Nat) (h : i < xs.length), w.cell? ⟨b, i, none⟩ = some (.int .u32 ((xs[i] : Nat) : Int))
theorem Ul.below {w w' : World} {a : Option Addr} {xs : List Nat} (h : Ul w a xs) (hb : Below w.heap.size w w') : Ul w' a xs := ⟨fun h0 => by
  obtain ⟨b, e, hlt, hc⟩ := h.is h0
  exact ⟨b, e, Nat.lt_of_lt_of_le hlt hb.size, fun i hi => by rw [(bcell hb).1 _ _ hlt]; exact hc i hi⟩⟩
theorem Ul.nil (w : World) (a : Option Addr) : Ul w a [] := ⟨fun h => by simp at h⟩
theorem Ul.at {w : World} {b : Nat} {xs : List Nat} (h : Ul w (some ⟨b, 0, none⟩) xs) {t : Nat} (ht : t < xs.length) : w.cell? ⟨b, t, none⟩ = some (.int .u32 ((inN xs t : Nat) : Int)) := by
  obtain ⟨b', e, hlt, hc⟩ := h.is (by omega)
  cases e
  rw [inN_eq ht]; exact hc t ht
theorem Ul.addr {w : World} {a : Option Addr} {xs : List Nat} (h : Ul w a xs) (h0 : 0 < xs.length) : ∃ b, a = some ⟨b, 0, none⟩ ∧ b < w.heap.size := by
  obtain ⟨b, e, hlt, hc⟩ := h.is h0
  exact ⟨b, e, hlt⟩

theorem halt_any (x : Bk) (p : Pl) (v : Value) (w : World) (ha0 : 0 ≤ x.a) (ha : x.a < 32) (h0 : x.fin = 2) :
    Calls Tryz.prog 71 #[x.val p, v] w fun e w' => e = .returned (.int .u32 ((2 ^ x.a.toNat : Nat) : Int)) ∧ Below w.heap.size w w' := by
  obtain ⟨xo, xf, xa, xb, xt, xe⟩ := x
  simp only at h0 ha0 ha
  obtain ⟨a, rfl⟩ : ∃ a : Nat, xa = a := ⟨xa.toNat, by omega⟩
  subst h0
  have HO : Hid _ := fun w => only_any a w (by omega)
  clear ha ha0
  go_enter Tryz.func71, Tryz.ntmps71
  go_wp2_with (first | (go_at_call 92; refine Calls.mono (HO.out _) ?_; rintro e w3 ⟨rfl, hw3⟩; subst w3))
  go_ret
  exact ⟨rfl, by go_grown⟩
theorem jump_any (x : Bk) (p : Pl) (b c : Nat) (xs : List Nat) (w : World) (hU : Ul w (some ⟨b, 0, none⟩) xs) (ht0 : 0 ≤ x.thn) (ht : x.thn < xs.length) (h0 : x.fin = 0) :
    Calls Tryz.prog 71 #[x.val p, .slice (some ⟨b, 0, none⟩) xs.length c] w fun e w' => e = .returned (.int .u32 ((inN xs x.thn.toNat : Nat) : Int)) ∧ Below w.heap.size w w' := by
  obtain ⟨xo, xf, xa, xb, xt, xe⟩ := x
  simp only at h0 ht0 ht
  obtain ⟨t, rfl⟩ : ∃ t : Nat, xt = t := ⟨xt.toNat, by omega⟩
  subst h0
  have cc := hU.at (t := t) (by omega)
  obtain ⟨b', e, hb⟩ := hU.addr (by omega)
  cases e
  clear hU
  go_enter Tryz.func71, Tryz.ntmps71
  go_wp2
  go_ret
  exact ⟨rfl, by go_grown⟩
set_option maxHeartbeats 1000000 in
theorem branch_any (x : Bk) (p : Pl) (b c : Nat) (xs : List Nat) (w : World) (hU : Ul w (some ⟨b, 0, none⟩) xs) (hF : Fit xs) (ha0 : 0 ≤ x.a) (ha : x.a < 32) (ht0 : 0 ≤ x.thn) (ht : x.thn < xs.length) (he0 : 0 ≤ x.els) (he : x.els < xs.length) (h0 : x.fin = 1) :
    Calls Tryz.prog 71 #[x.val p, .slice (some ⟨b, 0, none⟩) xs.length c] w fun e w' => e = .returned (.int .u32 ((2 ^ x.a.toNat ||| inN xs x.thn.toNat ||| inN xs x.els.toNat : Nat) : Int)) ∧ Below w.heap.size w w' := by
  obtain ⟨xo, xf, xa, xb, xt, xe⟩ := x
  simp only at h0 ht0 ht he0 he ha0 ha
  obtain ⟨t, rfl⟩ : ∃ t : Nat, xt = t := ⟨xt.toNat, by omega⟩
  obtain ⟨u, rfl⟩ : ∃ u : Nat, xe = u := ⟨xe.toNat, by omega⟩
  obtain ⟨a, rfl⟩ : ∃ a : Nat, xa = a := ⟨xa.toNat, by omega⟩
  subst h0
  have c1 := hU.at (t := t) (by omega)
  have c2 := hU.at (t := u) (by omega)
  obtain ⟨b', e, hb⟩ := hU.addr (by omega)
  cases e
  have HO : Hid (∀ w, Calls Tryz.prog 92 #[.int .u8 a] w fun e w' => e = .returned (.int .u32 ((2 ^ a : Nat) : Int)) ∧ w' = w) := fun w => only_any a w (by omega)
  simp only [Int.toNat_natCast]
  have f1 : 2 ^ a < 4294967296 := pow32 (by omega)
  have HE1 : Hid (bits .or .u32 ((2 ^ a : Nat) : Int) ((inN xs t : Nat) : Int) = ((2 ^ a ||| inN xs t : Nat) : Int)) := or_u32 f1 (hF t)
  have HE2 : Hid (bits .or .u32 ((2 ^ a ||| inN xs t : Nat) : Int) ((inN xs u : Nat) : Int) = ((2 ^ a ||| inN xs t ||| inN xs u : Nat) : Int)) := or_u32 (Nat.or_lt_two_pow (n := 32) f1 (hF t)) (hF u)
  generalize hm : 2 ^ a = m at *
  generalize inN xs t = y1 at *
  generalize inN xs u = y2 at *
  clear hU hF f1 hm ha0 ha
  go_enter Tryz.func71, Tryz.ntmps71
  go_wp2_with fail
  go_quiet (first | (go_at_call 92; refine Calls.quiet_of_same (HO.out _)))
  go_wp2_with fail
  go_ret
  refine ⟨ret_int ?_, ?_⟩
  · rw [HE1.out, HE2.out]
  · exact drewN_below (by go_grown) _
theorem below_al {w : World} (o : Obj) : Below w.heap.size w (w.alloc o) := (Below.refl _ _).alloc (Nat.le_refl _) _
set_option maxHeartbeats 1000000 in
theorem loop_any (x : Bk) (p : Pl) (b c : Nat) (xs : List Nat) (w : World) (hB : OpsAt w p.ba x.body) (hU : Ul w (some ⟨b, 0, none⟩) xs) (hF : Fit xs) (ha0 : 0 ≤ x.a) (ha : x.a < 32) (ht0 : 0 ≤ x.thn) (ht : x.thn < xs.length) (h0 : x.fin = 3) :
    Calls Tryz.prog 71 #[x.val p, .slice (some ⟨b, 0, none⟩) xs.length c] w fun e w' => e = .returned (.int .u32 ((2 ^ x.a.toNat ||| loopN (x.body.map wOf) (inN xs x.thn.toNat) : Nat) : Int)) ∧ Below w.heap.size w w' := by
  obtain ⟨xo, xf, xa, xb, xt, xe⟩ := x
  simp only at h0 ht0 ht ha0 ha hB
  obtain ⟨t, rfl⟩ : ∃ t : Nat, xt = t := ⟨xt.toNat, by omega⟩
  obtain ⟨a, rfl⟩ : ∃ a : Nat, xa = a := ⟨xa.toNat, by omega⟩
  subst h0
  have htl : (t : Int) < (xs.length : Int) := by omega
  have c1 := hU.at (t := t) (by omega)
  obtain ⟨b', e, hb⟩ := hU.addr (by omega)
  cases e
  simp only [Int.toNat_natCast]
  have f1 : 2 ^ a < 4294967296 := pow32 (by omega)
  have f2 : loopN (xb.map wOf) (inN xs t) < 4294967296 := loopN_lt (hF t) (map_small hB.ok)
  have HE1 : Hid (bits .or .u32 ((2 ^ a : Nat) : Int) ((loopN (xb.map wOf) (inN xs t) : Nat) : Int) = ((2 ^ a ||| loopN (xb.map wOf) (inN xs t) : Nat) : Int)) := or_u32 f1 f2
  have HO : Hid (∀ w, Calls Tryz.prog 92 #[.int .u8 a] w fun e w' => e = .returned (.int .u32 ((2 ^ a : Nat) : Int)) ∧ Below w.heap.size w w') := fun w => (only_any a w (by omega)).mono fun _ _ h => ⟨h.1, by rw [h.2]; exact Below.refl _ _⟩
  have hW : Below w.heap.size w (w.alloc (.cells #[.slice p.oa xo.length p.oc, .int .i8 3, .int .u8 a, .slice p.ba xb.length p.bc, .int .i64 t, .int .i64 xe] 49)) := below_al _
  generalize hV : w.alloc (.cells #[.slice p.oa xo.length p.oc, .int .i8 3, .int .u8 a, .slice p.ba xb.length p.bc, .int .i64 t, .int .i64 xe] 49) = V at hW
  have hsz : w.heap.size < V.heap.size := by rw [← hV]; simp
  have d2 : ∀ x : Wd (Below V.heap.size V), x.w.cell? ⟨w.heap.size, 2, none⟩ = some (.int .u8 a) := fun x => by rw [(bcell x.ok).1 _ _ (by omega), ← hV]; simp
  have d3 : ∀ x : Wd (Below V.heap.size V), x.w.cell? ⟨w.heap.size, 3, none⟩ = some (.slice p.ba xb.length p.bc) := fun x => by rw [(bcell x.ok).1 _ _ (by omega), ← hV]; simp
  have d4 : ∀ x : Wd (Below V.heap.size V), x.w.cell? ⟨w.heap.size, 4, none⟩ = some (.int .i64 t) := fun x => by rw [(bcell x.ok).1 _ _ (by omega), ← hV]; simp
  have d5 : ∀ x : Wd (Below V.heap.size V), x.w.cell? ⟨b, t, none⟩ = some (.int .u32 ((inN xs t : Nat) : Int)) := fun x => by rw [(bcell x.ok).1 _ _ (by omega), (bcell hW).1 _ _ hb]; exact c1
  have HL : Hid (∀ x : Wd (Below V.heap.size V), Calls Tryz.prog 93 #[.slice p.ba xb.length p.bc, .int .u32 ((inN xs t : Nat) : Int)] x.w fun e w' => e = .returned (.int .u32 ((loopN (xb.map wOf) (inN xs t) : Nat) : Int)) ∧ Below x.w.heap.size x.w w') := fun x => aheadOfRounds_any _ _ _ _ _ ((hB.below hW).below x.ok) (hF t)
  haveI inst : Nonempty (Wd (Below V.heap.size V)) := ⟨⟨V, Below.refl _ _⟩⟩
  have HW : Hid (Below w.heap.size w V) := hW
  have HV : Hid (_ = V) := hV
  have i1 : (0 : Int) ≤ (t : Int) := by omega
  generalize loopN (xb.map wOf) (inN xs t) = y2 at *
  generalize inN xs t = y1 at *
  generalize hm : 2 ^ a = m at *
  clear hW hV hU hB hF ha0 ha hm f1 f2 c1 hsz
  go_enter Tryz.func71, Tryz.ntmps71
  go_wp2_with fail
  rw [HV.out]
  refine wp_region_in (Below V.heap.size V) (by kernel_rfl) (by kernel_rfl) ((Below.refl _ _).drew) ?_
  repeat (first | go_big_quiet_step ((first
    | (go_at_call 92; exact calls_in (Nat.le_refl _) _ (HO.out _))
    | (go_at_call 93; exact calls_in (Nat.le_refl _) _ (HL.out _)))))
  refine wpQuiet_nil ?_
  rintro _ ⟨x, rfl⟩
  have hx := x.ok
  go_wp2_with fail
  go_ret
  exact ⟨ret_int HE1.out, HW.out.trans (hx.mono HW.out.size)⟩
theorem end_fin {x : Bk} {n : Int} (h : endB x n = true) : x.fin = 0 ∨ x.fin = 1 ∨ x.fin = 2 ∨ x.fin = 3 := by
  simp only [endB, Bool.and_eq_true, eK, decide_eq_true_eq] at h
  omega
theorem aheadOfEnd_any (x : Bk) (p : Pl) (a : Option Addr) (c : Nat) (xs : List Nat) (w : World) (hx : BIn w x p) (hU : Ul w a xs) (hF : Fit xs) (h0 : 0 < xs.length) (he : endB x xs.length = true) :
    Calls Tryz.prog 71 #[x.val p, .slice a xs.length c] w fun e w' => e = .returned (.int .u32 ((endN (bOf x) xs : Nat) : Int)) ∧ Below w.heap.size w w' := by
  obtain ⟨b, rfl, hb⟩ := hU.addr h0
  have ha0 := hx.ok.a0
  rcases end_fin he with h | h | h | h
  · have ht := end_thn he (by omega)
    have e : endN (bOf x) xs = inN xs x.thn.toNat := by simp [endN, bOf, eOf, h]
    rw [e]
    exact jump_any x p b c xs w hU ht.1 ht.2 h
  · have ht := end_thn he (by omega)
    have hl := end_els he h
    have e : endN (bOf x) xs = 2 ^ x.a.toNat ||| inN xs x.thn.toNat ||| inN xs x.els.toNat := by simp [endN, bOf, eOf, h]
    rw [e]
    exact branch_any x p b c xs w hU hF ha0 (end_reg he (by omega)) ht.1 ht.2 hl.1 hl.2 h
  · have e : endN (bOf x) xs = 2 ^ x.a.toNat := by simp [endN, bOf, eOf, h]
    rw [e]
    exact halt_any x p _ w ha0 (end_reg he (by omega)) h
  · have ht := end_thn he (by omega)
    have e : endN (bOf x) xs = 2 ^ x.a.toNat ||| loopN (x.body.map wOf) (inN xs x.thn.toNat) := by simp [endN, bOf, eOf, h]
    rw [e]
    exact loop_any x p b c xs w hx.b hU hF ha0 (end_reg he (by omega)) ht.1 ht.2 h
theorem end_lt {x : Bk} {xs : List Nat} {n : Int} (he : endB x n = true) (ha0 : 0 ≤ x.a) (ho : ∀ o ∈ x.ops, o.Ok) (hb : ∀ o ∈ x.body, o.Ok) (hF : Fit xs) : endN (bOf x) xs < 4294967296 := endN_lt (smallB_of he ha0 ho hb) hF

set_option maxHeartbeats 1000000 in
theorem into_any (x : Bk) (p : Pl) (a : Option Addr) (c : Nat) (xs : List Nat) (w : World) (hx : BIn w x p) (hU : Ul w a xs) (hF : Fit xs) (h0 : 0 < xs.length) (he : endB x xs.length = true) :
    Calls Tryz.prog 91 #[x.val p, .slice a xs.length c] w fun e w' => e = .returned (.int .u32 ((intoN (bOf x) xs : Nat) : Int)) ∧ Below w.heap.size w w' := by
  have f1 : endN (bOf x) xs < 4294967296 := end_lt he hx.ok.a0 hx.o.ok hx.b.ok hF
  have hdef : intoN (bOf x) xs = aheadNL (x.ops.map wOf) (endN (bOf x) xs) := rfl
  rw [hdef]
  have hW : Below w.heap.size w (w.alloc (.cells (x.cells p) 49)) := below_al _
  generalize hV : w.alloc (.cells (x.cells p) 49) = V at hW
  have hsz : w.heap.size < V.heap.size := by rw [← hV]; simp
  have HE : Hid (∀ z : Wd (Below V.heap.size V), Calls Tryz.prog 71 #[x.val p, .slice a xs.length c] z.w fun e w' => e = .returned (.int .u32 ((endN (bOf x) xs : Nat) : Int)) ∧ Below z.w.heap.size z.w w') := fun z => aheadOfEnd_any x p a c xs _ ((hx.below hW).below z.ok) ((hU.below hW).below z.ok) hF h0 he
  have HL : Hid (∀ z : Wd (Below V.heap.size V), Calls Tryz.prog 110 #[.slice p.oa x.ops.length p.oc, .int .u32 ((endN (bOf x) xs : Nat) : Int)] z.w fun e w' => e = .returned (.int .u32 ((aheadNL (x.ops.map wOf) (endN (bOf x) xs) : Nat) : Int)) ∧ Below z.w.heap.size z.w w') := fun z => aheadOfList_any _ _ _ _ _ ((hx.o.below hW).below z.ok) f1
  generalize aheadNL (x.ops.map wOf) (endN (bOf x) xs) = y2 at *
  generalize endN (bOf x) xs = y1 at *
  obtain ⟨xo, xf, xa, xb, xt, xe⟩ := x
  have d0 : ∀ z : Wd (Below V.heap.size V), z.w.cell? ⟨w.heap.size, 0, none⟩ = some (.slice p.oa xo.length p.oc) := fun x => by rw [(bcell x.ok).1 _ _ (by omega), ← hV]; simp
  have d1 : ∀ z : Wd (Below V.heap.size V), z.w.cell? ⟨w.heap.size, 1, none⟩ = some (.int .i8 xf) := fun x => by rw [(bcell x.ok).1 _ _ (by omega), ← hV]; simp
  have d2 : ∀ z : Wd (Below V.heap.size V), z.w.cell? ⟨w.heap.size, 2, none⟩ = some (.int .u8 xa) := fun x => by rw [(bcell x.ok).1 _ _ (by omega), ← hV]; simp
  have d3 : ∀ z : Wd (Below V.heap.size V), z.w.cell? ⟨w.heap.size, 3, none⟩ = some (.slice p.ba xb.length p.bc) := fun x => by rw [(bcell x.ok).1 _ _ (by omega), ← hV]; simp
  have d4 : ∀ z : Wd (Below V.heap.size V), z.w.cell? ⟨w.heap.size, 4, none⟩ = some (.int .i64 xt) := fun x => by rw [(bcell x.ok).1 _ _ (by omega), ← hV]; simp
  have d5 : ∀ z : Wd (Below V.heap.size V), z.w.cell? ⟨w.heap.size, 5, none⟩ = some (.int .i64 xe) := fun x => by rw [(bcell x.ok).1 _ _ (by omega), ← hV]; simp
  haveI inst : Nonempty (Wd (Below V.heap.size V)) := ⟨⟨V, Below.refl _ _⟩⟩
  have HW : Hid (Below w.heap.size w V) := hW
  have HV : Hid (_ = V) := hV
  clear hW hV hU hx hF f1 hdef he h0 hsz
  go_enter Tryz.func91, Tryz.ntmps91
  go_wp2_with fail
  rw [HV.out]
  refine wp_region_in (Below V.heap.size V) (by kernel_rfl) (by kernel_rfl) ((Below.refl _ _).drew) ?_
  repeat (first | go_big_quiet_step ((first
    | (go_at_call 71; exact calls_in (Nat.le_refl _) _ (HE.out _))
    | (go_at_call 110; exact calls_in (Nat.le_refl _) _ (HL.out _)))))
  refine wpQuiet_nil ?_
  rintro _ ⟨x, rfl⟩
  have hx := x.ok
  go_wp2_with fail
  go_ret
  exact ⟨rfl, HW.out.trans (hx.mono HW.out.size)⟩
end Go.Proofs.YtddcndlogoajkaaGreatDoor.L8.Li
namespace Go.Proofs.YtddcndlogoajkaaGreatDoor.L8.Fl
open Go.ChangeShapes Go.WideShapes Go.ChangeAt Go.RowKit
open _root_.Go.Proofs.YtddcndlogoajkaaGreatDoor.L8.So _root_.Go.Proofs.YtddcndlogoajkaaGreatDoor.L8.Ss _root_.Go.Proofs.YtddcndlogoajkaaGreatDoor.L8.Op
set_option maxRecDepth 20000

/-- A place that is none just if the number is not there. -/
def AtIx (xs : List Int) (z v : Int) : Prop := decide (v ≥ 0) = decide (z ∈ xs)
theorem index_any (a : Option Addr) (c : Nat) (xs : List Int) (z : Int) (B : Nat) (w : World) (h : Il w B a xs) (hl : xs.length < 1099511627776) :
    Calls Tryz.prog 123 #[.slice a xs.length c, .int .i64 z] w fun e w' => ∃ v, e = .returned (.int .i64 v) ∧ AtIx xs z v ∧ w' = w := by
  go_enter Tryz.func123, Tryz.ntmps123
  go_wp2
  go_loop [8] (fun i => ∃ k : Nat, k ≤ xs.length ∧ i = .int .i64 k ∧ Hid (∀ j (hj : j < xs.length), j < k → xs[j] ≠ z)) (fun i => xs.length - (intOf i).toNat)
  case atStart => exact ⟨0, by omega, rfl, fun j _ hj => by omega⟩
  case round =>
    obtain ⟨k, hk, rfl, hN⟩ := hrel
    by_cases hlt : k < xs.length
    · obtain ⟨b, rfl, -, hb, hc⟩ := h.is (by omega)
      have cc := hc k hlt
      by_cases he : z = xs[k]
      · have hR : Hid (decide ((k : Int) ≥ 0) = decide (z ∈ xs)) := by
          have hm : z ∈ xs := by rw [he]; exact List.getElem_mem hlt
          show _ = _
          rw [decide_eq_true hm]; simp
        clear hc h
        rw [← he] at cc
        clear he hN
        go_wp2
        go_ret
        exact ⟨_, rfl, hR.out, rfl⟩
      · have hN2 : Hid (∀ j (hj : j < xs.length), j < k + 1 → xs[j] ≠ z) := fun j hj hjk => by
          rcases Nat.lt_or_ge j k with h | h
          · exact hN.out j hj h
          · obtain rfl : j = k := by omega
            exact fun e => he e.symm
        obtain ⟨x, hx⟩ : ∃ x, x = xs[k] := ⟨_, rfl⟩
        rw [← hx] at cc he
        clear hc h hx hN
        go_wp2
        go_roundw
        case rel => exact ⟨k + 1, by omega, by go_num, hN2⟩
        case measure => simp [intOf]; omega
    · obtain rfl : k = xs.length := by omega
      have hR : Hid (decide ((-1 : Int) ≥ 0) = decide (z ∈ xs)) := by
        have hm : ¬ z ∈ xs := fun h => by
          obtain ⟨j, hj, e⟩ := List.getElem_of_mem h
          exact hN.out j hj hj e
        show _ = _
        rw [decide_eq_false hm]; simp
      go_wp2
      go_ret
      exact ⟨_, rfl, hR.out, rfl⟩
theorem contains_any (a : Option Addr) (c : Nat) (xs : List Int) (z : Int) (B : Nat) (w : World) (h : Il w B a xs) (hl : xs.length < 1099511627776) :
    Calls Tryz.prog 108 #[.slice a xs.length c, .int .i64 z] w fun e w' => e = .returned (.bool (decide (z ∈ xs))) ∧ w' = w := by
  have HI : Hid _ := index_any a c xs z B w h hl
  clear h
  go_enter Tryz.func108, Tryz.ntmps108
  go_wp2_with (first | (go_at_call 123; refine Calls.mono HI.out ?_; rintro e w' ⟨v, rfl, hv, hw⟩; subst w'; have HV : Hid _ := hv; clear hv))
  go_ret
  exact ⟨ret_bool HV.out, rfl⟩
theorem intL_snoc (acc : List Int) (x : Int) : (acc ++ [x]).map (fun y => Value.int .i64 y) = acc.map (fun y => Value.int .i64 y) ++ [.int .i64 x] := by simp
/-- A row of numbers is a list in memory. -/
theorem il_row {w : World} {B c : Nat} {a : Option Addr} {xs : List Int} (h : w.ownsRow B 3 1 (.slice a xs.length c) xs.length (xs.map fun y => Value.int .i64 y)) : Il w B a xs := by
  refine ⟨fun h0 => ?_⟩
  rcases h.2 with ⟨_, h1⟩ | ⟨g, cap, cur, h1, h2, h3, h4⟩
  · omega
  · injection h1 with e1 e2 e3
    subst e1
    have hc := h.cells (g := g) rfl
    refine ⟨g, rfl, h2, (h.lt g rfl).2, fun i hi => ?_⟩
    have := hc i (.int .i64 xs[i]) (by rw [List.getElem?_map, List.getElem?_eq_getElem hi]; rfl)
    by_cases i0 : i = 0
    · subst i0; simpa [Addr.add] using this
    · simpa [Addr.add, i0] using this
theorem row_slice {w : World} {B n : Nat} {e : TypeId} {z : Nat} {v : Value} {xs : List Value} (h : w.ownsRow B e z v n xs) : ∃ a c, v = .slice a n c := by
  rcases h.2 with ⟨h1, h2⟩ | ⟨g, cap, cur, h1, _⟩
  · exact ⟨none, 0, by rw [h1, h2]⟩
  · exact ⟨_, _, h1⟩
theorem row_below' {w w' : World} {B : Nat} {e : TypeId} {z : Nat} {v : Value} {n : Nat} {xs : List Value} (h : w.ownsRow B e z v n xs) (hb : Below w.heap.size w w') : w'.ownsRow B e z v n xs :=
  h.kept (row := none) ⟨hb.os, hb.tape, hb.output, hb.size, fun k hk _ => hb.block k hk⟩ (by cases v.ownBlock <;> simp)
theorem info3 : (Tryz.prog.info? 3).map (fun i => (i.zero, i.size, i.bytes)) = some (some (.int .i64 0), 1, 8) := by kernel_rfl

/-- The blocks ahead of block j among the first k. -/
def aheadTo (ps : List Bk) (j : Int) (k : Nat) : List Int := ((List.range k).filter fun i => match ps[i]? with | some x => decide (j ∈ turnL x) | none => false).map fun (i : Nat) => (i : Int)
def aheadL (ps : List Bk) (block : Int) : List Int := if knB ps block then aheadTo ps block ps.length else []
theorem aheadTo_yes {ps : List Bk} {j : Int} {k : Nat} (h : k < ps.length) (ht : j ∈ turnL ps[k]) : aheadTo ps j (k + 1) = aheadTo ps j k ++ [(k : Int)] := by
  unfold aheadTo
  rw [List.range_succ, List.filter_append, List.map_append]
  simp [List.getElem?_eq_getElem h, ht]
theorem aheadTo_no {ps : List Bk} {j : Int} {k : Nat} (h : k < ps.length) (ht : ¬ j ∈ turnL ps[k]) : aheadTo ps j (k + 1) = aheadTo ps j k := by
  unfold aheadTo
  rw [List.range_succ, List.filter_append, List.map_append]
  simp [List.getElem?_eq_getElem h, ht]
theorem aheadTo_len (ps : List Bk) (j : Int) (k : Nat) : (aheadTo ps j k).length ≤ k := by
  unfold aheadTo
  rw [List.length_map]
  have := List.length_filter_le (fun i => match ps[i]? with | some x => decide (j ∈ turnL x) | none => false) (List.range k)
  simpa using this

set_option maxHeartbeats 4000000 in
theorem ahead_any (ao : Option Addr) (cap : Nat) (ps : List Bk) (block : Int) (w : World) (h : PAt w ao ps) (he : Env w) :
    Calls Tryz.prog 89 #[.agg #[.slice ao ps.length cap], .int .i64 block] w fun e w' => ∃ v, e = .returned v ∧ Got w w' v (aheadL ps block) := by
  have hb1 : Below w.heap.size w (w.alloc (.cells #[.slice ao ps.length cap] 24)) := by go_grown
  have HK : Hid (Calls Tryz.prog 104 #[.agg #[.slice ao ps.length cap], .int .i64 block] (w.alloc (.cells #[.slice ao ps.length cap] 24)) fun e w' => e = .returned (.bool (knB ps block)) ∧ Below (w.alloc (.cells #[.slice ao ps.length cap] 24)).heap.size (w.alloc (.cells #[.slice ao ps.length cap] 24)) w') := known_any ao cap ps block _ (h.below hb1) (he.up hb1)
  unfold aheadL
  by_cases hk : knB ps block = true
  · rw [if_pos hk]
    rw [hk] at HK
    have hk' := hk
    unfold knB at hk'
    simp only [Bool.and_eq_true, decide_eq_true_eq] at hk'
    obtain ⟨⟨h0, h1⟩, hck⟩ := hk'
    have hle := (good_of hck).le
    obtain ⟨b, f, rfl, hlt, hx⟩ := h.is (by omega)
    have HX : Hid (∀ (i : Nat) (h : i < ps.length), ∃ p, BAt w b (f + i * 6) ps[i] p ∧ BIn w ps[i] p) := hx
    have HT : Hid (∀ (x : Bk) (p : Pl) w', x.Ok → Calls Tryz.prog 109 #[x.val p] w' fun e w2 => ∃ v, e = .returned v ∧ Got w' w2 v (turnL x)) := fun x p w' hok => turns_any x p w' hok
    have HC : Hid (∀ (a : Option Addr) (c : Nat) (xs : List Int) (B : Nat) w', Il w' B a xs → xs.length < 1099511627776 → Calls Tryz.prog 108 #[.slice a xs.length c, .int .i64 block] w' fun e w2 => e = .returned (.bool (decide (block ∈ xs))) ∧ w2 = w') := fun a c xs B w' hI hl => contains_any a c xs block B w' hI hl
    obtain ⟨i0, hi, hi2⟩ := Option.map_eq_some_iff.1 info3
    simp only [Prod.mk.injEq] at hi2
    obtain ⟨hz0, hz1, hz2⟩ := hi2
    have HI : Hid (Tryz.prog.info? 3 = some i0 ∧ i0.zero = some (.int .i64 0) ∧ i0.size = 1 ∧ i0.bytes = 8) := ⟨hi, hz0, hz1, hz2⟩
    clear h he hx hk hb1 hi hz0 hz1 hz2 hck
    go_enter Tryz.func89, Tryz.ntmps89
    go_wp2_with (first
      | (go_at_call 104; refine Calls.mono HK.out ?_; rintro e w1 ⟨rfl, hb⟩; obtain ⟨a1, hb0, hz⟩ := one_new w _ _ hb; have HB1 : Hid (Below w.heap.size w w1) := hb0; have cb := a1.c 0 _ rfl; clear hb hb0 a1 HK))
    go_loopw [5, 15] (fun v i wr => ∃ (k : Nat), k ≤ ps.length ∧ i = .int .i64 k ∧ Hid (wr.ownsRow (w.heap.size + 1) 3 1 v (aheadTo ps block k).length ((aheadTo ps block k).map fun y => Value.int .i64 y) ∧ Below w.heap.size w wr ∧ w.heap.size + 1 ≤ wr.heap.size)) (fun _ i _ => ps.length - (intOf i).toNat)
    case atStart => exact ⟨0, by omega, rfl, World.ownsRow_nil _ _ _ _, HB1.out, by omega⟩
    case round =>
      rename_i wr
      obtain ⟨k, hk, rfl, hS⟩ := hrel
      by_cases hlk : k < ps.length
      · obtain ⟨p, hp, hin⟩ := HX.out k hlk
        obtain ⟨c0, c1, c2, c3, c4, c5⟩ := hp.below hS.out.2.1 hlt
        have HT2 : Hid (∀ w', Calls Tryz.prog 109 #[ps[k].val p] w' fun e w2 => ∃ v, e = .returned v ∧ Got w' w2 v (turnL ps[k])) := fun w' => HT.out _ p w' hin.ok
        have hsz : Hid (w.heap.size + 1 ≤ wr.heap.size) := hS.out.2.2
        have hb8 : Hid (Below w.heap.size w wr) := hS.out.2.1
        clear hp hin HX HT
        by_cases ht : block ∈ turnL ps[k]
        · have hA : Hid (aheadTo ps block (k + 1) = aheadTo ps block k ++ [(k : Int)]) := aheadTo_yes hlk ht
          have hlen := aheadTo_len ps block k
          have HC2 : Hid (∀ (a : Option Addr) (c : Nat) (B : Nat) w', Il w' B a (turnL ps[k]) → Calls Tryz.prog 108 #[.slice a (turnL ps[k]).length c, .int .i64 block] w' fun e w2 => e = .returned (.bool true) ∧ w2 = w') := fun a c B w' hI => by
            have := HC.out a c (turnL ps[k]) B w' hI (by have := turnL_two ps[k]; omega)
            rw [decide_eq_true ht] at this; exact this
          clear ht HC
          go_wp2_with (first
            | (go_at_call 109; refine Calls.mono (HT2.out _) ?_; rintro e w2 ⟨v2, rfl, hG⟩; obtain ⟨a2, c2', rfl, hI2, hb2⟩ := hG; have HI2 : Hid (Il w2 _ a2 (turnL ps[k])) := hI2; have HS2 : Hid (w2.ownsRow (w.heap.size + 1) 3 1 u5 (aheadTo ps block k).length ((aheadTo ps block k).map fun y => Value.int .i64 y) ∧ Below w.heap.size w w2 ∧ w.heap.size + 1 ≤ w2.heap.size) := ⟨row_below' (hS.out.1.alloc _) hb2, (hb8.out.alloc hb8.out.size _).trans (hb2.mono (by have := hb8.out.size; simp; omega)), Nat.le_trans (by have := hsz.out; simp; omega) hb2.size⟩; clear hI2 hb2 hS HT2)
            | (go_at_call 108; refine Calls.mono (HC2.out _ _ _ _ HI2.out) ?_; rintro e w3 ⟨rfl, hw⟩; subst w3; clear HC2 HI2)
            | (at_builtin; refine wpList_append_lies _ rfl _ _ 143 rfl (w.heap.size + 1) 3 i0 (.int .i64 0) 1 8 Tryz.underlying143 HI.out.1 HI.out.2.1 HI.out.2.2.1 HI.out.2.2.2 rfl (by decide) _ _ _ rfl (HS2.out.1.alloc _) ⟨w2.heap.size, 0, none⟩ 1 1 [.int .i64 (k : Int)] rfl rfl (World.news_of_block (heap_alloc_new w2 _)) (by simp [Value.oneCell']) (by decide) (by unfold maxLen; omega) (by omega) (by have := HS2.out.2.2; simp; omega) (w2.heap.size + 1) (by simp) ?_; intro g cap' w4 hown1 hgrow hat hlt3))
          go_roundw
          case rel =>
            refine ⟨k + 1, by omega, by go_num, ?_, ?_, ?_⟩
            · rw [hA.out, intL_snoc, List.length_append]; exact hown1
            · exact (HS2.out.2.1.alloc HS2.out.2.1.size _).grown hgrow (by have := HS2.out.2.1.size; simp; omega) (fun b hb => by have := ((HS2.out.1).lt b hb).1; omega)
            · have := hgrow.size; have := HS2.out.2.2; simp at *; omega
          case measure => simp [intOf]; omega
        · have hA : Hid (aheadTo ps block (k + 1) = aheadTo ps block k) := aheadTo_no hlk ht
          have HC2 : Hid (∀ (a : Option Addr) (c : Nat) (B : Nat) w', Il w' B a (turnL ps[k]) → Calls Tryz.prog 108 #[.slice a (turnL ps[k]).length c, .int .i64 block] w' fun e w2 => e = .returned (.bool false) ∧ w2 = w') := fun a c B w' hI => by
            have := HC.out a c (turnL ps[k]) B w' hI (by have := turnL_two ps[k]; omega)
            rw [decide_eq_false ht] at this; exact this
          clear ht HC
          go_wp2_with (first
            | (go_at_call 109; refine Calls.mono (HT2.out _) ?_; rintro e w2 ⟨v2, rfl, hG⟩; obtain ⟨a2, c2', rfl, hI2, hb2⟩ := hG; have HI2 : Hid (Il w2 _ a2 (turnL ps[k])) := hI2; have HS2 : Hid (w2.ownsRow (w.heap.size + 1) 3 1 u5 (aheadTo ps block k).length ((aheadTo ps block k).map fun y => Value.int .i64 y) ∧ Below w.heap.size w w2 ∧ w.heap.size + 1 ≤ w2.heap.size) := ⟨row_below' (hS.out.1.alloc _) hb2, (hb8.out.alloc hb8.out.size _).trans (hb2.mono (by have := hb8.out.size; simp; omega)), Nat.le_trans (by have := hsz.out; simp; omega) hb2.size⟩; clear hI2 hb2 hS HT2)
            | (go_at_call 108; refine Calls.mono (HC2.out _ _ _ _ HI2.out) ?_; rintro e w3 ⟨rfl, hw⟩; subst w3; clear HC2 HI2))
          go_roundw
          case rel => exact ⟨k + 1, by omega, by go_num, by rw [hA.out]; exact HS2.out⟩
          case measure => simp [intOf]; omega
      · obtain rfl : k = ps.length := by omega
        go_wp2
        go_ret
        obtain ⟨a, c, e⟩ := row_slice hS.out.1
        refine ⟨_, rfl, a, c, e, (il_row (e ▸ hS.out.1)).low (by omega), hS.out.2.1⟩
  · rw [if_neg hk]
    have hk' : knB ps block = false := by simpa using hk
    rw [hk'] at HK
    clear h he hk hb1
    go_enter Tryz.func89, Tryz.ntmps89
    go_wp2_with (first | (go_at_call 104; refine Calls.mono HK.out ?_; rintro e w1 ⟨rfl, hb⟩; obtain ⟨a1, hb0, hz⟩ := one_new w _ _ hb; have HB1 : Hid _ := hb0; clear hb hb0 a1 HK))
    go_ret
    exact ⟨_, rfl, _, _, rfl, Il.nil _ _ _, HB1.out⟩
end Go.Proofs.YtddcndlogoajkaaGreatDoor.L8.Fl
namespace Go.Proofs.YtddcndlogoajkaaGreatDoor.L8.Fl
open Go.ChangeShapes Go.WideShapes Go.ChangeAt Go.RowKit Go.Maps
open _root_.Go.Proofs.YtddcndlogoajkaaGreatDoor.L8.So _root_.Go.Proofs.YtddcndlogoajkaaGreatDoor.L8.Ss _root_.Go.Proofs.YtddcndlogoajkaaGreatDoor.L8.Op
set_option maxRecDepth 20000

theorem arr52 : WideMaps.ArrKey Tryz.prog 164 3 2 := ⟨by kernel_rfl, by kernel_rfl, by kernel_rfl, by kernel_rfl⟩
theorem law52 : Keyed Tryz.prog 164 := Keyed.of_law arr52.law
theorem types_pos : ∃ m, Tryz.prog.types.size = m + 1 := ⟨Tryz.prog.types.size - 1, by
  have : 0 < Tryz.prog.types.size := Nat.lt_of_lt_of_le (by decide : 0 < 1) (Nat.le_of_ble_eq_true (by kernel_rfl))
  omega⟩
/-- What a pair reads as. -/
def kl (p : Nat × Nat) : Lit := .string (keyBytes [.int .i64 (p.1 : Int), .int .i64 (p.2 : Int)])
theorem wfS {n : Nat} (h : n < 1000) : (Lit.int .i64 (n : Int)).wf = true := by
  simp [Lit.wf, IntKind.min, IntKind.max, IntKind.signed, IntKind.bits]; omega
theorem key_pair {x y : Nat} (hx : x < 1000) (hy : y < 1000) : keyOf Tryz.prog 164 (.agg #[.int .i64 (x : Int), .int .i64 (y : Int)]) = some (kl (x, y)) :=
  WideMaps.keyOf_pair arr52 Tryz.underlying3 types_pos (wfS hx) (wfS hy)
theorem kl_inj {p q : Nat × Nat} (hp : p.1 < 1000 ∧ p.2 < 1000) (hq : q.1 < 1000 ∧ q.2 < 1000) (h : kl p = kl q) : p = q := by
  unfold kl at h
  injection h with h
  have := keyBytes_inj (l := [.int .i64 (p.1 : Int), .int .i64 (p.2 : Int)]) (l' := [.int .i64 (q.1 : Int), .int .i64 (q.2 : Int)]) ⟨rfl, rfl, trivial⟩
    (fun a ha => by simp at ha; rcases ha with rfl | rfl <;> exact wfS (by omega)) (fun a ha => by simp at ha; rcases ha with rfl | rfl <;> exact wfS (by omega)) h
  simp at this
  obtain ⟨a, b⟩ := p
  obtain ⟨c, d⟩ := q
  simp at this ⊢
  omega
theorem kl_key (p : Nat × Nat) : WideAt.IsKeyLit (kl p) := by
  unfold kl
  first | exact .string _ | exact trivial | simp [WideAt.IsKeyLit]
/-- All pairs are small. -/
def Sm (L : List (Nat × Nat)) : Prop := ∀ p ∈ L, p.1 < 1000 ∧ p.2 < 1000
/-- The set as a datum. -/
def setD (L : List (Nat × Nat)) : DataW Unit := setOf (.agg []) (L.map kl)
theorem setD_has {L : List (Nat × Nat)} (hL : Sm L) {p : Nat × Nat} (hp : p.1 < 1000 ∧ p.2 < 1000) : Maps.has (setD L) (kl p) = decide (p ∈ L) := by
  unfold setD
  rw [has_setOf _ _ _ (fun x hx => by obtain ⟨q, _, rfl⟩ := List.mem_map.1 hx; exact kl_key q)]
  rw [Bool.eq_iff_iff]
  simp only [List.any_eq_true, List.mem_map, decide_eq_true_eq]
  constructor
  · rintro ⟨x, ⟨q, hq, rfl⟩, hx⟩
    have := kl_inj (hL q hq) hp (WideAt.sameKey_eq hx)
    rw [← this]; exact hq
  · intro h
    exact ⟨kl p, ⟨p, h, rfl⟩, WideAt.sameKey_self (kl_key p)⟩
theorem setD_snoc (L : List (Nat × Nat)) (p : Nat × Nat) : setD (L ++ [p]) = (setD L).put (kl p) (.agg []) := by
  unfold setD
  rw [List.map_append, List.map_singleton, setOf_snoc]
/-- The map in memory holds just these pairs. -/
structure Mp (w : World) (mb : Nat) (L : List (Nat × Nat)) : Prop where
  own : w.ownsMap Tryz.prog 164 (unitElem (H := Unit)) mb L.length (setD L)
  sm : Sm L
theorem Mp.kept {w w' : World} {mb : Nat} {L : List (Nat × Nat)} (h : Mp w mb L) (hb : Below w.heap.size w w') : Mp w' mb L :=
  ⟨h.own.kept (row := none) ⟨hb.os, hb.tape, hb.output, hb.size, fun k hk _ => hb.block k hk⟩ (by simp), h.sm⟩
theorem Mp.fr {X : Nat → Prop} {w w' : World} {mb : Nat} {L : List (Nat × Nat)} (h : Mp w mb L) (hF : Fr X w w') (hX : ¬ X mb) : Mp w' mb L := by
  have hlt := h.own.lt
  obtain ⟨es, clock, h1, h2, h3⟩ := h.own
  exact ⟨⟨es, clock, by rw [hF.block mb hlt hX]; exact h1, h2, h3⟩, h.sm⟩
theorem zero57 (w : World) : (zeroValue 148).run Tryz.prog w = .ok (.agg #[]) w := by kernel_rfl

theorem has_any (mb : Nat) (x y : Nat) (L : List (Nat × Nat)) (w : World) (h : Mp w mb L) (hx : x < 1000) (hy : y < 1000) :
    Calls Tryz.prog 117 #[.map (some mb), .int .i64 (x : Int), .int .i64 (y : Int)] w fun e w' => e = .returned (.bool (decide ((x, y) ∈ L))) ∧ Below w.heap.size w w' := by
  have hR : Hid (decide ((x, y) ∈ L) = Maps.has (setD L) (kl (x, y))) := (setD_has h.sm ⟨hx, hy⟩).symm
  have HK : Hid _ := key_pair hx hy
  have HM : Hid _ := h.own
  clear h hx hy
  go_enter Tryz.func117, Tryz.ntmps117
  go_wp2_with (first | (at_lookup; refine wpList_lookup_own_unit _ rfl _ _ 162 rfl 164 148 law52 Tryz.underlying162 (zero57 _) mb _ _ rfl HM.out _ _ rfl HK.out ?_) | go_in)
  go_ret
  exact ⟨ret_bool hR.out.symm, by go_grown⟩
end Go.Proofs.YtddcndlogoajkaaGreatDoor.L8.Fl
namespace Go.Proofs.YtddcndlogoajkaaGreatDoor.L8.Li
open Go.ChangeShapes Go.WideShapes Go.ChangeAt Go.RowKit Go.Maps
open _root_.Go.Proofs.YtddcndlogoajkaaGreatDoor.L8.So _root_.Go.Proofs.YtddcndlogoajkaaGreatDoor.L8.Op _root_.Go.Proofs.YtddcndlogoajkaaGreatDoor.L8.Fl _root_.Go.Proofs.YtddcndlogoajkaaGreatDoor.L8.Lv
set_option maxRecDepth 20000

theorem law3 : Keyed Tryz.prog 3 := int_keyed Tryz.underlying3
theorem key3 {n : Nat} (h : n < 1000) : keyOf Tryz.prog 3 (.int .i64 (n : Int)) = some (.int .i64 (n : Int)) := keyOf_int_mk Tryz.underlying3 (wfS h)
abbrev kn (n : Nat) : Lit := .int .i64 (n : Int)
theorem kn_inj {a b : Nat} (h : kn a = kn b) : a = b := by
  simp only [kn, Lit.int.injEq] at h
  omega
theorem kn_key (n : Nat) : WideAt.IsKeyLit (kn n) := by simp [WideAt.IsKeyLit]
/-- A map of blocks in memory. -/
structure Wm (w : World) (mb : Nat) (D : DataW Unit) (N : Nat) : Prop where
  own : w.ownsMap Tryz.prog 3 (unitElem (H := Unit)) mb (Maps.size D) D
  key : ∀ l, Maps.has D l = true → ∃ n : Nat, n < N ∧ l = kn n
theorem tight {w : World} {mb n : Nat} {D : DataW Unit} (h : w.ownsMap Tryz.prog 3 (unitElem (H := Unit)) mb n D) : w.ownsMap Tryz.prog 3 (unitElem (H := Unit)) mb (Maps.size D) D := by
  obtain ⟨es, clock, h1, h2, h3, rfl⟩ := h
  exact ⟨es, clock, h1, h2, by simp [Maps.size, length_sorted], rfl⟩
theorem Wm.kept {w w' : World} {mb N : Nat} {D : DataW Unit} (h : Wm w mb D N) (hb : Below w.heap.size w w') : Wm w' mb D N :=
  ⟨h.own.kept (row := none) ⟨hb.os, hb.tape, hb.output, hb.size, fun k hk _ => hb.block k hk⟩ (by simp), h.key⟩

/-- The map is gone through. -/
structure Gg (w wr : World) (mb r : Nat) (D : DataW Unit) (m : Nat) (left : Lit → Bool) (cnt : Nat) : Prop where
  rg : wr.ranges Tryz.prog 3 (unitElem (H := Unit)) mb r (Maps.size D) D left cnt
  b : Below w.heap.size w wr
  hr : w.heap.size ≤ r
  lf : ∀ l, left l = true → Maps.has D l = true
  is : (cnt = Maps.size D ∧ m = 0) ∨ Maps.has D (kn m) = true
theorem Gg.step {w wr w1 : World} {mb r m cnt cnt1 y : Nat} {D : DataW Unit} {left : Lit → Bool} (h : Gg w wr mb r D m left cnt) (hy : left (kn y) = true)
    (hrg : w1.ranges Tryz.prog 3 (unitElem (H := Unit)) mb r (Maps.size D) D (fun z => left z && !z.sameKey (kn y)) cnt1) (hg1 : wr.grownBy w1 (some r)) : Gg w w1 mb r D (if m < y then y else m) (fun z => left z && !z.sameKey (kn y)) cnt1 := by
  refine ⟨hrg, h.b.grown hg1 h.b.size (fun j hj => by cases hj; exact h.hr), h.hr, fun l hl => ?_, Or.inr ?_⟩
  · rw [Bool.and_eq_true] at hl
    exact h.lf l hl.1
  · split
    · exact h.lf _ hy
    · rcases h.is with ⟨_, h0⟩ | h0
      · have : y = m := by omega
        rw [← this]; exact h.lf _ hy
      · exact h0
theorem keyOf3_inv {key : Value} {kl : Lit} (h : keyOf Tryz.prog 3 key = some kl) : ∃ x : Int, key = .int .i64 x := by
  obtain ⟨x, rfl, _⟩ := Maps.keyOf_int_inv Tryz.underlying3 h
  exact ⟨x, rfl⟩

set_option maxHeartbeats 2000000 in
theorem greatest_any (mb N : Nat) (D : DataW Unit) (w : World) (h : Wm w mb D N) (hp : 0 < Maps.size D) :
    Calls Tryz.prog 90 #[.map (some mb)] w fun e w' => ∃ g : Nat, e = .returned (.int .i64 (g : Int)) ∧ g < N ∧ Maps.has D (kn g) = true ∧ Below w.heap.size w w' := by
  have HM : Hid (Wm w mb D N) := h
  clear h
  go_enter Tryz.func90, Tryz.ntmps90
  go_wp2_with (first
    | (at_range; refine wpList_range_own _ rfl _ 146 rfl 3 148 law3 Tryz.underlying146 _ mb _ _ rfl HM.out.own ?_; intro w5 hrg5 hg5 hs5))
  go_frame
  have HG : Hid (Gg w w5 mb w.heap.size D 0 (Maps.has D) (Maps.size D)) := ⟨hrg5, (Below.refl _ _).grown hg5 (Nat.le_refl _) (fun j hj => by cases hj), Nat.le_refl _, fun l hl => hl, Or.inl ⟨rfl, rfl⟩⟩
  clear hrg5 hg5 hs5
  generalize w.heap.size = r at *
  go_loopg [3] (Maps.size D + 1) (fun g1 v wr => ∃ (m : Nat) (left : Lit → Bool) (cnt : Nat), cnt < g1 ∧ v = .int .i64 (m : Int) ∧ Hid (Gg w wr mb r D m left cnt))
  case atStart => exact ⟨0, _, _, Nat.lt_succ_self _, rfl, HG.out⟩
  case round =>
    clear HG
    obtain ⟨m, left, cnt, hcg, rfl, HR⟩ := hrel
    go_wp2_with (first
      | (at_next; refine wpList_next_ranges _ rfl _ rfl 3 law3 (unitElem (H := Unit)) (fun p : Int => .int .i64 p) (fun _ : Unit => .agg #[]) (fun key kl h => keyOf3_inv h) (fun v y h => ⟨(), (unitElem_inv h).1⟩) mb r _ _ _ _ rfl HR.out.rg ?_ ?_))
    · intro hc0 hl0
      have hR : Hid (m < N ∧ Maps.has D (kn m) = true) := by
        rcases HR.out.is with ⟨h1, h2⟩ | h1
        · omega
        · obtain ⟨n, hn, e⟩ := HM.out.key _ h1
          rw [kn_inj e]; rw [kn_inj e] at h1
          exact ⟨hn, h1⟩
      clear hl0
      go_wp2
      go_ret
      exact ⟨m, rfl, hR.out.1, hR.out.2, HR.out.b⟩
    · intro px kl' d' ps' w6 cnt1 hkey hlk hv hat hrg hlt hg hs hen
      obtain ⟨y, hy, rfl⟩ := HM.out.key kl' (HR.out.lf kl' hlk)
      have hkk : px = (y : Int) := by
        obtain ⟨x, e1, e2, _⟩ := Maps.keyOf_int_inv Tryz.underlying3 hkey
        simp only [Value.int.injEq, true_and] at e1
        simp only [kn, Lit.int.injEq, true_and] at e2
        omega
      subst hkk
      have HS : Hid (Gg w w6 mb r D (if m < y then y else m) (fun z => left z && !z.sameKey (kn y)) cnt1) := HR.out.step hlk hrg hg
      clear HR hkey hlk hv hat hrg hg hs
      by_cases hmy : m < y
      · rw [if_pos hmy] at HS
        have i1 : (m : Int) < (y : Int) := by omega
        go_wp2
        go_roundg cnt
        case measure => omega
        case rel => exact ⟨y, _, cnt1, hlt, rfl, HS.out⟩
      · rw [if_neg hmy] at HS
        have i1 : ¬ (m : Int) < (y : Int) := by omega
        go_wp2
        go_roundg cnt
        case measure => omega
        case rel => exact ⟨m, _, cnt1, hlt, rfl, HS.out⟩
end Go.Proofs.YtddcndlogoajkaaGreatDoor.L8.Li
