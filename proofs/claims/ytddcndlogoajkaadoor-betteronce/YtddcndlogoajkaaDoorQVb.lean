/- What is ahead of a block's end, and into a block, by what is into the blocks: read off the program by the walk. Conditions: the block lies in memory, and its end is one. -/
import Derived.Test.YtddcndlogoajkaaDoorQVa
namespace Go.Proofs.YtddcndlogoajkaaDoor.L8.Li
open Go.ChangeShapes Go.WideShapes Go.ChangeAt Go.RowKit
open _root_.Go.Proofs.YtddcndlogoajkaaDoor.L8.So _root_.Go.Proofs.YtddcndlogoajkaaDoor.L8.Op _root_.Go.Proofs.YtddcndlogoajkaaDoor.L8.Fl _root_.Go.Proofs.YtddcndlogoajkaaDoor.L8.Lv
set_option maxRecDepth 20000

/-- A list of sets in memory. -/
structure Ul (w : World) (a : Option Addr) (xs : List Nat) : Prop where
  is : 0 < xs.length → ∃ b, a = some ⟨b, 0, none⟩ ∧ b < w.heap.size ∧ ∀ (i : Nat) (h : i < xs.length), w.cell? ⟨b, i, none⟩ = some (.int .u32 ((xs[i] : Nat) : Int))
theorem Ul.below {w w' : World} {a : Option Addr} {xs : List Nat} (h : Ul w a xs) (hb : Below w.heap.size w w') : Ul w' a xs := ⟨fun h0 => by
  obtain ⟨b, e, hlt, hc⟩ := h.is h0
  exact ⟨b, e, Nat.lt_of_lt_of_le hlt hb.size, fun i hi => by rw [(bcell hb).1 _ _ hlt]; exact hc i hi⟩⟩
theorem Ul.nil (w : World) (a : Option Addr) : Ul w a [] := ⟨fun h => by simp at h⟩
theorem Ul.at {w : World} {b : Nat} {xs : List Nat} (h : Ul w (some ⟨b, 0, none⟩) xs) {t : Nat} (ht : t < xs.length) : w.cell? ⟨b, t, none⟩ = some (.int .u32 ((inN xs t : Nat) : Int)) := by
  obtain ⟨b', e, hlt, hc⟩ := h.is (by omega)
  cases e
  rw [inN_eq ht]; exact hc t ht
theorem Ul.addr {w : World} {a : Option Addr} {xs : List Nat} (h : Ul w a xs) (h0 : 0 < xs.length) : ∃ b, a = some ⟨b, 0, none⟩ ∧ b < w.heap.size := by
  obtain ⟨b, e, hlt, hc⟩ := h.is h0
  exact ⟨b, e, hlt⟩

theorem halt_any (x : Bk) (p : Pl) (v : Value) (w : World) (ha0 : 0 ≤ x.a) (ha : x.a < 32) (h0 : x.fin = 2) :
    Calls Tryd.prog 29 #[x.val p, v] w fun e w' => e = .returned (.int .u32 ((2 ^ x.a.toNat : Nat) : Int)) ∧ Below w.heap.size w w' := by
  obtain ⟨xo, xf, xa, xb, xt, xe⟩ := x
  simp only at h0 ha0 ha
  obtain ⟨a, rfl⟩ : ∃ a : Nat, xa = a := ⟨xa.toNat, by omega⟩
  subst h0
  have HO : Hid _ := fun w => only_any a w (by omega)
  clear ha ha0
  go_enter Tryd.func29, Tryd.ntmps29
  go_wp2_with (first | (go_at_call 41; refine Calls.mono (HO.out _) ?_; rintro e w3 ⟨rfl, hw3⟩; subst w3))
  go_ret
  exact ⟨rfl, by go_grown⟩
theorem jump_any (x : Bk) (p : Pl) (b c : Nat) (xs : List Nat) (w : World) (hU : Ul w (some ⟨b, 0, none⟩) xs) (ht0 : 0 ≤ x.thn) (ht : x.thn < xs.length) (h0 : x.fin = 0) :
    Calls Tryd.prog 29 #[x.val p, .slice (some ⟨b, 0, none⟩) xs.length c] w fun e w' => e = .returned (.int .u32 ((inN xs x.thn.toNat : Nat) : Int)) ∧ Below w.heap.size w w' := by
  obtain ⟨xo, xf, xa, xb, xt, xe⟩ := x
  simp only at h0 ht0 ht
  obtain ⟨t, rfl⟩ : ∃ t : Nat, xt = t := ⟨xt.toNat, by omega⟩
  subst h0
  have cc := hU.at (t := t) (by omega)
  obtain ⟨b', e, hb⟩ := hU.addr (by omega)
  cases e
  clear hU
  go_enter Tryd.func29, Tryd.ntmps29
  go_wp2
  go_ret
  exact ⟨rfl, by go_grown⟩
set_option maxHeartbeats 1000000 in
theorem branch_any (x : Bk) (p : Pl) (b c : Nat) (xs : List Nat) (w : World) (hU : Ul w (some ⟨b, 0, none⟩) xs) (hF : Fit xs) (ha0 : 0 ≤ x.a) (ha : x.a < 32) (ht0 : 0 ≤ x.thn) (ht : x.thn < xs.length) (he0 : 0 ≤ x.els) (he : x.els < xs.length) (h0 : x.fin = 1) :
    Calls Tryd.prog 29 #[x.val p, .slice (some ⟨b, 0, none⟩) xs.length c] w fun e w' => e = .returned (.int .u32 ((2 ^ x.a.toNat ||| inN xs x.thn.toNat ||| inN xs x.els.toNat : Nat) : Int)) ∧ Below w.heap.size w w' := by
  obtain ⟨xo, xf, xa, xb, xt, xe⟩ := x
  simp only at h0 ht0 ht he0 he ha0 ha
  obtain ⟨t, rfl⟩ : ∃ t : Nat, xt = t := ⟨xt.toNat, by omega⟩
  obtain ⟨u, rfl⟩ : ∃ u : Nat, xe = u := ⟨xe.toNat, by omega⟩
  obtain ⟨a, rfl⟩ : ∃ a : Nat, xa = a := ⟨xa.toNat, by omega⟩
  subst h0
  have c1 := hU.at (t := t) (by omega)
  have c2 := hU.at (t := u) (by omega)
  obtain ⟨b', e, hb⟩ := hU.addr (by omega)
  cases e
  have HO : Hid (∀ w, Calls Tryd.prog 41 #[.int .u8 a] w fun e w' => e = .returned (.int .u32 ((2 ^ a : Nat) : Int)) ∧ w' = w) := fun w => only_any a w (by omega)
  simp only [Int.toNat_natCast]
  have f1 : 2 ^ a < 4294967296 := pow32 (by omega)
  have HE1 : Hid (bits .or .u32 ((2 ^ a : Nat) : Int) ((inN xs t : Nat) : Int) = ((2 ^ a ||| inN xs t : Nat) : Int)) := or_u32 f1 (hF t)
  have HE2 : Hid (bits .or .u32 ((2 ^ a ||| inN xs t : Nat) : Int) ((inN xs u : Nat) : Int) = ((2 ^ a ||| inN xs t ||| inN xs u : Nat) : Int)) := or_u32 (Nat.or_lt_two_pow (n := 32) f1 (hF t)) (hF u)
  generalize hm : 2 ^ a = m at *
  generalize inN xs t = y1 at *
  generalize inN xs u = y2 at *
  clear hU hF f1 hm ha0 ha
  go_enter Tryd.func29, Tryd.ntmps29
  go_wp2_with fail
  go_quiet (first | (go_at_call 41; refine Calls.quiet_of_same (HO.out _)))
  go_wp2_with fail
  go_ret
  refine ⟨ret_int ?_, ?_⟩
  · rw [HE1.out, HE2.out]
  · exact drewN_below (by go_grown) _
theorem below_al {w : World} (o : Obj) : Below w.heap.size w (w.alloc o) := (Below.refl _ _).alloc (Nat.le_refl _) _
set_option maxHeartbeats 1000000 in
theorem loop_any (x : Bk) (p : Pl) (b c : Nat) (xs : List Nat) (w : World) (hB : OpsAt w p.ba x.body) (hU : Ul w (some ⟨b, 0, none⟩) xs) (hF : Fit xs) (ha0 : 0 ≤ x.a) (ha : x.a < 32) (ht0 : 0 ≤ x.thn) (ht : x.thn < xs.length) (h0 : x.fin = 3) :
    Calls Tryd.prog 29 #[x.val p, .slice (some ⟨b, 0, none⟩) xs.length c] w fun e w' => e = .returned (.int .u32 ((2 ^ x.a.toNat ||| loopN (x.body.map wOf) (inN xs x.thn.toNat) : Nat) : Int)) ∧ Below w.heap.size w w' := by
  obtain ⟨xo, xf, xa, xb, xt, xe⟩ := x
  simp only at h0 ht0 ht ha0 ha hB
  obtain ⟨t, rfl⟩ : ∃ t : Nat, xt = t := ⟨xt.toNat, by omega⟩
  obtain ⟨a, rfl⟩ : ∃ a : Nat, xa = a := ⟨xa.toNat, by omega⟩
  subst h0
  have htl : (t : Int) < (xs.length : Int) := by omega
  have c1 := hU.at (t := t) (by omega)
  obtain ⟨b', e, hb⟩ := hU.addr (by omega)
  cases e
  simp only [Int.toNat_natCast]
  have f1 : 2 ^ a < 4294967296 := pow32 (by omega)
  have f2 : loopN (xb.map wOf) (inN xs t) < 4294967296 := loopN_lt (hF t) (map_small hB.ok)
  have HE1 : Hid (bits .or .u32 ((2 ^ a : Nat) : Int) ((loopN (xb.map wOf) (inN xs t) : Nat) : Int) = ((2 ^ a ||| loopN (xb.map wOf) (inN xs t) : Nat) : Int)) := or_u32 f1 f2
  have HO : Hid (∀ w, Calls Tryd.prog 41 #[.int .u8 a] w fun e w' => e = .returned (.int .u32 ((2 ^ a : Nat) : Int)) ∧ Below w.heap.size w w') := fun w => (only_any a w (by omega)).mono fun _ _ h => ⟨h.1, by rw [h.2]; exact Below.refl _ _⟩
  have hW : Below w.heap.size w (w.alloc (.cells #[.slice p.oa xo.length p.oc, .int .i8 3, .int .u8 a, .slice p.ba xb.length p.bc, .int .i64 t, .int .i64 xe] 36)) := below_al _
  generalize hV : w.alloc (.cells #[.slice p.oa xo.length p.oc, .int .i8 3, .int .u8 a, .slice p.ba xb.length p.bc, .int .i64 t, .int .i64 xe] 36) = V at hW
  have hsz : w.heap.size < V.heap.size := by rw [← hV]; simp
  have d2 : ∀ x : Wd (Below V.heap.size V), x.w.cell? ⟨w.heap.size, 2, none⟩ = some (.int .u8 a) := fun x => by rw [(bcell x.ok).1 _ _ (by omega), ← hV]; simp
  have d3 : ∀ x : Wd (Below V.heap.size V), x.w.cell? ⟨w.heap.size, 3, none⟩ = some (.slice p.ba xb.length p.bc) := fun x => by rw [(bcell x.ok).1 _ _ (by omega), ← hV]; simp
  have d4 : ∀ x : Wd (Below V.heap.size V), x.w.cell? ⟨w.heap.size, 4, none⟩ = some (.int .i64 t) := fun x => by rw [(bcell x.ok).1 _ _ (by omega), ← hV]; simp
  have d5 : ∀ x : Wd (Below V.heap.size V), x.w.cell? ⟨b, t, none⟩ = some (.int .u32 ((inN xs t : Nat) : Int)) := fun x => by rw [(bcell x.ok).1 _ _ (by omega), (bcell hW).1 _ _ hb]; exact c1
  have HL : Hid (∀ x : Wd (Below V.heap.size V), Calls Tryd.prog 42 #[.slice p.ba xb.length p.bc, .int .u32 ((inN xs t : Nat) : Int)] x.w fun e w' => e = .returned (.int .u32 ((loopN (xb.map wOf) (inN xs t) : Nat) : Int)) ∧ Below x.w.heap.size x.w w') := fun x => aheadOfRounds_any _ _ _ _ _ ((hB.below hW).below x.ok) (hF t)
  haveI inst : Nonempty (Wd (Below V.heap.size V)) := ⟨⟨V, Below.refl _ _⟩⟩
  have HW : Hid (Below w.heap.size w V) := hW
  have HV : Hid (_ = V) := hV
  have i1 : (0 : Int) ≤ (t : Int) := by omega
  generalize loopN (xb.map wOf) (inN xs t) = y2 at *
  generalize inN xs t = y1 at *
  generalize hm : 2 ^ a = m at *
  clear hW hV hU hB hF ha0 ha hm f1 f2 c1 hsz
  go_enter Tryd.func29, Tryd.ntmps29
  go_wp2_with fail
  rw [HV.out]
  refine wp_region_in (Below V.heap.size V) (by kernel_rfl) (by kernel_rfl) ((Below.refl _ _).drew) ?_
  repeat (first | go_big_quiet_step ((first
    | (go_at_call 41; exact calls_in (Nat.le_refl _) _ (HO.out _))
    | (go_at_call 42; exact calls_in (Nat.le_refl _) _ (HL.out _)))))
  refine wpQuiet_nil ?_
  rintro _ ⟨x, rfl⟩
  have hx := x.ok
  go_wp2_with fail
  go_ret
  exact ⟨ret_int HE1.out, HW.out.trans (hx.mono HW.out.size)⟩
theorem end_fin {x : Bk} {n : Int} (h : endB x n = true) : x.fin = 0 ∨ x.fin = 1 ∨ x.fin = 2 ∨ x.fin = 3 := by
  simp only [endB, Bool.and_eq_true, eK, decide_eq_true_eq] at h
  omega
theorem aheadOfEnd_any (x : Bk) (p : Pl) (a : Option Addr) (c : Nat) (xs : List Nat) (w : World) (hx : BIn w x p) (hU : Ul w a xs) (hF : Fit xs) (h0 : 0 < xs.length) (he : endB x xs.length = true) :
    Calls Tryd.prog 29 #[x.val p, .slice a xs.length c] w fun e w' => e = .returned (.int .u32 ((endN (bOf x) xs : Nat) : Int)) ∧ Below w.heap.size w w' := by
  obtain ⟨b, rfl, hb⟩ := hU.addr h0
  have ha0 := hx.ok.a0
  rcases end_fin he with h | h | h | h
  · have ht := end_thn he (by omega)
    have e : endN (bOf x) xs = inN xs x.thn.toNat := by simp [endN, bOf, eOf, h]
    rw [e]
    exact jump_any x p b c xs w hU ht.1 ht.2 h
  · have ht := end_thn he (by omega)
    have hl := end_els he h
    have e : endN (bOf x) xs = 2 ^ x.a.toNat ||| inN xs x.thn.toNat ||| inN xs x.els.toNat := by simp [endN, bOf, eOf, h]
    rw [e]
    exact branch_any x p b c xs w hU hF ha0 (end_reg he (by omega)) ht.1 ht.2 hl.1 hl.2 h
  · have e : endN (bOf x) xs = 2 ^ x.a.toNat := by simp [endN, bOf, eOf, h]
    rw [e]
    exact halt_any x p _ w ha0 (end_reg he (by omega)) h
  · have ht := end_thn he (by omega)
    have e : endN (bOf x) xs = 2 ^ x.a.toNat ||| loopN (x.body.map wOf) (inN xs x.thn.toNat) := by simp [endN, bOf, eOf, h]
    rw [e]
    exact loop_any x p b c xs w hx.b hU hF ha0 (end_reg he (by omega)) ht.1 ht.2 h
theorem end_lt {x : Bk} {xs : List Nat} {n : Int} (he : endB x n = true) (ha0 : 0 ≤ x.a) (ho : ∀ o ∈ x.ops, o.Ok) (hb : ∀ o ∈ x.body, o.Ok) (hF : Fit xs) : endN (bOf x) xs < 4294967296 := endN_lt (smallB_of he ha0 ho hb) hF

set_option maxHeartbeats 1000000 in
theorem into_any (x : Bk) (p : Pl) (a : Option Addr) (c : Nat) (xs : List Nat) (w : World) (hx : BIn w x p) (hU : Ul w a xs) (hF : Fit xs) (h0 : 0 < xs.length) (he : endB x xs.length = true) :
    Calls Tryd.prog 40 #[x.val p, .slice a xs.length c] w fun e w' => e = .returned (.int .u32 ((intoN (bOf x) xs : Nat) : Int)) ∧ Below w.heap.size w w' := by
  have f1 : endN (bOf x) xs < 4294967296 := end_lt he hx.ok.a0 hx.o.ok hx.b.ok hF
  have hdef : intoN (bOf x) xs = aheadNL (x.ops.map wOf) (endN (bOf x) xs) := rfl
  rw [hdef]
  have hW : Below w.heap.size w (w.alloc (.cells (x.cells p) 36)) := below_al _
  generalize hV : w.alloc (.cells (x.cells p) 36) = V at hW
  have hsz : w.heap.size < V.heap.size := by rw [← hV]; simp
  have HE : Hid (∀ z : Wd (Below V.heap.size V), Calls Tryd.prog 29 #[x.val p, .slice a xs.length c] z.w fun e w' => e = .returned (.int .u32 ((endN (bOf x) xs : Nat) : Int)) ∧ Below z.w.heap.size z.w w') := fun z => aheadOfEnd_any x p a c xs _ ((hx.below hW).below z.ok) ((hU.below hW).below z.ok) hF h0 he
  have HL : Hid (∀ z : Wd (Below V.heap.size V), Calls Tryd.prog 57 #[.slice p.oa x.ops.length p.oc, .int .u32 ((endN (bOf x) xs : Nat) : Int)] z.w fun e w' => e = .returned (.int .u32 ((aheadNL (x.ops.map wOf) (endN (bOf x) xs) : Nat) : Int)) ∧ Below z.w.heap.size z.w w') := fun z => aheadOfList_any _ _ _ _ _ ((hx.o.below hW).below z.ok) f1
  generalize aheadNL (x.ops.map wOf) (endN (bOf x) xs) = y2 at *
  generalize endN (bOf x) xs = y1 at *
  obtain ⟨xo, xf, xa, xb, xt, xe⟩ := x
  have d0 : ∀ z : Wd (Below V.heap.size V), z.w.cell? ⟨w.heap.size, 0, none⟩ = some (.slice p.oa xo.length p.oc) := fun x => by rw [(bcell x.ok).1 _ _ (by omega), ← hV]; simp
  have d1 : ∀ z : Wd (Below V.heap.size V), z.w.cell? ⟨w.heap.size, 1, none⟩ = some (.int .i8 xf) := fun x => by rw [(bcell x.ok).1 _ _ (by omega), ← hV]; simp
  have d2 : ∀ z : Wd (Below V.heap.size V), z.w.cell? ⟨w.heap.size, 2, none⟩ = some (.int .u8 xa) := fun x => by rw [(bcell x.ok).1 _ _ (by omega), ← hV]; simp
  have d3 : ∀ z : Wd (Below V.heap.size V), z.w.cell? ⟨w.heap.size, 3, none⟩ = some (.slice p.ba xb.length p.bc) := fun x => by rw [(bcell x.ok).1 _ _ (by omega), ← hV]; simp
  have d4 : ∀ z : Wd (Below V.heap.size V), z.w.cell? ⟨w.heap.size, 4, none⟩ = some (.int .i64 xt) := fun x => by rw [(bcell x.ok).1 _ _ (by omega), ← hV]; simp
  have d5 : ∀ z : Wd (Below V.heap.size V), z.w.cell? ⟨w.heap.size, 5, none⟩ = some (.int .i64 xe) := fun x => by rw [(bcell x.ok).1 _ _ (by omega), ← hV]; simp
  haveI inst : Nonempty (Wd (Below V.heap.size V)) := ⟨⟨V, Below.refl _ _⟩⟩
  have HW : Hid (Below w.heap.size w V) := hW
  have HV : Hid (_ = V) := hV
  clear hW hV hU hx hF f1 hdef he h0 hsz
  go_enter Tryd.func40, Tryd.ntmps40
  go_wp2_with fail
  rw [HV.out]
  refine wp_region_in (Below V.heap.size V) (by kernel_rfl) (by kernel_rfl) ((Below.refl _ _).drew) ?_
  repeat (first | go_big_quiet_step ((first
    | (go_at_call 29; exact calls_in (Nat.le_refl _) _ (HE.out _))
    | (go_at_call 57; exact calls_in (Nat.le_refl _) _ (HL.out _)))))
  refine wpQuiet_nil ?_
  rintro _ ⟨x, rfl⟩
  have hx := x.ok
  go_wp2_with fail
  go_ret
  exact ⟨rfl, HW.out.trans (hx.mono HW.out.size)⟩
end Go.Proofs.YtddcndlogoajkaaDoor.L8.Li
