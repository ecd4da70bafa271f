/- What package ops answers of an operation (fieldsHold, checked, Check, Class, Writes), read off the program by the walk. Conditions: each field is a number of its own width. -/
import Derived.Test.YtddcndlogoajkaaGreatDoorQKb
namespace Go.Proofs.YtddcndlogoajkaaGreatDoor.L8.Op
open Go.ChangeShapes Go.WideShapes Go.ChangeAt Go.RowKit
set_option maxRecDepth 20000

/-- An operation at a place. -/
structure OAt (w : World) (b f : Nat) (o : O) : Prop where
  c0 : w.cell? ⟨b, f, none⟩ = some (.int .i8 o.op)
  c1 : w.cell? ⟨b, f + 1, none⟩ = some (.int .u8 o.d)
  c2 : w.cell? ⟨b, f + 2, none⟩ = some (.int .u8 o.a)
  c3 : w.cell? ⟨b, f + 3, none⟩ = some (.int .u8 o.b)
  c4 : w.cell? ⟨b, f + 4, none⟩ = some (.int .i64 o.im)
theorem OAt.below {w w' : World} {b f B : Nat} {o : O} (h : OAt w b f o) (hb : Below B w w') (z : b < B) : OAt w' b f o := by
  have c := (bcell hb).1
  exact ⟨by rw [c _ _ z]; exact h.c0, by rw [c _ _ z]; exact h.c1, by rw [c _ _ z]; exact h.c2, by rw [c _ _ z]; exact h.c3, by rw [c _ _ z]; exact h.c4⟩

/-- A list of operations in memory. -/
structure OpsAt (w : World) (ao : Option Addr) (xs : List O) : Prop where
  ok : ∀ o, o ∈ xs → o.Ok
  len : xs.length ≤ 8796093022208
  is : 0 < xs.length → ∃ b f, ao = some ⟨b, f, none⟩ ∧ b < w.heap.size ∧ ∀ (i : Nat) (h : i < xs.length), OAt w b (f + i * 5) xs[i]
theorem OpsAt.below {w w' : World} {ao : Option Addr} {xs : List O} (h : OpsAt w ao xs) (hb : Below w.heap.size w w') : OpsAt w' ao xs := by
  refine ⟨h.ok, h.len, fun h0 => ?_⟩
  obtain ⟨b, f, e, z, hx⟩ := h.is h0
  exact ⟨b, f, e, Nat.lt_of_lt_of_le z hb.size, fun i hi => (hx i hi).below hb z⟩

/-- A block: its operations, how it ends, the body of its loop, where it goes on. -/
structure Bk where
  ops : List O
  fin : Int
  a : Int
  body : List O
  thn : Int
  els : Int
structure Bk.Ok (x : Bk) : Prop where
  f0 : -128 ≤ x.fin
  f1 : x.fin ≤ 127
  a0 : 0 ≤ x.a
  a1 : x.a ≤ 255
  t0 : -9223372036854775808 ≤ x.thn
  t1 : x.thn ≤ 9223372036854775807
  e0 : -9223372036854775808 ≤ x.els
  e1 : x.els ≤ 9223372036854775807

/-- Where a block's two lists lie. -/
structure Pl where
  oa : Option Addr
  oc : Nat
  ba : Option Addr
  bc : Nat
abbrev Bk.cells (x : Bk) (p : Pl) : Array Value := #[.slice p.oa x.ops.length p.oc, .int .i8 x.fin, .int .u8 x.a, .slice p.ba x.body.length p.bc, .int .i64 x.thn, .int .i64 x.els]
abbrev Bk.val (x : Bk) (p : Pl) : Value := .agg #[.slice p.oa x.ops.length p.oc, .int .i8 x.fin, .int .u8 x.a, .slice p.ba x.body.length p.bc, .int .i64 x.thn, .int .i64 x.els]
/-- A block's value, with its lists in memory. -/
structure BIn (w : World) (x : Bk) (p : Pl) : Prop where
  ok : x.Ok
  o : OpsAt w p.oa x.ops
  b : OpsAt w p.ba x.body
  c : x.ops.length ≤ p.oc
theorem BIn.below {w w' : World} {x : Bk} {p : Pl} (h : BIn w x p) (hb : Below w.heap.size w w') : BIn w' x p := ⟨h.ok, h.o.below hb, h.b.below hb, h.c⟩
structure BAt (w : World) (b f : Nat) (x : Bk) (p : Pl) : Prop where
  c0 : w.cell? ⟨b, f, none⟩ = some (.slice p.oa x.ops.length p.oc)
  c1 : w.cell? ⟨b, f + 1, none⟩ = some (.int .i8 x.fin)
  c2 : w.cell? ⟨b, f + 2, none⟩ = some (.int .u8 x.a)
  c3 : w.cell? ⟨b, f + 3, none⟩ = some (.slice p.ba x.body.length p.bc)
  c4 : w.cell? ⟨b, f + 4, none⟩ = some (.int .i64 x.thn)
  c5 : w.cell? ⟨b, f + 5, none⟩ = some (.int .i64 x.els)
theorem BAt.below {w w' : World} {b f B : Nat} {x : Bk} {p : Pl} (h : BAt w b f x p) (hb : Below B w w') (z : b < B) : BAt w' b f x p := by
  have c := (bcell hb).1
  exact ⟨by rw [c _ _ z]; exact h.c0, by rw [c _ _ z]; exact h.c1, by rw [c _ _ z]; exact h.c2, by rw [c _ _ z]; exact h.c3, by rw [c _ _ z]; exact h.c4, by rw [c _ _ z]; exact h.c5⟩

/-- A program in memory. -/
structure PAt (w : World) (ao : Option Addr) (ps : List Bk) : Prop where
  len : ps.length ≤ 2199023255552
  is : 0 < ps.length → ∃ b f, ao = some ⟨b, f, none⟩ ∧ b < w.heap.size ∧ ∀ (i : Nat) (h : i < ps.length), ∃ p, BAt w b (f + i * 6) ps[i] p ∧ BIn w ps[i] p
theorem PAt.below {w w' : World} {ao : Option Addr} {ps : List Bk} (h : PAt w ao ps) (hb : Below w.heap.size w w') : PAt w' ao ps := by
  refine ⟨h.len, fun h0 => ?_⟩
  obtain ⟨b, f, e, z, hx⟩ := h.is h0
  refine ⟨b, f, e, Nat.lt_of_lt_of_le z hb.size, fun i hi => ?_⟩
  obtain ⟨p, h1, h2⟩ := hx i hi
  exact ⟨p, h1.below hb z, h2.below hb⟩
end Go.Proofs.YtddcndlogoajkaaGreatDoor.L8.Op
namespace Go.Proofs.YtddcndlogoajkaaGreatDoor.L8.Op
open Go.ChangeShapes Go.WideShapes Go.ChangeAt Go.RowKit
set_option maxRecDepth 20000

theorem drewN_below {B : Nat} {a w : World} (h : Below B a w) (n : Nat) : Below B a (w.drewN n) := ⟨h.os, h.tape, h.output, h.size, h.block⟩
def bkN (x : Bk) : Nat := x.ops.length + x.body.length
def sumTo (ps : List Bk) (k : Nat) : Nat := ((ps.take k).map bkN).sum
theorem sumTo_succ {ps : List Bk} {k : Nat} (h : k < ps.length) : sumTo ps (k + 1) = sumTo ps k + bkN ps[k] := by
  unfold sumTo
  rw [List.take_succ_eq_append_getElem h, List.map_append, List.sum_append]; simp
theorem sumTo_zero (ps : List Bk) : sumTo ps 0 = 0 := by simp [sumTo]
theorem sumTo_le {w : World} {ao : Option Addr} {ps : List Bk} (h : PAt w ao ps) : ∀ k, k ≤ ps.length → sumTo ps k ≤ k * 17592186044416 := by
  intro k
  induction k with
  | zero => intro _; simp [sumTo_zero]
  | succ k ih =>
    intro hk
    have := ih (by omega)
    rw [sumTo_succ (by omega)]
    obtain ⟨b, f, _, _, hx⟩ := h.is (by omega)
    obtain ⟨p, _, h2⟩ := hx k (by omega)
    have l1 := h2.o.len
    have l2 := h2.b.len
    unfold bkN
    rw [Nat.succ_mul]
    omega
def opsN (ps : List Bk) : Nat := ps.length + sumTo ps ps.length

set_option maxHeartbeats 1000000 in
theorem ops_any (ao : Option Addr) (cap : Nat) (ps : List Bk) (w : World) (h : PAt w ao ps) (hl : ps.length ≤ 8192) :
    Calls Tryz.prog 11 #[.agg #[.slice ao ps.length cap]] w fun e w' => e = .returned (.int .i64 (opsN ps)) ∧ Below w.heap.size w w' := by
  have HP : Hid _ := h
  have HL : Hid _ := sumTo_le h
  have hlen := h.len
  clear h
  go_enter Tryz.func11, Tryz.ntmps11
  go_wp2
  go_loopw [12, 3] (fun i s wr => ∃ k : Nat, k ≤ ps.length ∧ i = .int .i64 k ∧ s = .int .i64 ((ps.length + sumTo ps k : Nat) : Int) ∧ Below w.heap.size w wr) (fun i _ _ => ps.length - (intOf i).toNat)
  case atStart => exact ⟨0, by omega, rfl, by simp [sumTo_zero], by go_grown⟩
  case round =>
    rename_i wr
    obtain ⟨k, hk, rfl, rfl, hbw⟩ := hrel
    by_cases hlt : k < ps.length
    · obtain ⟨b, f, rfl, hz, hx⟩ := HP.out.is (by omega)
      obtain ⟨p, h1, h2⟩ := hx k hlt
      obtain ⟨c0, c1, c2, c3, c4, c5⟩ := h1.below hbw hz
      have l1 := h2.o.len
      have l2 := h2.b.len
      have l3 := HL.out k (by omega)
      have l4 : sumTo ps k ≤ 144115188075855872 := by omega
      have HS : Hid _ := sumTo_succ hlt
      clear h1 l3 hx h2 HP
      go_wp2
      go_roundw
      case rel =>
        refine ⟨k + 1, by omega, by go_num, ?_, hbw.alloc hbw.size _⟩
        rw [HS.out]
        unfold bkN
        go_num
      case measure => simp [intOf]; omega
    · obtain rfl : k = ps.length := by omega
      go_wp2
      go_ret
      exact ⟨rfl, hbw⟩

theorem sumTo_mono (ps : List Bk) : ∀ j k, k + j ≤ ps.length → sumTo ps k ≤ sumTo ps (k + j) := by
  intro j
  induction j with
  | zero => intro k _; exact Nat.le_refl _
  | succ j ih =>
    intro k h
    have := ih k (by omega)
    rw [← Nat.add_assoc, sumTo_succ (by omega)]
    omega
def greatB (ps : List Bk) : Bool := decide (8192 < opsN ps)
set_option maxHeartbeats 1000000 in
theorem great_any (ao : Option Addr) (cap : Nat) (ps : List Bk) (w : World) (h : PAt w ao ps) :
    Calls Tryz.prog 5 #[.agg #[.slice ao ps.length cap]] w fun e w' => e = .returned (.bool (greatB ps)) ∧ Below w.heap.size w w' := by
  have HP : Hid _ := h
  have hlen := h.len
  have HM : Hid _ := sumTo_mono ps
  clear h
  go_enter Tryz.func5, Tryz.ntmps5
  go_wp2
  generalize hV : w.alloc (Obj.cells #[Value.slice ao ps.length cap] 24) = V at *
  have HV : Below w.heap.size w V := by rw [← hV]; exact (Below.refl _ _).alloc (Nat.le_refl _) _
  have hc : V.cell? ⟨w.heap.size, 0, none⟩ = some (.slice ao ps.length cap) := by rw [← hV]; simp
  have hzV : w.heap.size < V.heap.size := by rw [← hV]; simp
  clear hV
  go_loopw [4, 3] (fun i s wr => ∃ k : Nat, k ≤ ps.length ∧ i = .int .i64 k ∧ s = .int .i64 ((ps.length + sumTo ps k : Nat) : Int) ∧ Below V.heap.size V wr) (fun i _ _ => ps.length - (intOf i).toNat)
  case atStart => exact ⟨0, by omega, rfl, by simp [sumTo_zero], Below.refl _ _⟩
  case round =>
    rename_i wr
    obtain ⟨k, hk, rfl, rfl, hbw⟩ := hrel
    have hcr : wr.cell? ⟨w.heap.size, 0, none⟩ = some (.slice ao ps.length cap) := by rw [(bcell hbw).1 _ _ hzV]; exact hc
    by_cases hlt : k < ps.length
    · by_cases hs : ps.length + sumTo ps k ≤ 8192
      · obtain ⟨b, f, rfl, hz, hx⟩ := HP.out.is (by omega)
        obtain ⟨p, h1, h2⟩ := hx k hlt
        obtain ⟨c0, c1, c2, c3, c4, c5⟩ := h1.below (HV.trans (hbw.mono HV.size)) hz
        have l1 := h2.o.len
        have l2 := h2.b.len
        have HS : Hid _ := sumTo_succ hlt
        clear h1 hx h2 HP
        go_wp2
        go_quiet (fail)
        go_wp2
        go_roundw
        case rel =>
          refine ⟨k + 1, by omega, by go_num, ?_, drewN_below hbw nq⟩
          rw [HS.out]
          unfold bkN
          go_num
        case measure => simp [intOf]; omega
      · go_wp2
        go_ret
        refine ⟨ret_bool ?_, HV.trans (hbw.mono HV.size)⟩
        have := HM.out (ps.length - k) k (by omega)
        rw [show k + (ps.length - k) = ps.length by omega] at this
        unfold greatB opsN
        rw [Bool.eq_iff_iff]; simp; omega
    · obtain rfl : k = ps.length := by omega
      by_cases hs : ps.length + sumTo ps ps.length ≤ 8192
      all_goals
        go_wp2
        go_ret
        refine ⟨ret_bool ?_, HV.trans (hbw.mono HV.size)⟩
        unfold greatB opsN
        rw [Bool.eq_iff_iff]; simp; omega

set_option maxHeartbeats 1000000 in
theorem refOps_any (ao : Option Addr) (cap : Nat) (ps : List Bk) (w : World) (h : PAt w ao ps) (hl : ps.length ≤ 8192) :
    Calls Tryz.prog 38 #[.agg #[.slice ao ps.length cap]] w fun e w' => e = .returned (.int .i64 (opsN ps)) ∧ Below w.heap.size w w' := by
  have HP : Hid _ := h
  have HL : Hid _ := sumTo_le h
  clear h
  go_enter Tryz.func38, Tryz.ntmps38
  go_wp2
  generalize hV : w.alloc (Obj.cells #[Value.slice ao ps.length cap] 24) = V at *
  have HV : Below w.heap.size w V := by rw [← hV]; exact (Below.refl _ _).alloc (Nat.le_refl _) _
  have hc : V.cell? ⟨w.heap.size, 0, none⟩ = some (.slice ao ps.length cap) := by rw [← hV]; simp
  have hzV : w.heap.size < V.heap.size := by rw [← hV]; simp
  clear hV
  go_loopw [4, 3] (fun i s wr => ∃ k : Nat, k ≤ ps.length ∧ i = .int .i64 k ∧ s = .int .i64 ((k + sumTo ps k : Nat) : Int) ∧ Below V.heap.size V wr) (fun i _ _ => ps.length - (intOf i).toNat)
  case atStart => exact ⟨0, by omega, rfl, by simp [sumTo_zero], Below.refl _ _⟩
  case round =>
    rename_i wr
    obtain ⟨k, hk, rfl, rfl, hbw⟩ := hrel
    have hcr : wr.cell? ⟨w.heap.size, 0, none⟩ = some (.slice ao ps.length cap) := by rw [(bcell hbw).1 _ _ hzV]; exact hc
    by_cases hlt : k < ps.length
    · obtain ⟨b, f, rfl, hz, hx⟩ := HP.out.is (by omega)
      obtain ⟨p, h1, h2⟩ := hx k hlt
      obtain ⟨c0, c1, c2, c3, c4, c5⟩ := h1.below (HV.trans (hbw.mono HV.size)) hz
      have l1 := h2.o.len
      have l2 := h2.b.len
      have l3 := HL.out k (by omega)
      have l4 : sumTo ps k ≤ 144115188075855872 := by omega
      have HS : Hid _ := sumTo_succ hlt
      clear h1 hx h2 HP l3
      go_wp2
      go_quiet (fail)
      go_wp2
      go_roundw
      case rel =>
        refine ⟨k + 1, by omega, by go_num, ?_, drewN_below hbw nq⟩
        rw [HS.out]
        unfold bkN
        go_num
      case measure => simp [intOf]; omega
    · obtain rfl : k = ps.length := by omega
      go_wp2
      go_ret
      exact ⟨rfl, HV.trans (hbw.mono HV.size)⟩
end Go.Proofs.YtddcndlogoajkaaGreatDoor.L8.Op
namespace Go.Proofs.YtddcndlogoajkaaGreatDoor.L8.Op
open Go.ChangeShapes Go.WideShapes Go.ChangeAt Go.RowKit
set_option maxRecDepth 20000

theorem regHoldsV (r : Int) (c v : Bool) (w : World) (h : rH r c = v) : Calls Tryz.prog 126 #[.int .u8 r, .bool c] w fun e w' => e = .returned (.bool v) ∧ Below w.heap.size w w' :=
  (regHolds r c w).mono fun _ _ g => ⟨by rw [g.1, h], by rw [g.2]; exact Below.refl _ _⟩

set_option maxHeartbeats 1000000 in
theorem fieldsHold_any (k : K) (o : O) (w : World) :
    Calls Tryz.prog 113 #[k.val, o.val] w fun e w' => e = .returned (.bool (okF k o)) ∧ Below w.heap.size w w' := by
  have hW : Below w.heap.size w ((w.alloc (.cells #[.string k.s, .int .i8 k.cls, .int .u8 k.fields] 153)).alloc (.cells o.cells 51)) := by go_grown
  generalize hV : (w.alloc (.cells #[.string k.s, .int .i8 k.cls, .int .u8 k.fields] 153)).alloc (.cells o.cells 51) = V at hW
  have hsz : w.heap.size + 2 = V.heap.size := by rw [← hV]; simp
  have c0 : ∀ x : Wd (Below V.heap.size V), x.w.cell? ⟨w.heap.size, 0, none⟩ = some (.string k.s) := fun x => by rw [(bcell x.ok).1 _ _ (by omega), ← hV]; simp
  have c1 : ∀ x : Wd (Below V.heap.size V), x.w.cell? ⟨w.heap.size, 1, none⟩ = some (.int .i8 k.cls) := fun x => by rw [(bcell x.ok).1 _ _ (by omega), ← hV]; simp
  have c2 : ∀ x : Wd (Below V.heap.size V), x.w.cell? ⟨w.heap.size, 2, none⟩ = some (.int .u8 k.fields) := fun x => by rw [(bcell x.ok).1 _ _ (by omega), ← hV]; simp
  have d1 : ∀ x : Wd (Below V.heap.size V), x.w.cell? ⟨w.heap.size + 1, 1, none⟩ = some (.int .u8 o.d) := fun x => by rw [(bcell x.ok).1 _ _ (by omega), ← hV]; simp
  have d2 : ∀ x : Wd (Below V.heap.size V), x.w.cell? ⟨w.heap.size + 1, 2, none⟩ = some (.int .u8 o.a) := fun x => by rw [(bcell x.ok).1 _ _ (by omega), ← hV]; simp
  have d3 : ∀ x : Wd (Below V.heap.size V), x.w.cell? ⟨w.heap.size + 1, 3, none⟩ = some (.int .u8 o.b) := fun x => by rw [(bcell x.ok).1 _ _ (by omega), ← hV]; simp
  have d4 : ∀ x : Wd (Below V.heap.size V), x.w.cell? ⟨w.heap.size + 1, 4, none⟩ = some (.int .i64 o.im) := fun x => by rw [(bcell x.ok).1 _ _ (by omega), ← hV]; simp
  haveI inst : Nonempty (Wd (Below V.heap.size V)) := ⟨⟨V, Below.refl _ _⟩⟩
  have HW : Hid (Below w.heap.size w V) := hW
  have HV : Hid (_ = V) := hV
  clear hW hV
  have hdef : okF k o = (rH o.d k.D && rH o.a k.A && rH o.b (k.B || k.N) && iH o.im k.I) := rfl
  rw [hdef]
  clear hdef
  have aD := and_D k
  have aA := and_A k
  have aB := and_BN k
  have aI := and_I k
  cases h1 : rH o.d k.D
  rotate_left
  cases h2 : rH o.a k.A
  rotate_left
  cases h3 : rH o.b (k.B || k.N)
  rotate_left
  all_goals
    go_enter Tryz.func113, Tryz.ntmps113
    go_wp2
    rw [HV.out]
    refine wp_region_in (Below V.heap.size V) (by kernel_rfl) (by kernel_rfl) ((Below.refl _ _).drew) ?_
    repeat (first | go_big_quiet_step ((first
      | (go_at_call 103; exact calls_in (Nat.le_refl _) _ (counts_any _ _ _ _ _))
      | (go_at_call 126; exact calls_in (Nat.le_refl _) _ (regHoldsV _ _ _ _ (by assumption)))
      | (go_at_call 127; exact calls_in (Nat.le_refl _) _ ((immHolds _ _ _).mono fun _ _ h => ⟨h.1, by rw [h.2]; exact Below.refl _ _⟩)))))
    refine wpQuiet_nil ?_
    rintro _ ⟨x, rfl⟩
    have hx := x.ok
    go_wp2
    go_ret
    refine ⟨ret_bool (by simp), HW.out.trans (hx.mono HW.out.size)⟩
end Go.Proofs.YtddcndlogoajkaaGreatDoor.L8.Op
