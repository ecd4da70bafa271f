/- What package program's Check answers of a program: read off the program by the walk. Conditions: the program lies in memory, and the tables as the program lays them. -/
import Derived.Test.YtddcndlogoajkaaGreatDoorQKc
import Derived.Test.YtddcndlogoajkaaGreatDoorQKd
namespace Go.Proofs.YtddcndlogoajkaaGreatDoor.L8.Op
open Go.ChangeShapes Go.WideShapes Go.ChangeAt Go.RowKit
set_option maxRecDepth 20000

/-- Is it an operation of a program? -/
def okP (o : O) : Bool := decide (1 ≤ o.op) && decide (o.op ≤ 17) && okO o
def allB (xs : List O) : Bool := xs.all okP
theorem allB_no {xs : List O} {k : Nat} (h : k < xs.length) (e : okP xs[k] = false) : false = allB xs := by
  cases hx : allB xs with
  | false => rfl
  | true =>
    have := List.all_eq_true.1 hx _ (List.getElem_mem h)
    rw [e] at this; cases this
theorem allB_yes {xs : List O} (h : ∀ (j : Nat) (hj : j < xs.length), okP xs[j] = true) : true = allB xs := by
  symm
  refine List.all_eq_true.2 fun o ho => ?_
  obtain ⟨i, hi, rfl⟩ := List.getElem_of_mem ho
  exact h i hi

set_option maxHeartbeats 1000000 in
theorem allHold_any (ao : Option Addr) (cap : Nat) (xs : List O) (w : World) (h : OpsAt w ao xs) :
    Calls Tryz.prog 47 #[.slice ao xs.length cap] w fun e w' => e = .returned (.bool (allB xs)) ∧ Below w.heap.size w w' := by
  have HP : Hid _ := h
  have hlen := h.len
  clear h
  go_enter Tryz.func47, Tryz.ntmps47
  go_wp2
  go_loopw [7] (fun i wr => ∃ k : Nat, k ≤ xs.length ∧ i = .int .i64 k ∧ (∀ (j : Nat) (hj : j < xs.length), j < k → okP xs[j] = true) ∧ Below w.heap.size w wr) (fun i _ => xs.length - (intOf i).toNat)
  case atStart => exact ⟨0, by omega, rfl, fun j _ hj => by omega, Below.refl _ _⟩
  case round =>
    rename_i wr
    obtain ⟨k, hk, rfl, hok, hbw⟩ := hrel
    by_cases hlt : k < xs.length
    · obtain ⟨b, f, rfl, hz, hx⟩ := HP.out.is (by omega)
      obtain ⟨c0, c1, c2, c3, c4⟩ := (hx k hlt).below hbw hz
      have ho := HP.out.ok xs[k] (List.getElem_mem hlt)
      have HC : Hid (∀ w, Calls Tryz.prog 77 #[xs[k].val] w fun e w' => e = .returned (.int .i64 (ckE xs[k])) ∧ Below w.heap.size w w') := fun w => check_any xs[k] w ho
      have HK : Hid _ := hok
      have HB : Hid _ := hbw
      clear hx HP hok hbw ho
      generalize hg : xs[k] = o at *
      have HO : Hid (xs[k] = o) := hg
      clear hg
      cases h1 : okP o
      · have HN : Hid _ := h1
        by_cases g1 : o.op < 1
        · go_wp2
          go_ret
          exact ⟨ret_bool (allB_no hlt (by rw [HO.out]; exact h1)), HB.out.alloc HB.out.size _⟩
        · by_cases g2 : 17 < o.op
          · go_wp2
            go_ret
            exact ⟨ret_bool (allB_no hlt (by rw [HO.out]; exact h1)), HB.out.alloc HB.out.size _⟩
          · have g3 : ckE o = 30 := by
              simp [okP] at h1
              simp [ckE, h1 (by omega) (by omega)]
            rw [g3] at HC
            go_wp2_with (first | (go_at_call 77; refine Calls.mono (HC.out _) ?_; rintro e w1 ⟨rfl, hb⟩))
            go_ret
            exact ⟨ret_bool (allB_no hlt (by rw [HO.out]; exact h1)), (HB.out.alloc HB.out.size _).trans (hb.mono (by have := HB.out.size; simp; omega))⟩
      · have hh := h1
        simp [okP] at hh
        obtain ⟨⟨g1, g2⟩, g3⟩ := hh
        have g3 : ckE o = 0 := by simp [ckE, g3]
        rw [g3] at HC
        have HN : Hid _ := h1
        clear h1 g3
        have g1' : ¬ o.op < 1 := by omega
        have g2' : ¬ 17 < o.op := by omega
        go_wp2_with (first | (go_at_call 77; refine Calls.mono (HC.out _) ?_; rintro e w1 ⟨rfl, hb⟩))
        go_roundw
        case rel =>
          refine ⟨k + 1, by omega, by go_num, fun j hj hjk => ?_, (HB.out.alloc HB.out.size _).trans (hb.mono (by have := HB.out.size; simp; omega))⟩
          rcases Nat.lt_or_ge j k with h | h
          · exact HK.out j hj h
          · obtain rfl : j = k := by omega
            rw [HO.out]; exact HN.out
        case measure => simp [intOf]; omega
    · obtain rfl : k = xs.length := by omega
      go_wp2
      go_ret
      exact ⟨ret_bool (allB_yes fun j hj => hok j hj hj), hbw⟩

/-! ### ends -/
def eK (f : Int) : Bool := decide (0 ≤ f ∧ f ≤ 3)
def eA (f : Int) : Bool := decide (1 ≤ f ∧ f ≤ 3)
def eB (f : Int) : Bool := decide (f = 3)
def eT (f : Int) : Bool := decide (0 ≤ f ∧ f ≤ 3 ∧ ¬ f = 2)
def eE (f : Int) : Bool := decide (f = 1)
/-- The table of ends, as the program lays it. -/
structure EndsAt (w : World) : Prop where
  c : ∀ k : Nat, k < 4 → w.cell? ⟨0, k * 4, none⟩ = some (.bool (eA k)) ∧ w.cell? ⟨0, k * 4 + 1, none⟩ = some (.bool (eB k)) ∧ w.cell? ⟨0, k * 4 + 2, none⟩ = some (.bool (eT k)) ∧ w.cell? ⟨0, k * 4 + 3, none⟩ = some (.bool (eE k))
/-- What the program's variables hold. -/
structure Env (w : World) : Prop where
  e : EndsAt w
  big : 1 ≤ w.heap.size
theorem Env.below {B : Nat} {w w' : World} (h : Env w) (hb : Below B w w') (hB : 1 ≤ B) : Env w' := by
  refine ⟨⟨fun k hk => ?_⟩, Nat.le_trans h.big hb.size⟩
  have c := (bcell hb).1
  obtain ⟨h0, h1, h2, h3⟩ := h.e.c k hk
  exact ⟨by rw [c _ _ (by omega)]; exact h0, by rw [c _ _ (by omega)]; exact h1, by rw [c _ _ (by omega)]; exact h2, by rw [c _ _ (by omega)]; exact h3⟩
theorem Env.up {w w' : World} (h : Env w) (hb : Below w.heap.size w w') : Env w' := h.below hb h.big

abbrev endV (f : Int) : Value := .agg #[.bool (eA f), .bool (eB f), .bool (eT f), .bool (eE f)]
theorem endOf_no (f : Int) (w : World) (r0 : -128 ≤ f) (r1 : f ≤ 127) (h : f < 0 ∨ 3 < f) :
    Calls Tryz.prog 46 #[.int .i8 f] w fun e w' => e = .returned (.tuple #[endV f, .bool (eK f)]) ∧ Below w.heap.size w w' := by
  have e1 : eA f = false := by simp [eA]; omega
  have e2 : eB f = false := by simp [eB]; omega
  have e3 : eT f = false := by simp [eT]; omega
  have e4 : eE f = false := by simp [eE]; omega
  have e5 : eK f = false := by simp [eK]; omega
  unfold endV
  rw [e1, e2, e3, e4, e5]
  clear e1 e2 e3 e4 e5
  rcases h with h | h
  all_goals
    go_enter Tryz.func46, Tryz.ntmps46
    go_wp2
    refine bodyPost_ret (v := .tuple #[.agg #[.bool false, .bool false, .bool false, .bool false], .bool false]) (by simp [results, Tryz.results46, go_sem]) rfl ⟨rfl, by go_grown⟩
theorem endOf_yes (k : Nat) (w : World) (h : k < 4) (he : EndsAt w) (hz : 1 ≤ w.heap.size) :
    Calls Tryz.prog 46 #[.int .i8 k] w fun e w' => e = .returned (.tuple #[endV k, .bool (eK k)]) ∧ Below w.heap.size w w' := by
  obtain ⟨c0, c1, c2, c3⟩ := he.c k h
  rw [show eK k = true by simp [eK]; omega]
  have z1 : 0 < w.heap.size := by omega
  clear he
  have i1 : (k : Int) < 4 := by omega
  go_enter Tryz.func46, Tryz.ntmps46
  go_wp2
  refine bodyPost_ret (v := .tuple #[endV k, .bool true]) (by simp [results, Tryz.results46, go_sem]) rfl ⟨rfl, by go_grown⟩
theorem endOf_any (f : Int) (w : World) (r0 : -128 ≤ f) (r1 : f ≤ 127) (he : Env w) :
    Calls Tryz.prog 46 #[.int .i8 f] w fun e w' => e = .returned (.tuple #[endV f, .bool (eK f)]) ∧ Below w.heap.size w w' := by
  by_cases h : f < 0 ∨ 3 < f
  · exact endOf_no f w r0 r1 h
  · obtain ⟨k, rfl⟩ := Int.eq_ofNat_of_zero_le (show 0 ≤ f by omega)
    exact endOf_yes k w (by omega) he.e he.big

theorem regP_any (r : Int) (c : Bool) (w : World) : Calls Tryz.prog 48 #[.int .u8 r, .bool c] w fun e w' => e = .returned (.bool (rH r c)) ∧ w' = w := by
  cases c
  all_goals
    go_enter Tryz.func48, Tryz.ntmps48
    go_wp2
    go_ret
    exact ⟨ret_bool (by simp [rH]), rfl⟩
def bH (n m : Int) (c : Bool) : Bool := if c then decide (0 ≤ n) && decide (n < m) else n == 0
theorem blkP_any (n m : Int) (c : Bool) (w : World) : Calls Tryz.prog 49 #[.int .i64 n, .int .i64 m, .bool c] w fun e w' => e = .returned (.bool (bH n m c)) ∧ w' = w := by
  cases c
  · go_enter Tryz.func49, Tryz.ntmps49
    go_wp2
    go_ret
    exact ⟨ret_bool (by simp [bH]), rfl⟩
  · by_cases h : 0 ≤ n
    all_goals
      go_enter Tryz.func49, Tryz.ntmps49
      go_wp2
      go_ret
      refine ⟨ret_bool ?_, rfl⟩
      rw [Bool.eq_iff_iff]; simp [bH]; omega

/-- Does a block end as one of n blocks may? -/
def endB (x : Bk) (n : Int) : Bool := eK x.fin && rH x.a (eA x.fin) && bH x.thn n (eT x.fin) && bH x.els n (eE x.fin) && (decide (x.body.length = 0) || eB x.fin)
def ckB (x : Bk) (n : Int) : Int := if allB x.ops then if endB x n then if allB x.body then 0 else 30 else 50 else 30

theorem At.b6 {w : World} {b : Nat} {x0 x1 x2 x3 x4 x5 : Value} (h : At w b #[x0, x1, x2, x3, x4, x5]) : w.cell? ⟨b, 0, none⟩ = some x0 ∧ w.cell? ⟨b, 1, none⟩ = some x1 ∧ w.cell? ⟨b, 2, none⟩ = some x2 ∧ w.cell? ⟨b, 3, none⟩ = some x3 ∧ w.cell? ⟨b, 4, none⟩ = some x4 ∧ w.cell? ⟨b, 5, none⟩ = some x5 :=
  ⟨h.c 0 _ rfl, h.c 1 _ rfl, h.c 2 _ rfl, h.c 3 _ rfl, h.c 4 _ rfl, h.c 5 _ rfl⟩
theorem At.e4 {w : World} {b : Nat} {x0 x1 x2 x3 : Value} (h : At w b #[x0, x1, x2, x3]) : w.cell? ⟨b, 0, none⟩ = some x0 ∧ w.cell? ⟨b, 1, none⟩ = some x1 ∧ w.cell? ⟨b, 2, none⟩ = some x2 ∧ w.cell? ⟨b, 3, none⟩ = some x3 :=
  ⟨h.c 0 _ rfl, h.c 1 _ rfl, h.c 2 _ rfl, h.c 3 _ rfl⟩
set_option maxHeartbeats 4000000 in
theorem checkBlock_any (x : Bk) (p : Pl) (n : Int) (w : World) (hx : BIn w x p) (he : Env w) :
    Calls Tryz.prog 28 #[x.val p, .int .i64 n] w fun e w' => e = .returned (.int .i64 (ckB x n)) ∧ Below w.heap.size w w' := by
  have HE : Hid (∀ w1, Below w.heap.size w w1 → Calls Tryz.prog 46 #[.int .i8 x.fin] w1 fun e w' => e = .returned (.tuple #[endV x.fin, .bool (eK x.fin)]) ∧ Below w1.heap.size w1 w') := fun w1 h => endOf_any _ _ hx.ok.f0 hx.ok.f1 (he.up h)
  have HO : Hid (∀ w1, Below w.heap.size w w1 → Calls Tryz.prog 47 #[.slice p.oa x.ops.length p.oc] w1 fun e w' => e = .returned (.bool (allB x.ops)) ∧ Below w1.heap.size w1 w') := fun w1 h => allHold_any _ _ _ _ (hx.o.below h)
  have HB : Hid (∀ w1, Below w.heap.size w w1 → Calls Tryz.prog 47 #[.slice p.ba x.body.length p.bc] w1 fun e w' => e = .returned (.bool (allB x.body)) ∧ Below w1.heap.size w1 w') := fun w1 h => allHold_any _ _ _ _ (hx.b.below h)
  have hl := hx.b.len
  clear hx he
  generalize hr : ckB x n = r
  have HR : Hid (ckB x n = r) := hr
  clear hr
  go_enter Tryz.func28, Tryz.ntmps28
  go_wp2_with (first
    | (go_at_call 46; refine Calls.mono (HE.out _ (by go_grown)) ?_; rintro e w1 ⟨rfl, hb⟩; obtain ⟨a1, hb0, hz⟩ := one_new w _ _ hb; have HB1 : Hid (Below w.heap.size w w1) := hb0; have HA : Hid _ := a1; obtain ⟨o0, o1, o2, o3, o4, o5⟩ := a1.b6; clear hb hb0 a1 HE)
    | (go_at_call 47; refine Calls.mono (HO.out _ (HB1.out.alloc HB1.out.size _)) ?_; rintro e w2 ⟨rfl, hb⟩; obtain ⟨k1, hb3, hz3⟩ := one_new w1 _ _ hb; have a2 := HA.out.below hb3 hz; have HB2 : Hid (Below w.heap.size w w2) := HB1.out.trans (hb3.mono HB1.out.size); clear o0 o1 o2 o3 o4 o5; obtain ⟨o0, o1, o2, o3, o4, o5⟩ := a2.b6; obtain ⟨k0, k1, k2, k3⟩ := k1.e4; have hz2 := a2.lt; clear hb HO a2 hb3 HA)
    | (go_at_call 48; refine Calls.mono (regP_any _ _ _) ?_; rintro e _ ⟨rfl, rfl⟩)
    | (go_at_call 49; refine Calls.mono (blkP_any _ _ _ _) ?_; rintro e _ ⟨rfl, rfl⟩)
    | (go_at_call 47; refine Calls.mono (HB.out _ HB2.out) ?_; rintro e w3 ⟨rfl, hb⟩; have HB3 : Hid (Below w.heap.size w w3) := HB2.out.trans (hb.mono HB2.out.size); clear hb HB))
  all_goals
    go_ret
    refine ⟨ret_int ?_, by first | exact HB3.out | exact HB2.out⟩
    have hr := HR.out
    clear HR HB1
    simp_all [ckB, endB, Nat.pos_iff_ne_zero]
end Go.Proofs.YtddcndlogoajkaaGreatDoor.L8.Op
namespace Go.Proofs.YtddcndlogoajkaaGreatDoor.L8.Op
open Go.ChangeShapes Go.WideShapes Go.ChangeAt Go.RowKit
set_option maxRecDepth 20000

def firstE (n : Int) : List Bk → Int
  | [] => 0
  | x :: r => if ckB x n = 0 then firstE n r else ckB x n
theorem firstE_no {n : Int} {ps : List Bk} {k : Nat} (h : k < ps.length) (h0 : ∀ (j : Nat) (hj : j < ps.length), j < k → ckB ps[j] n = 0) (e : ¬ ckB ps[k] n = 0) : ckB ps[k] n = firstE n ps := by
  induction ps generalizing k with
  | nil => simp at h
  | cons x r ih =>
    cases k with
    | zero =>
      have e' : ¬ ckB x n = 0 := e
      show ckB x n = if ckB x n = 0 then firstE n r else ckB x n
      rw [if_neg e']
    | succ k =>
      have hx := h0 0 (by simp) (by omega)
      simp at hx
      simp [firstE, hx]
      exact ih (by simpa using h) (fun j hj hjk => h0 (j + 1) (by simp; omega) (by omega)) (by simpa using e)
theorem firstE_yes {n : Int} {ps : List Bk} (h0 : ∀ (j : Nat) (hj : j < ps.length), ckB ps[j] n = 0) : 0 = firstE n ps := by
  induction ps with
  | nil => rfl
  | cons x r ih =>
    have hx := h0 0 (by simp)
    simp at hx
    simp [firstE, hx]
    exact ih fun j hj => h0 (j + 1) (by simp; omega)
/-- What Check answers. -/
def ckP (ps : List Bk) : Int := if 128 < ps.length ∨ 1024 < opsN ps then 3 else if ps.length = 0 then 50 else firstE ps.length ps

set_option maxHeartbeats 4000000 in
theorem checkP_any (ao : Option Addr) (cap : Nat) (ps : List Bk) (w : World) (h : PAt w ao ps) (he : Env w) :
    Calls Tryz.prog 14 #[.agg #[.slice ao ps.length cap]] w fun e w' => e = .returned (.int .i64 (ckP ps)) ∧ Below w.heap.size w w' := by
  have hlen := h.len
  by_cases h1 : 128 < ps.length
  · rw [show ckP ps = 3 by simp [ckP, h1]]
    clear h he
    go_enter Tryz.func14, Tryz.ntmps14
    go_wp2
    go_ret
    exact ⟨rfl, by go_grown⟩
  · have HO : Hid (∀ w1, Below w.heap.size w w1 → Calls Tryz.prog 11 #[.agg #[.slice ao ps.length cap]] w1 fun e w' => e = .returned (.int .i64 (opsN ps)) ∧ Below w1.heap.size w1 w') := fun w1 hb => ops_any _ _ _ _ (h.below hb) (by omega)
    by_cases h2 : 1024 < opsN ps
    · rw [show ckP ps = 3 by simp [ckP, h2]]
      clear h he
      go_enter Tryz.func14, Tryz.ntmps14
      go_wp2_with (first | (go_at_call 11; refine Calls.mono (HO.out _ (by go_grown)) ?_; rintro e w1 ⟨rfl, hb⟩))
      go_ret
      obtain ⟨-, hb0, -⟩ := one_new w _ _ hb
      exact ⟨rfl, hb0⟩
    · by_cases h3 : ps.length = 0
      · rw [show ckP ps = 50 by simp [ckP, h2, h3]]
        clear h he
        obtain rfl : ps = [] := List.eq_nil_of_length_eq_zero h3
        have HO' : Hid (∀ w1, Below w.heap.size w w1 → Calls Tryz.prog 11 #[.agg #[.slice ao 0 cap]] w1 fun e w' => e = .returned (.int .i64 0) ∧ Below w1.heap.size w1 w') := HO.out
        clear HO h1 h2 h3
        show Calls Tryz.prog 14 #[.agg #[.slice ao 0 cap]] w _
        go_enter Tryz.func14, Tryz.ntmps14
        go_wp2_with (first | (go_at_call 11; refine Calls.mono (HO'.out _ (by go_grown)) ?_; rintro e w1 ⟨rfl, hb⟩; obtain ⟨a1, hb0, hz⟩ := one_new w _ _ hb; have HB1 : Hid _ := hb0; have c0 := a1.c 0 _ rfl; clear hb hb0 a1))
        go_ret
        exact ⟨rfl, HB1.out⟩
      · rw [show ckP ps = firstE ps.length ps by simp [ckP, h1, h2, h3]]
        have HP : Hid _ := h
        have HE : Hid _ := he
        have h6 : ((ps.length : Int) == 0) = false := by simp; exact fun e => h3 (by rw [e]; rfl)
        clear h he
        go_enter Tryz.func14, Tryz.ntmps14
        go_wp2_with (first | (go_at_call 11; refine Calls.mono (HO.out _ (by go_grown)) ?_; rintro e w1 ⟨rfl, hb⟩; obtain ⟨a1, hb0, hz⟩ := one_new w _ _ hb; have HB1 : Hid _ := hb0; have HA : Hid _ := a1; have c0 := a1.c 0 _ rfl; clear hb hb0 a1 HO))
        go_loopw [22] (fun i wr => ∃ k : Nat, k ≤ ps.length ∧ i = .int .i64 k ∧ (∀ (j : Nat) (hj : j < ps.length), j < k → ckB ps[j] ps.length = 0) ∧ At wr w.heap.size #[.slice ao ps.length cap] ∧ Below w.heap.size w wr) (fun i _ => ps.length - (intOf i).toNat)
        case atStart => exact ⟨0, by omega, rfl, fun j _ hj => by omega, HA.out, HB1.out⟩
        case round =>
          rename_i wr
          obtain ⟨k, hk, rfl, hok, hat, hbw⟩ := hrel
          by_cases hlt : k < ps.length
          · obtain ⟨b, f, rfl, hz, hx⟩ := HP.out.is (by omega)
            obtain ⟨p, hp, h5⟩ := hx k hlt
            obtain ⟨c0, c1, c2, c3, c4, c5⟩ := hp.below hbw hz
            have cw := hat.c 0 _ rfl
            have HC : Hid (∀ w1, Below w.heap.size w w1 → Calls Tryz.prog 28 #[ps[k].val p, .int .i64 ps.length] w1 fun e w' => e = .returned (.int .i64 (ckB ps[k] ps.length)) ∧ Below w1.heap.size w1 w') := fun w1 hb => checkBlock_any _ _ _ _ (h5.below hb) (HE.out.up hb)
            have HK : Hid _ := hok
            have HB : Hid _ := hbw
            have HT : Hid _ := hat
            have hzr := hat.lt
            clear hx hp h5 HE HP hok hbw hat
            by_cases h5 : ckB ps[k] ps.length = 0
            · have HN : Hid _ := h5
              rw [h5] at HC
              clear h5
              go_wp2_with (first | (go_at_call 28; refine Calls.mono (HC.out _ (HB.out.alloc HB.out.size _)) ?_; rintro e w2 ⟨rfl, hb⟩))
              go_roundw
              case rel =>
                refine ⟨k + 1, by omega, by go_num, fun j hj hjk => ?_, (HT.out.alloc _).below hb (by simp; omega), (HB.out.alloc HB.out.size _).trans (hb.mono (by have := HB.out.size; simp; omega))⟩
                rcases Nat.lt_or_ge j k with h | h
                · exact HK.out j hj h
                · obtain rfl : j = k := by omega
                  exact HN.out
              case measure => simp [intOf]; omega
            · have HN : Hid _ := firstE_no hlt HK.out h5
              go_wp2_with (first | (go_at_call 28; refine Calls.mono (HC.out _ (HB.out.alloc HB.out.size _)) ?_; rintro e w2 ⟨rfl, hb⟩))
              go_ret
              exact ⟨ret_int HN.out, (HB.out.alloc HB.out.size _).trans (hb.mono (by have := HB.out.size; simp; omega))⟩
          · obtain rfl : k = ps.length := by omega
            go_wp2
            go_ret
            exact ⟨ret_int (firstE_yes fun j hj => hok j hj hj), hbw⟩
end Go.Proofs.YtddcndlogoajkaaGreatDoor.L8.Op
