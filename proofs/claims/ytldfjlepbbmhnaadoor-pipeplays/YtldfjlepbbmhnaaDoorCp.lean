/- A row of operations in memory of its own. Conditions: none. -/
import Derived.Test.YtldfjlepbbmhnaaDoorWd
import Derived.Deep.OwnRows
import Derived.Test.YtldfjlepbbmhnaaDoorPm
import Derived.Test.YtldfjlepbbmhnaaDoorBb
import Derived.Deep.AppendLies
import Derived.OwnWalk
namespace Go.Proofs.YtldfjlepbbmhnaaDoor.Bu
open Go.ChangeShapes Go.WideShapes Go.ChangeAt Go.RowKit
open _root_.Go.Proofs.YtldfjlepbbmhnaaDoor.Op
open _root_.Go.Proofs.YtldfjlepbbmhnaaDoor.Tb (Tab TabAt Bnds four tabAt_new ckR)
open _root_.Go.Proofs.YtldfjlepbbmhnaaDoor.So
set_option maxRecDepth 20000

theorem Wl.new (W : World) (n : Nat) (t : TypeId) : Wl (W.alloc (.cells (madeCells #[.int .u64 0] n) t)) W.heap.size n [] := by
  have h := At.new W (madeCells #[.int .u64 0] n) t
  refine ⟨fun k hk => h.c k _ ?_, h.f, h.lt⟩
  rw [← Array.getElem?_toList, toList_madeCells_one]
  simp [hk]
structure En (w W : World) (b N : Nat) (t : Tab) (ws : List Int) : Prop where
  wl : Wl W b N ws
  t : TabAt W w.heap.size t
  up : Below w.heap.size w W
  hb : w.heap.size < b
theorem En.next {w W W' : World} {b N : Nat} {t : Tab} {ws : List Int} (h : En w W b N t ws) (g : Below W.heap.size W W') : En w W' b N t ws :=
  ⟨h.wl.up g, h.t.below g h.t.lt, h.up.trans (g.mono h.up.size), h.hb⟩
theorem tab_fr {X : Nat → Prop} {W W' : World} {tb : Nat} {t : Tab} (h : TabAt W tb t) (g : Fr X W W') (hx : ¬ X tb) : TabAt W' tb t :=
  ⟨fun k hk => (g.cell h.lt hx _).trans (h.cu k hk), fun k hk => (g.cell h.lt hx _).trans (h.cl k hk), fun k hk => (g.cell h.lt hx _).trans (h.cb k hk), (g.cell h.lt hx _).trans h.cd, Nat.lt_of_lt_of_le h.lt g.size⟩
theorem At.frb {X : Nat → Prop} {W W' : World} {b : Nat} {cs : Array Value} (h : At W b cs) (g : Fr X W W') (hx : ¬ X b) : At W' b cs :=
  ⟨fun j v e => (g.cell h.lt hx j).trans (h.c j v e), fun j => (g.frozen h.lt hx j).trans (h.f j), Nat.lt_of_lt_of_le h.lt g.size⟩
/-- A bundle's box and the table's. -/
structure Eb (W : World) (tb bb : Nat) (t : Tab) (x : Bn) (p : Pb) : Prop where
  t : TabAt W tb t
  b : At W bb (bcs x p)
theorem Eb.frb {X : Nat → Prop} {W W' : World} {tb bb : Nat} {t : Tab} {x : Bn} {p : Pb} (h : Eb W tb bb t x p) (g : Fr X W W') (h1 : ¬ X tb) (h2 : ¬ X bb) : Eb W' tb bb t x p := ⟨tab_fr h.t g h1, At.frb h.b g h2⟩

theorem eb_start {W : World} {tb : Nat} {t : Tab} (x : Bn) (p : Pb) (ty : TypeId) (h : TabAt W tb t) : Eb (W.alloc (.cells (bcs x p) ty)).drew tb W.heap.size t x p := by
  have g : Below W.heap.size W (W.alloc (.cells (bcs x p) ty)).drew := ((Below.refl _ _).alloc (Nat.le_refl _) _).drew
  have a := At.new W (bcs x p) ty
  exact ⟨h.below g h.lt, a.below (Below.refl _ _).drew a.lt⟩
theorem wrap_in {k n : Int} (h0 : 0 ≤ k) (hn : n ≤ 2097152) (h : k ≤ n) : IntKind.i64.wrap k = k := by
  rw [IntKind.wrap_i64]; omega
def enE (t : Tab) (ls : List Bn) : Int := if t.ok then (if 65536 < ls.length then 3 else if allW t ls then 0 else 210) else 20
def EnOut (w : World) (t : Tab) (ls : List Bn) (e : Ending) (w' : World) : Prop :=
  if allW t ls then ∃ b, e = .returned (.tuple #[.slice (some ⟨b, 0, none⟩) (ls.length * ofs t 4) (ls.length * ofs t 4), .int .i64 0]) ∧ Wl w' b (ls.length * ofs t 4) (encW t ls) ∧ w.heap.size ≤ b ∧ Below w.heap.size w w'
  else e = .returned (.tuple #[.slice none 0 0, .int .i64 210]) ∧ Below w.heap.size w w'
theorem EnOut.no {w w' : World} {t : Tab} {ls : List Bn} (h : allW t ls = false) (hb : Below w.heap.size w w') : EnOut w t ls (.returned (.tuple #[.slice none 0 0, .int .i64 210])) w' := by
  unfold EnOut; rw [h]; exact ⟨rfl, hb⟩
theorem EnOut.yes {w w' : World} {t : Tab} {ls : List Bn} {b n : Nat} (h : allW t ls = true) (hn : n = ls.length * ofs t 4) (h1 : Wl w' b n (encW t ls)) (h2 : w.heap.size ≤ b) (hb : Below w.heap.size w w') : EnOut w t ls (.returned (.tuple #[.slice (some ⟨b, 0, none⟩) n n, .int .i64 0])) w' := by
  subst hn
  unfold EnOut; rw [h]; exact ⟨b, rfl, h1, h2, hb⟩
set_option maxHeartbeats 4000000 in
theorem enc_any (ao : Option Addr) (cap : Nat) (ls : List Bn) (t : Tab) (w : World) (hx : BsAt w ao ls) (hG : Bnds w) (ht : t.ok = true) (hl : ls.length ≤ 65536) :
    Calls Tryd.prog 23 #[.slice ao ls.length cap, t.val] w (EnOut w t ls) := by
  have HC : Hid (∀ W, Below w.heap.size w W → Calls Tryd.prog 35 #[t.val] W fun e w' => e = .returned (.int .i64 0) ∧ Below W.heap.size W w') := fun W hb => by
    have := Tb.check_any t W (hG.below hb hG.big)
    rw [ck_good ht] at this
    exact this
  have HWd : Hid (∀ W, Below w.heap.size w W → Calls Tryd.prog 37 #[t.val] W fun e w' => e = .returned (.int .i64 (ofs t 4 : Int)) ∧ Below W.heap.size W w') := fun W hb => width_any t W (hG.below hb hG.big) ht
  have HF : Hid (∀ x p W, BnIn W x p → Calls Tryd.prog 36 #[bval x p, t.val] W fun e w' => e = .returned (.bool (wfB t x)) ∧ Below W.heap.size W w') := fun x p W h => wellFormed_any x p t W h ht
  have HO : Hid (BsAt w ao ls) := hx
  have HTk : Hid (t.ok = true ∧ ofs t 4 ≤ 32) := ⟨ht, ofs_le ht⟩
  have hl' : (ls.length : Int) ≤ 65536 := by omega
  obtain ⟨i0, hi, hi2⟩ := Option.map_eq_some_iff.1 info40
  simp only [Prod.mk.injEq] at hi2
  obtain ⟨hz0, hz1, hz2⟩ := hi2
  have HI : Hid (Tryd.prog.info? 40 = some i0 ∧ i0.zero = some (.int .u64 0) ∧ i0.size = 1 ∧ i0.bytes = 8) := ⟨hi, hz0, hz1, hz2⟩
  clear hi hz0 hz1 hz2 hx hG ht
  unfold Tab.val at *
  go_enter Tryd.func23, Tryd.ntmps23
  go_upto_region 7 with (first | (go_at_call 35; refine Calls.mono (HC.out _ (by go_grown)) ?_; rintro e w1 ⟨rfl, hb⟩; have HS : Hid (TabAt w1 w.heap.size t ∧ Below w.heap.size w w1) := ⟨(tabAt_new w t 25).below hb (by simp), (by go_grown : Below w.heap.size w (w.alloc (.cells t.cells 25))).trans (hb.mono (by simp))⟩; clear hb))
  clear HC
  go_loopw [23] (fun i wr => ∃ k : Nat, k ≤ ls.length ∧ i = .int .i64 k ∧ (ls.take k).all (wfB t) = true ∧ TabAt wr w.heap.size t ∧ Below w.heap.size w wr) (fun i _ => ls.length - (intOf i).toNat)
  case atStart => exact ⟨0, by omega, rfl, by simp, HS.out⟩
  case round =>
    rename World => wr
    obtain ⟨k, hk, rfl, h1, h2, h3⟩ := hrel
    have HQ : Hid ((ls.take k).all (wfB t) = true ∧ TabAt wr w.heap.size t ∧ Below w.heap.size w wr) := ⟨h1, h2, h3⟩
    clear h1 h2 h3 HS
    by_cases hlt : k < ls.length
    · have k0 : (0 : Int) ≤ (k : Int) := by omega
      have k1 : (k : Int) < (ls.length : Int) := by omega
      obtain ⟨b, f, rfl, hz, hx⟩ := (HO.out.below HQ.out.2.2).is (by omega)
      obtain ⟨p, hN, hB⟩ := hx k hlt
      have q0 := hN.c 0 (by decide)
      rw [Nat.add_zero] at q0
      have q1 := hN.c 1 (by decide)
      have q2 := hN.c 2 (by decide)
      have q3 := hN.c 3 (by decide)
      have HT : Hid (wfB t ls[k] = true → (ls.take (k + 1)).all (wfB t) = true) := fun e => by rw [List.take_succ_eq_append_getElem hlt, List.all_append, HQ.out.1]; simp [e]
      have HFa : Hid (wfB t ls[k] = false → allW t ls = false) := fun e => by
        cases hb : allW t ls
        · rfl
        · rw [List.all_eq_true.1 hb _ (List.getElem_mem hlt)] at e; cases e
      have HB : Hid (BnIn wr ls[k] p) := hB
      clear hx hN hB
      generalize ls[k] = x at *
      have HX : Hid (TabAt (wr.alloc (.cells (bcs x p) 63)) w.heap.size t ∧ Below w.heap.size w (wr.alloc (.cells (bcs x p) 63)) ∧ BnIn (wr.alloc (.cells (bcs x p) 63)) x p ∧ At (wr.alloc (.cells (bcs x p) 63)) wr.heap.size (bcs x p)) := ⟨HQ.out.2.1.below ((Below.refl _ _).alloc (Nat.le_refl _) _) HQ.out.2.1.lt, HQ.out.2.2.alloc HQ.out.2.2.size _, HB.out.below ((Below.refl _ _).alloc (Nat.le_refl _) _), At.new _ _ _⟩
      go_upto_region 9 with fail
      generalize (wr.alloc (.cells (bcs x p) 63)) = X at *
      clear q0 q1 q2 q3 hz HQ HB
      have a0 := HX.out.2.2.2
      have x0 := a0.c 0 _ rfl
      have x1 := a0.c 1 _ rfl
      have x2 := a0.c 2 _ rfl
      have x3 := a0.c 3 _ rfl
      have xl := a0.lt
      clear a0
      have k2 := HX.out.1; have qu0 := k2.cu 0 (by decide); have qu1 := k2.cu 1 (by decide); have qu2 := k2.cu 2 (by decide); have qu3 := k2.cu 3 (by decide); have ql0 := k2.cl 0 (by decide); have ql1 := k2.cl 1 (by decide); have ql2 := k2.cl 2 (by decide); have ql3 := k2.cl 3 (by decide); have qb0 := k2.cb 0 (by decide); have qb1 := k2.cb 1 (by decide); have qb2 := k2.cb 2 (by decide); have qb3 := k2.cb 3 (by decide); have qd := k2.cd; have qz := k2.lt; clear k2
      have HF1 : Hid (∀ W, BnIn W x p → Calls Tryd.prog 36 #[bval x p, .agg #[.int .i64 (t.u 0), .int .i64 (t.u 1), .int .i64 (t.u 2), .int .i64 (t.u 3), .int .i64 (t.l 0), .int .i64 (t.l 1), .int .i64 (t.l 2), .int .i64 (t.l 3), .int .i64 (t.b 0), .int .i64 (t.b 1), .int .i64 (t.b 2), .int .i64 (t.b 3), .int .i64 t.d]] W fun e w' => e = .returned (.bool (wfB t x)) ∧ Below W.heap.size W w') := fun W h => HF.out x p W h
      cases hR : wfB t x
      · have HFa2 := HFa.out hR
        rw [hR] at HF1
        clear hR HT HFa
        go_wp2_with (first | (go_at_call 36; refine Calls.mono (HF1.out _ HX.out.2.2.1) ?_; rintro e w2 ⟨rfl, hb2⟩; have HB2 : Hid (Below w.heap.size w w2) := HX.out.2.1.trans (hb2.mono HX.out.2.1.size); clear hb2))
        go_ret2
        exact EnOut.no HFa2 HB2.out
      · have HT2 : Hid _ := HT.out hR
        rw [hR] at HF1
        clear hR HT HFa
        go_wp2_with (first | (go_at_call 36; refine Calls.mono (HF1.out _ HX.out.2.2.1) ?_; rintro e w2 ⟨rfl, hb2⟩; have HB2 : Hid (TabAt w2 w.heap.size t ∧ Below w.heap.size w w2) := ⟨HX.out.1.below hb2 HX.out.1.lt, HX.out.2.1.trans (hb2.mono HX.out.2.1.size)⟩; clear hb2))
        go_roundw
        case rel => exact ⟨k + 1, by omega, by go_num, HT2.out, HB2.out⟩
        case measure => simp [intOf]; omega
    · obtain rfl : k = ls.length := by omega
      have k1 : ¬ (ls.length : Int) < (ls.length : Int) := by omega
      have HAll : Hid (allW t ls = true) := by have := HQ.out.1; rw [List.take_length] at this; exact this
      obtain ⟨wd, hwd⟩ : ∃ wd, ofs t 4 = wd := ⟨_, rfl⟩
      have HWD : Hid (ofs t 4 = wd) := hwd
      have hwd32 : (wd : Int) ≤ 32 := by have := HTk.out.2; omega
      rw [hwd] at HWd
      clear hwd
      obtain ⟨NN, hNN⟩ : ∃ NN, NN = ls.length * wd := ⟨_, rfl⟩
      have hmul : (ls.length : Int) * (wd : Int) = (NN : Int) := by rw [hNN]; simp
      have hNb : NN ≤ 2097152 := by rw [hNN]; exact Nat.mul_le_mul (show ls.length ≤ 65536 by omega) (show wd ≤ 32 by omega)
      have HNN : Hid (NN = ls.length * wd) := hNN
      have hNi : (NN : Int) ≤ 2097152 := by omega
      clear hNN
      have k2 := HQ.out.2.1; have qu0 := k2.cu 0 (by decide); have qu1 := k2.cu 1 (by decide); have qu2 := k2.cu 2 (by decide); have qu3 := k2.cu 3 (by decide); have ql0 := k2.cl 0 (by decide); have ql1 := k2.cl 1 (by decide); have ql2 := k2.cl 2 (by decide); have ql3 := k2.cl 3 (by decide); have qb0 := k2.cb 0 (by decide); have qb1 := k2.cb 1 (by decide); have qb2 := k2.cb 2 (by decide); have qb3 := k2.cb 3 (by decide); have qd := k2.cd; have qz := k2.lt; clear k2
      go_upto_region 15 with (first
        | (go_at_call 37; refine Calls.mono (HWd.out _ HQ.out.2.2) ?_; rintro e w2 ⟨rfl, hb2⟩; have HS : Hid (TabAt w2 w.heap.size t ∧ Below w.heap.size w w2) := ⟨HQ.out.2.1.below hb2 HQ.out.2.1.lt, HQ.out.2.2.trans (hb2.mono HQ.out.2.2.size)⟩; clear hb2)
        | (at_make; refine wpList_make_row _ rfl _ _ 22 rfl 40 i0 (.int .u64 0) Tryd.underlying22 HI.out.1 HI.out.2.1 HI.out.2.2.1 rfl .i64 .i64 NN rfl rfl (by rw [HI.out.2.2.2]; omega) (by omega) ?_))
      clear qu0 qu1 qu2 qu3 ql0 ql1 ql2 ql3 qb0 qb1 qb2 qb3 qd qz HQ HWd hmul
      have HE : Hid (En w (w2.alloc (.cells (madeCells #[.int .u64 0] NN) 40)) w2.heap.size NN t []) := ⟨Wl.new _ _ _, HS.out.1.below ((Below.refl _ _).alloc (Nat.le_refl _) _) HS.out.1.lt, HS.out.2.alloc HS.out.2.size _, HS.out.1.lt⟩
      generalize (w2.alloc (.cells (madeCells #[.int .u64 0] NN) 40)) = W3 at *
      generalize w2.heap.size = b at *
      clear HS
      go_loopw [41] (fun i wz => ∃ k : Nat, k ≤ ls.length ∧ i = .int .i64 k ∧ En w wz b NN t (encW t (ls.take k))) (fun i _ => ls.length - (intOf i).toNat)
      case atStart => exact ⟨0, by omega, rfl, by simpa [encW] using HE.out⟩
      case round =>
        rename World => wz
        obtain ⟨k, hk, rfl, hs⟩ := hrel
        have HZ : Hid (En w wz b NN t (encW t (ls.take k))) := hs
        clear hs HE
        by_cases hlt : k < ls.length
        · have k0 : (0 : Int) ≤ (k : Int) := by omega
          have k2 : (k : Int) < (ls.length : Int) := by omega
          obtain ⟨lb, f, rfl, hz0, hx⟩ := HO.out.is (by omega)
          obtain ⟨p, hN0, hB⟩ := hx k hlt
          have hN := hN0.below HZ.out.up hz0
          have hz : lb < wz.heap.size := Nat.lt_of_lt_of_le hz0 HZ.out.up.size
          have q0 := hN.c 0 (by decide)
          rw [Nat.add_zero] at q0
          have q1 := hN.c 1 (by decide)
          have q2 := hN.c 2 (by decide)
          have q3 := hN.c 3 (by decide)
          have HB : Hid (BnIn w ls[k] p) := hB
          have HT : Hid (encW t (ls.take (k + 1)) = encW t (ls.take k) ++ wBk t ls[k] 4 ∧ wfB t ls[k] = true ∧ (encW t (ls.take k)).length = k * wd) := by
            refine ⟨by rw [List.take_succ_eq_append_getElem hlt, encW_next], List.all_eq_true.1 HAll.out _ (List.getElem_mem hlt), ?_⟩
            rw [encW_len, HWD.out, List.length_take, Nat.min_eq_left (by omega)]
            exact List.all_eq_true.2 fun x hx => List.all_eq_true.1 HAll.out _ (List.mem_of_mem_take hx)
          clear hx hN hN0 hB
          generalize ls[k] = x at *
          obtain ⟨KK, hKK⟩ : ∃ KK, KK = k * wd := ⟨_, rfl⟩
          have hkm : (k : Int) * (wd : Int) = (KK : Int) := by rw [hKK]; simp
          have hKN : KK + wd ≤ NN := by
            rw [HNN.out, hKK, ← Nat.succ_mul]
            exact Nat.mul_le_mul_right _ hlt
          have hKN' : (KK : Int) ≤ (NN : Int) := by omega
          have hK0 : (0 : Int) ≤ (KK : Int) := by omega
          rw [← hKK] at HT
          clear hKK
          generalize encW t (ls.take k) = L at *
          have HX : Hid (En w (wz.alloc (.cells (bcs x p) 63)) b NN t L ∧ BnIn w x p ∧ Eb (wz.alloc (.cells (bcs x p) 63)).drew w.heap.size wz.heap.size t x p ∧ b < wz.heap.size ∧ w.heap.size < b) := ⟨HZ.out.next ((Below.refl _ _).alloc (Nat.le_refl _) _), HB.out, eb_start x p 63 HZ.out.t, HZ.out.wl.lt, HZ.out.hb⟩
          go_upto_region 17 with fail
          generalize (wz.alloc (.cells (bcs x p) 63)) = X at *
          generalize wz.heap.size = bb at *
          clear q0 q1 q2 q3 hz HB HZ
          have hbb : ¬ bb = b := by have := HX.out.2.2.2.1; omega
          have hbt : ¬ w.heap.size = b := by have := HX.out.2.2.2.2; omega
          refine wp_region_held_drew (S := fun W' => Eb W' w.heap.size bb t x p) (by kernel_rfl) HX.out.2.2.1 (fun hHeld => ?_)
          refine wpAnyH_take (i := 0) (v := .slice (some ⟨b, 0, none⟩) NN NN) rfl (by kernel_rfl) (by kernel_rfl) (by kernel_rfl) (fun _ _ _ h => h) (Or.inl ⟨by rfl, fun w' hSw => by (go_simp)⟩) hHeld ?_
          simp only [Act.put, List.setIfInBounds_toArray, List.set_cons_zero, List.set_cons_succ, List.getElem_cons_zero, List.getElem_toArray]
          refine wpAnyH_take (i := 1) (v := .int .i64 (k : Int)) rfl (by kernel_rfl) (by kernel_rfl) (by kernel_rfl) (fun _ _ _ h => h) (Or.inl ⟨by rfl, fun w' hSw => by (go_simp)⟩) hHeld ?_
          simp only [Act.put, List.setIfInBounds_toArray, List.set_cons_zero, List.set_cons_succ, List.getElem_cons_zero, List.getElem_cons_succ, List.getElem_toArray]
          refine wpAnyH_take (i := 2) (v := .int .i64 (wd : Int)) rfl (by kernel_rfl) (by kernel_rfl) (by kernel_rfl) (fun _ _ _ h => h) (Or.inl ⟨by rfl, fun w' hSw => by (go_simp)⟩) hHeld ?_
          simp only [Act.put, List.setIfInBounds_toArray, List.set_cons_zero, List.set_cons_succ, List.getElem_cons_zero, List.getElem_cons_succ, List.getElem_toArray]
          refine wpAnyH_take (i := 3) (v := .int .i64 (KK : Int)) rfl (by kernel_rfl) (by kernel_rfl) (by kernel_rfl) (fun _ _ _ h => h) (Or.inl ⟨by rfl, fun w' hSw => by (go_simp; exact wrap_in hK0 hNi hKN')⟩) hHeld ?_
          simp only [Act.put, List.setIfInBounds_toArray, List.set_cons_zero, List.set_cons_succ, List.getElem_cons_zero, List.getElem_cons_succ, List.getElem_toArray]
          refine wpAnyH_take (i := 4) (v := .slice (if NN = KK then some ⟨b, 0, none⟩ else some ⟨b, KK, none⟩) (NN - KK) (NN - KK)) rfl (by kernel_rfl) (by kernel_rfl) (by kernel_rfl) (fun _ _ _ h => h) (Or.inl ⟨by rfl, fun w' hSw => by (go_simp)⟩) hHeld ?_
          simp only [Act.put, List.setIfInBounds_toArray, List.set_cons_zero, List.set_cons_succ, List.getElem_cons_zero, List.getElem_cons_succ, List.getElem_toArray]
          refine wpAnyH_take (i := 5) (v := bval x p) rfl (by kernel_rfl) (by kernel_rfl) (by kernel_rfl) (fun _ _ _ h => h) (Or.inl ⟨by rfl, fun w' hSw => by (have a0 := hSw.b; have x0 := a0.c 0 _ rfl; have x1 := a0.c 1 _ rfl; have x2 := a0.c 2 _ rfl; have x3 := a0.c 3 _ rfl; have xl := a0.lt; clear a0; go_simp)⟩) hHeld ?_
          simp only [Act.put, List.setIfInBounds_toArray, List.set_cons_zero, List.set_cons_succ, List.getElem_cons_zero, List.getElem_cons_succ, List.getElem_toArray]
          refine wpAnyH_take (i := 6) (v := .agg #[.int .i64 (t.u 0), .int .i64 (t.u 1), .int .i64 (t.u 2), .int .i64 (t.u 3), .int .i64 (t.l 0), .int .i64 (t.l 1), .int .i64 (t.l 2), .int .i64 (t.l 3), .int .i64 (t.b 0), .int .i64 (t.b 1), .int .i64 (t.b 2), .int .i64 (t.b 3), .int .i64 t.d]) rfl (by kernel_rfl) (by kernel_rfl) (by kernel_rfl) (fun _ _ _ h => h) (Or.inl ⟨by rfl, fun w' hSw => by (have k2 := hSw.t; have qu0 := k2.cu 0 (by decide); have qu1 := k2.cu 1 (by decide); have qu2 := k2.cu 2 (by decide); have qu3 := k2.cu 3 (by decide); have ql0 := k2.cl 0 (by decide); have ql1 := k2.cl 1 (by decide); have ql2 := k2.cl 2 (by decide); have ql3 := k2.cl 3 (by decide); have qb0 := k2.cb 0 (by decide); have qb1 := k2.cb 1 (by decide); have qb2 := k2.cb 2 (by decide); have qb3 := k2.cb 3 (by decide); have qd := k2.cd; have qz := k2.lt; clear k2; go_simp)⟩) hHeld ?_
          simp only [Act.put, List.setIfInBounds_toArray, List.set_cons_zero, List.set_cons_succ, List.getElem_cons_zero, List.getElem_cons_succ, List.getElem_toArray]
          refine wpAnyH_ready (rs := [7]) (by kernel_rfl) (by simp) ?_
          refine AllReadyH.cons rfl (fun K hK => ?_) AllReadyH.nil
          have HWr : Hid (Calls Tryd.prog 38 #[.slice (if NN = KK then some ⟨b, 0, none⟩ else some ⟨b, KK, none⟩) (NN - KK) (NN - KK), bval x p, .agg #[.int .i64 (t.u 0), .int .i64 (t.u 1), .int .i64 (t.u 2), .int .i64 (t.u 3), .int .i64 (t.l 0), .int .i64 (t.l 1), .int .i64 (t.l 2), .int .i64 (t.l 3), .int .i64 (t.b 0), .int .i64 (t.b 1), .int .i64 (t.b 2), .int .i64 (t.b 3), .int .i64 t.d]] X.drew fun e w' => e = .returned (.tuple #[]) ∧ Wl w' b NN (L ++ wBk t x 4) ∧ Fr (One b) X.drew w') :=
            write_any x p t w X.drew b NN (NN - KK) (NN - KK) _ L HX.out.2.1 HX.out.1.up.drew (Nat.le_of_lt HX.out.2.2.2.2) (HX.out.1.wl.up (Below.refl _ _).drew) HTk.out.1 HT.out.2.1 (by rw [HT.out.2.2]; omega) (Nat.le_refl _) (fun h => by rw [HT.out.2.2, if_neg (by omega)]) (by rw [HWD.out]; omega) (by omega)
          go_simp
          refine Calls.mono (HWr.out) ?_
          rintro e w4 ⟨rfl, hl4, hf4⟩
          have HE4 : Hid (En w w4 b NN t (L ++ wBk t x 4)) := ⟨hl4, tab_fr HX.out.2.2.1.t hf4 hbt, HX.out.1.up.drew.trans (hf4.below HX.out.1.up.drew.size fun j hj e => by have e : j = b := e; have := HX.out.2.2.2.2; omega), HX.out.2.2.2.2⟩
          have hEb := HX.out.2.2.1.frb hf4 hbt hbb
          clear hl4 hf4
          refine hK.out _ _ hEb (fun hHeld => ?_)
          clear hK K
          refine wpAnyH_done (by kernel_rfl) ?_ _
          clear hHeld hEb HX HWr
          go_wp2_with fail
          go_roundw
          case rel => exact ⟨k + 1, by omega, by go_num, by rw [HT.out.1]; exact HE4.out⟩
          case measure => simp [intOf]; omega
        · obtain rfl : k = ls.length := by omega
          have k2 : ¬ (ls.length : Int) < (ls.length : Int) := by omega
          have HZ2 : Hid (En w wz b NN t (encW t ls)) := by have := HZ.out; rw [List.take_length] at this; exact this
          go_wp2_with fail
          go_ret2
          exact EnOut.yes HAll.out (by rw [HNN.out, HWD.out]) HZ2.out.wl (Nat.le_of_lt HZ2.out.hb) HZ2.out.up
end Go.Proofs.YtldfjlepbbmhnaaDoor.Bu
namespace Go.Proofs.YtldfjlepbbmhnaaDoor.Op
open Go.ChangeShapes Go.WideShapes Go.ChangeAt Go.RowKit
set_option maxRecDepth 20000

theorem info55 : (Tryd.prog.info? 55).map (fun i => (i.zero, i.size, i.bytes)) = some (some (.agg #[.int .i8 0, .int .u8 0, .int .u8 0, .int .u8 0, .int .i64 0]), 5, 16) := by kernel_rfl
theorem add_at (b f j : Nat) : (⟨b, f, none⟩ : Addr).add j = ⟨b, f + j, none⟩ := by simp [Addr.add]
/-- The cells of operations in a row. -/
def ocells (xs : List O) : List Value := xs.flatMap fun o => [.int .i8 o.op, .int .u8 o.d, .int .u8 o.a, .int .u8 o.b, .int .i64 o.im]
theorem ocells_cons (o : O) (r : List O) : ocells (o :: r) = .int .i8 o.op :: .int .u8 o.d :: .int .u8 o.a :: .int .u8 o.b :: .int .i64 o.im :: ocells r := rfl
theorem ocells_get (xs : List O) : ∀ (i : Nat) (h : i < xs.length), (ocells xs)[i * 5]? = some (.int .i8 xs[i].op) ∧ (ocells xs)[i * 5 + 1]? = some (.int .u8 xs[i].d) ∧ (ocells xs)[i * 5 + 2]? = some (.int .u8 xs[i].a) ∧ (ocells xs)[i * 5 + 3]? = some (.int .u8 xs[i].b) ∧ (ocells xs)[i * 5 + 4]? = some (.int .i64 xs[i].im) := by
  induction xs with
  | nil => intro i h; simp at h
  | cons o r ih =>
    intro i h
    rw [ocells_cons]
    cases i with
    | zero => exact ⟨rfl, rfl, rfl, rfl, rfl⟩
    | succ i =>
      have := ih i (by simpa using h)
      rw [show (i + 1) * 5 = i * 5 + 1 + 1 + 1 + 1 + 1 by omega]
      simpa using this
/-- A row of operations is a list in memory. -/
theorem opsAt_row {w : World} {B c : Nat} {a : Option Addr} {xs : List O} (h : w.ownsRow B 55 5 (.slice a xs.length c) xs.length (ocells xs)) (hok : ∀ o, o ∈ xs → o.Ok) (hl : xs.length ≤ 8796093021952) : OpsAt w a xs := by
  refine ⟨hok, by omega, fun h0 => ?_⟩
  rcases h.2 with ⟨_, h1⟩ | ⟨g, cap, cur, h1, h2, h3, h4⟩
  · omega
  · injection h1 with e1 e2 e3
    subst e1
    have hc := h.cells (g := g) rfl
    refine ⟨g, 0, rfl, (h.lt g rfl).2, fun i hi => ?_⟩
    obtain ⟨g0, g1, g2, g3, g4⟩ := ocells_get xs i hi
    have k : ∀ j u, (ocells xs)[j]? = some u → w.cell? ⟨g, 0 + j, none⟩ = some u := fun j u hj => by have := hc j u hj; rw [add_at] at this; exact this
    exact ⟨k _ _ g0, k _ _ g1, k _ _ g2, k _ _ g3, k _ _ g4⟩

theorem grown_below {w w' : World} {row : Option Nat} (h : w.grownBy w' row) (hr : ∀ b, row = some b → w.heap.size ≤ b) : Below w.heap.size w w' :=
  ⟨h.os, h.tape, h.output, h.size, fun k hk => h.block k hk fun e => by have := hr k e.symm; omega⟩

end Go.Proofs.YtldfjlepbbmhnaaDoor.Op
