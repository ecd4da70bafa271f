/- The statement ListEarly over the program: an operation could not have been put into any earlier cycle. Conditions: the list lies in memory, the variables as the program lays them. -/
import Derived.Test.YtnckkhamkkaljaaDoorWm
namespace Go.Proofs.YtnckkhamkkaljaaDoor.Ls
open Go.ChangeShapes Go.WideShapes Go.ChangeAt Go.RowKit
open _root_.Go.Proofs.YtnckkhamkkaljaaDoor.Op _root_.Go.Proofs.YtnckkhamkkaljaaDoor.So _root_.Go.Proofs.YtnckkhamkkaljaaDoor.Dp _root_.Go.Proofs.YtnckkhamkkaljaaDoor.ListWay
open _root_.Go.Proofs.YtnckkhamkkaljaaDoor.Tb (Tab TabAt Bnds)
set_option maxRecDepth 20000

/-- An edge that keeps one back. -/
def whE (c : Nat → Int) (i : Nat) (y : Int) (es : List Ed) : Bool := es.any fun e => decide (e.t.toNat = i) && decide (y < c e.f.toNat + e.l)
theorem whE_take (c : Nat → Int) (i : Nat) (y : Int) (es : List Ed) (k : Nat) (h : k < es.length) : whE c i y (es.take (k + 1)) = (whE c i y (es.take k) || (decide (es[k].t.toNat = i) && decide (y < c es[k].f.toNat + es[k].l))) := by
  unfold whE
  rw [List.take_succ_eq_append_getElem h, List.any_append]
  simp
/-- All units are busy, in one of so many cycles. -/
def whU (s : ListWay.Sys) (c : Nat → Int) (cl : Nat) (u y : Int) (k : Nat) : Bool := (List.range k).any fun j => decide (u ≤ (busy s c cl (y + (j : Nat)) : Int))
theorem whU_next (s : ListWay.Sys) (c : Nat → Int) (cl : Nat) (u y : Int) (k : Nat) : whU s c cl u y (k + 1) = (whU s c cl u y k || decide (u ≤ (busy s c cl (y + (k : Nat)) : Int))) := by
  unfold whU
  rw [List.range_succ, List.any_append]
  simp
set_option maxHeartbeats 8000000 in
theorem early_bad (ao : Option Addr) (cap : Nat) (xs : List O) (t : Tab) (w : World) (hG : Bnds w) (hn : xs.length ≤ 60) (er fr : Int) (he : ¬ er = 0) (hef : er = fr ∨ (fr = 0 ∧ er = 21)) (hcy : ∀ W, Below w.heap.size w W → Calls Tryd.prog 11 #[.slice ao xs.length cap, t.val] W fun e w' => e = .returned (.tuple #[.slice none 0 0, .int .i64 er]) ∧ Below W.heap.size W w') (hof : ∀ W, Below w.heap.size w W → Calls Tryd.prog 12 #[.slice ao xs.length cap, t.val] W fun e w' => ∃ a m c, e = .returned (.tuple #[.slice a m c, .int .i64 fr]) ∧ Below W.heap.size W w') :
    Calls Tryd.prog 4 #[.slice ao xs.length cap, t.val] w fun e w' => e = .returned (.bool true) ∧ Below w.heap.size w w' := by
  have HCy : Hid (∀ W, Below w.heap.size w W → Calls Tryd.prog 11 #[.slice ao xs.length cap, .agg #[.int .i64 (t.u 0), .int .i64 (t.u 1), .int .i64 (t.u 2), .int .i64 (t.u 3), .int .i64 (t.l 0), .int .i64 (t.l 1), .int .i64 (t.l 2), .int .i64 (t.l 3), .int .i64 (t.b 0), .int .i64 (t.b 1), .int .i64 (t.b 2), .int .i64 (t.b 3), .int .i64 t.d]] W fun e w' => e = .returned (.tuple #[.slice none 0 0, .int .i64 er]) ∧ Below W.heap.size W w') := hcy
  have HOf : Hid (∀ W, Below w.heap.size w W → Calls Tryd.prog 12 #[.slice ao xs.length cap, .agg #[.int .i64 (t.u 0), .int .i64 (t.u 1), .int .i64 (t.u 2), .int .i64 (t.u 3), .int .i64 (t.l 0), .int .i64 (t.l 1), .int .i64 (t.l 2), .int .i64 (t.l 3), .int .i64 (t.b 0), .int .i64 (t.b 1), .int .i64 (t.b 2), .int .i64 (t.b 3), .int .i64 t.d]] W fun e w' => ∃ a m c, e = .returned (.tuple #[.slice a m c, .int .i64 fr]) ∧ Below W.heap.size W w') := hof
  have HW : Hid (∀ W, Below w.heap.size w W → Calls Tryd.prog 7 #[] W fun e w' => e = .returned (.bool true) ∧ Below W.heap.size W w') := fun W hb => wakes_any W (hG.below hb hG.big)
  have hne : (er != 0) = true := by simpa using he
  have hl : ¬ (60 : Int) < (xs.length : Int) := by omega
  clear hG hcy hof hn
  rcases hef with rfl | ⟨rfl, rfl⟩
  · have hee : (er == er) = true := by simp
    unfold Tab.val at *
    go_enter Tryd.func4, Tryd.ntmps4
    go_wp2_with (first
      | (go_at_call 11; refine Calls.mono (HCy.out _ (by go_grown)) ?_; rintro e w1 ⟨rfl, b1⟩; have HT : Hid (TabAt w1 w.heap.size t ∧ Below w.heap.size w w1) := tabNx ⟨Tb.tabAt_new w t 25, by go_grown⟩ b1; clear b1 HCy; have k2 := HT.out.1; have qu0 := k2.cu 0 (by decide); have qu1 := k2.cu 1 (by decide); have qu2 := k2.cu 2 (by decide); have qu3 := k2.cu 3 (by decide); have ql0 := k2.cl 0 (by decide); have ql1 := k2.cl 1 (by decide); have ql2 := k2.cl 2 (by decide); have ql3 := k2.cl 3 (by decide); have qb0 := k2.cb 0 (by decide); have qb1 := k2.cb 1 (by decide); have qb2 := k2.cb 2 (by decide); have qb3 := k2.cb 3 (by decide); have qd := k2.cd; have qz := k2.lt; clear k2)
      | (go_at_call 12; refine Calls.mono (HOf.out _ HT.out.2) ?_; rintro e w2 ⟨a2, m2, c2, rfl, b2⟩; have HT2 : Hid (Below w.heap.size w w2) := (tabNx HT.out b2).2; clear b2 HOf HT qu0 qu1 qu2 qu3 ql0 ql1 ql2 ql3 qb0 qb1 qb2 qb3 qd qz)
      | (go_at_call 7; refine Calls.mono (HW.out _ HT2.out) ?_; rintro e w3 ⟨rfl, b3⟩; have HT3 : Hid (Below w.heap.size w w3) := HT2.out.trans (b3.mono HT2.out.size); clear b3 HW HT2))
    go_ret
    exact ⟨rfl, HT3.out⟩
  · unfold Tab.val at *
    go_enter Tryd.func4, Tryd.ntmps4
    go_wp2_with (first
      | (go_at_call 11; refine Calls.mono (HCy.out _ (by go_grown)) ?_; rintro e w1 ⟨rfl, b1⟩; have HT : Hid (TabAt w1 w.heap.size t ∧ Below w.heap.size w w1) := tabNx ⟨Tb.tabAt_new w t 25, by go_grown⟩ b1; clear b1 HCy; have k2 := HT.out.1; have qu0 := k2.cu 0 (by decide); have qu1 := k2.cu 1 (by decide); have qu2 := k2.cu 2 (by decide); have qu3 := k2.cu 3 (by decide); have ql0 := k2.cl 0 (by decide); have ql1 := k2.cl 1 (by decide); have ql2 := k2.cl 2 (by decide); have ql3 := k2.cl 3 (by decide); have qb0 := k2.cb 0 (by decide); have qb1 := k2.cb 1 (by decide); have qb2 := k2.cb 2 (by decide); have qb3 := k2.cb 3 (by decide); have qd := k2.cd; have qz := k2.lt; clear k2)
      | (go_at_call 12; refine Calls.mono (HOf.out _ HT.out.2) ?_; rintro e w2 ⟨a2, m2, c2, rfl, b2⟩; have HT2 : Hid (Below w.heap.size w w2) := (tabNx HT.out b2).2; clear b2 HOf HT qu0 qu1 qu2 qu3 ql0 ql1 ql2 ql3 qb0 qb1 qb2 qb3 qd qz)
      | (go_at_call 7; refine Calls.mono (HW.out _ HT2.out) ?_; rintro e w3 ⟨rfl, b3⟩; have HT3 : Hid (Below w.heap.size w w3) := HT2.out.trans (b3.mono HT2.out.size); clear b3 HW HT2))
    go_ret
    exact ⟨rfl, HT3.out⟩
set_option maxHeartbeats 16000000 in
theorem early_ok (ao : Option Addr) (cap : Nat) (xs : List O) (t : Tab) (w : World) (h : OpsAt w ao xs) (hcap : xs.length ≤ cap) (hG : Bnds w) (hn : xs.length ≤ 60) (he : lisE t xs = 0) (hu : hvU t xs = true) :
    Calls Tryd.prog 4 #[.slice ao xs.length cap, t.val] w fun e w' => e = .returned (.bool true) ∧ Below w.heap.size w w' := by
  obtain ⟨c1, -, -, c4w⟩ := cyL_is h.ok he hu
  obtain ⟨ht, -, hok⟩ := lis_all he
  obtain ⟨hEO, hEl, -⟩ := lis_parts h.ok he
  have HCy : Hid (∀ W, Below w.heap.size w W → Calls Tryd.prog 11 #[.slice ao xs.length cap, .agg #[.int .i64 (t.u 0), .int .i64 (t.u 1), .int .i64 (t.u 2), .int .i64 (t.u 3), .int .i64 (t.l 0), .int .i64 (t.l 1), .int .i64 (t.l 2), .int .i64 (t.l 3), .int .i64 (t.b 0), .int .i64 (t.b 1), .int .i64 (t.b 2), .int .i64 (t.b 3), .int .i64 t.d]] W fun e w' => ∃ hb, e = .returned (.tuple #[.slice (some ⟨hb, 0, none⟩) xs.length xs.length, .int .i64 0]) ∧ Ir w' hb xs.length (cyL t xs) ∧ W.heap.size ≤ hb ∧ Below W.heap.size W w') := fun W hb => cycles_ok ao cap xs t W (h.below hb) hcap (hG.below hb hG.big) he hu
  obtain ⟨M, hM⟩ : ∃ M, (ofE t xs).length = M := ⟨_, rfl⟩
  have hMb : (M : Int) ≤ 100000000 := by omega
  have HM : Hid ((ofE t xs).length = M) := hM
  have HOf : Hid (∀ W, Below w.heap.size w W → Calls Tryd.prog 12 #[.slice ao xs.length cap, .agg #[.int .i64 (t.u 0), .int .i64 (t.u 1), .int .i64 (t.u 2), .int .i64 (t.u 3), .int .i64 (t.l 0), .int .i64 (t.l 1), .int .i64 (t.l 2), .int .i64 (t.l 3), .int .i64 (t.b 0), .int .i64 (t.b 1), .int .i64 (t.b 2), .int .i64 (t.b 3), .int .i64 t.d]] W fun e w' => ∃ a c, e = .returned (.tuple #[.slice a M c, .int .i64 0]) ∧ EOwn W.heap.size w' a c (ofE t xs) ∧ Below W.heap.size W w') := fun W hb => by
    have := of_any ao cap xs t W (h.below hb) hcap (hG.below hb hG.big)
    unfold erE at this
    rw [if_pos he, he] at this
    rw [← hM]
    exact this
  have HW : Hid (∀ W, Below w.heap.size w W → Calls Tryd.prog 7 #[] W fun e w' => e = .returned (.bool true) ∧ Below W.heap.size W w') := fun W hb => wakes_any W (hG.below hb hG.big)
  have HBz0 : Hid (∀ Z hb ea ec (cl : Nat) (y : Int), cl < 4 → 0 ≤ y → y ≤ 200000 → Lo w Z t hb xs.length (cyL t xs) ea ec (ofE t xs) → Calls Tryd.prog 14 #[.slice ao xs.length cap, .agg #[.int .i64 (t.u 0), .int .i64 (t.u 1), .int .i64 (t.u 2), .int .i64 (t.u 3), .int .i64 (t.l 0), .int .i64 (t.l 1), .int .i64 (t.l 2), .int .i64 (t.l 3), .int .i64 (t.b 0), .int .i64 (t.b 1), .int .i64 (t.b 2), .int .i64 (t.b 3), .int .i64 t.d], .slice (some ⟨hb, 0, none⟩) xs.length xs.length, .int .i64 (cl : Int), .int .i64 y] Z fun e w' => e = .returned (.int .i64 (busy (sysL t xs (ofE t xs)) (cyL t xs) cl y : Int)) ∧ Below Z.heap.size Z w') := fun Z hb ea ec cl y q1 q2 q3 hL => busyL_any ao cap xs t (ofE t xs) (some ⟨hb, 0, none⟩) xs.length (cyL t xs) cl y Z (h.below hL.up) hok (by omega) ht (cy_nl h.ok he hu hL.ir) (fun i hi => by have := c1 i hi; omega) q1 q2 q3
  have HCls : Hid (∀ (i : Nat) (hi : i < xs.length) W, Calls Tryd.prog 13 #[.int .i8 xs[i].op] W fun e w' => e = .returned (.tuple #[.int .i64 (clN xs i : Int), .bool true]) ∧ Below W.heap.size W w') := fun i hi W => by
    have hol := hok _ (List.getElem_mem hi)
    have ho := h.ok _ (List.getElem_mem hi)
    obtain ⟨hv1, hv2⟩ := clV_D hol
    have h1 := class_any xs[i].op W ho.op0 ho.op1
    rw [hv1, hv2] at h1
    rw [clN_at hi]
    exact h1
  have HC1 : Hid (∀ i, i < xs.length → 0 ≤ cyL t xs i ∧ cyL t xs i ≤ 480 ∧ cyL t xs i ≤ 8 * (xs.length : Int)) := fun i hi => by have := c1 i hi; omega
  have HBk : Hid (∀ k, k < 4 → 1 ≤ t.b k ∧ t.b k ≤ 4) := fun k hk => Tb.inB_iff ((Tb.ok_parts ht).2 k hk).2.2
  have HWhy : Hid (∀ i, i < xs.length → ∀ y : Nat, (y : Int) < cyL t xs i → (whE (cyL t xs) i (y : Int) (ofE t xs) || whU (sysL t xs (ofE t xs)) (cyL t xs) (clN xs i) (t.u (clN xs i)) (y : Int) (t.b (clN xs i)).toNat) = true) := fun i hi y hy => by
    rw [Bool.or_eq_true]
    rcases c4w i hi (y : Int) (by omega) hy with ⟨x, hx, hxt, hxc⟩ | hb
    · left
      obtain ⟨e, hee, rfl⟩ := List.mem_map.1 hx
      refine List.any_eq_true.2 ⟨e, hee, ?_⟩
      have hxt : e.t.toNat = i := hxt
      have hxc : cyL t xs e.f.toNat < 0 ∨ (y : Int) < cyL t xs e.f.toNat + e.l := hxc
      have h0 := hEO.f0 e hee
      have h1 := hEO.ft e hee
      have h2 := hEO.tn e hee
      have h3 := (c1 e.f.toNat (by omega)).1
      simp only [hxt, decide_true, Bool.true_and, decide_eq_true_eq]
      omega
    · right
      have hb : (t.u (clN xs i)).toNat ≤ busy (sysL t xs (ofE t xs)) (cyL t xs) (clN xs i) (y : Int) := hb
      have hbk := HBk.out (clN xs i) (clN_lt xs i)
      have h2 := Tb.inB_iff ((Tb.ok_parts ht).2 (clN xs i) (clN_lt xs i)).1
      refine List.any_eq_true.2 ⟨0, List.mem_range.2 (by omega), ?_⟩
      simp only [Int.natCast_zero, Int.add_zero, decide_eq_true_eq]
      omega
  have HO : Hid (OpsAt w ao xs) := h
  have HEO : Hid (EOk xs.length (ofE t xs)) := hEO
  have hl : ¬ (60 : Int) < (xs.length : Int) := by omega
  have hn' : (xs.length : Int) ≤ 60 := by omega
  have hnn : ((xs.length : Int) != (xs.length : Int)) = false := by simp
  clear h hcap hG hn he hu c1 c4w ht hok hEO hEl hM
  generalize hce : cyL t xs = c at *
  generalize hee : ofE t xs = es at *
  generalize hse : sysL t xs es = s at *
  clear hce hee hse
  obtain ⟨n, hN⟩ : ∃ n, xs.length = n := ⟨_, rfl⟩
  have HN : Hid (xs.length = n) := hN
  rw [hN] at HCy HOf HBz0 hl hn' hnn HC1 HWhy HEO ⊢
  have HN2 : Hid (∀ i, i < n → i < xs.length) := fun i hi => by rw [HN.out]; exact hi
  clear hN
  unfold Tab.val
  go_enter Tryd.func4, Tryd.ntmps4
  go_upto_region 9 with (first
    | (go_at_call 11; refine Calls.mono (HCy.out _ (by go_grown)) ?_; rintro e w1 ⟨hb, rfl, i1, -, b1⟩; have HT : Hid ((TabAt w1 w.heap.size t ∧ Below w.heap.size w w1) ∧ Ir w1 hb n c) := ⟨tabNx ⟨Tb.tabAt_new w t 25, by go_grown⟩ b1, i1⟩; clear b1 i1 HCy; have k2 := HT.out.1.1; have qu0 := k2.cu 0 (by decide); have qu1 := k2.cu 1 (by decide); have qu2 := k2.cu 2 (by decide); have qu3 := k2.cu 3 (by decide); have ql0 := k2.cl 0 (by decide); have ql1 := k2.cl 1 (by decide); have ql2 := k2.cl 2 (by decide); have ql3 := k2.cl 3 (by decide); have qb0 := k2.cb 0 (by decide); have qb1 := k2.cb 1 (by decide); have qb2 := k2.cb 2 (by decide); have qb3 := k2.cb 3 (by decide); have qd := k2.cd; have qz := k2.lt; clear k2)
    | (go_at_call 12; refine Calls.mono (HOf.out _ HT.out.1.2) ?_; rintro e w2 ⟨ea, ec, rfl, o2, b2⟩; have HL2 : Hid (Lo w w2 t hb n c ea ec es) := ⟨(tabNx HT.out.1 b2).1, (tabNx HT.out.1 b2).2, HT.out.2.up b2, rowBase2 o2 HT.out.1.2.size⟩; clear b2 o2 HOf HT qu0 qu1 qu2 qu3 ql0 ql1 ql2 ql3 qb0 qb1 qb2 qb3 qd qz))
  go_wp2_with fail
  go_loopw [9] (fun v wr => ∃ i : Nat, i ≤ n ∧ v = .int .i64 i ∧ Lo w wr t hb n c ea ec es) (fun v _ => n - (intOf v).toNat)
  case atStart => exact ⟨0, by omega, rfl, HL2.out⟩
  case round =>
    rename World => wr
    obtain ⟨i, hi, rfl, hs⟩ := hrel
    have HZ : Hid (Lo w wr t hb n c ea ec es) := hs
    clear hs HL2
    by_cases hin : i < n
    · have i0 : (0 : Int) ≤ (i : Int) := by omega
      have i1 : (i : Int) < (n : Int) := by omega
      have hix := HN2.out i hin
      obtain ⟨b, f, rfl, hz2, hx⟩ := (HO.out.below HZ.out.up).is (by omega)
      obtain ⟨q0, -, -, -, -⟩ := hx i hix
      have HCi : Hid (∀ W, Calls Tryd.prog 13 #[.int .i8 xs[i].op] W fun e w' => e = .returned (.tuple #[.int .i64 (clN xs i : Int), .bool true]) ∧ Below W.heap.size W w') := fun W => HCls.out i hix W
      have HWi : Hid (∀ y : Nat, (y : Int) < c i → (whE c i (y : Int) es || whU s c (clN xs i) (t.u (clN xs i)) (y : Int) (t.b (clN xs i)).toNat) = true) := HWhy.out i hin
      obtain ⟨r1, r2, r3⟩ := HC1.out i hin
      have c4 := clN_lt xs i
      clear hx
      generalize clN xs i = cl at *
      generalize xs[i] = o at *
      obtain ⟨b1, b2⟩ := HBk.out cl c4
      obtain ⟨B, hB⟩ : ∃ B : Nat, t.b cl = B := ⟨(t.b cl).toNat, by omega⟩
      have HB : Hid (t.b cl = (B : Int)) := hB
      have HWi : Hid (∀ y : Nat, (y : Int) < c i → (whE c i (y : Int) es || whU s c cl (t.u cl) (y : Int) B) = true) := by
        have h5 := HWi.out
        rw [hB, Int.toNat_natCast] at h5
        exact h5
      rw [hB] at b1 b2
      clear hB
      have HCe : Hid (∀ Z, Lo w Z t hb n c ea ec es → Z.cell? ⟨hb, i, none⟩ = some (.int .i64 (c i)) ∧ hb < Z.heap.size) := fun Z hZ => ⟨hZ.ir.c i hin, hZ.ir.lt⟩
      generalize hci : c i = ci at *
      go_upto_region 13 with (first
        | (go_at_call 13; refine Calls.mono (HCi.out _) ?_; rintro e wy ⟨rfl, b3⟩; have HZ2 : Hid (Lo w wy t hb n c ea ec es) := HZ.out.next b3; clear b3 HCi HZ q0 hz2))
      obtain ⟨cc, chl⟩ := HCe.out _ HZ2.out
      have n0 : ¬ ci < 0 := by omega
      have n1 : ¬ 8 * (n : Int) < ci := by omega
      go_wp2_with fail
      clear cc chl
      go_loopw [12] (fun v wr => ∃ y : Nat, (y : Int) ≤ ci ∧ v = .int .i64 y ∧ Lo w wr t hb n c ea ec es) (fun v _ => (ci - intOf v).toNat)
      case atStart => exact ⟨0, by omega, rfl, HZ2.out⟩
      case round =>
        rename World => wz
        obtain ⟨y, hy, rfl, hs⟩ := hrel
        have HY : Hid (Lo w wz t hb n c ea ec es) := hs
        clear hs HZ2
        obtain ⟨cc, chl⟩ := HCe.out _ HY.out
        by_cases hyc : (y : Int) < ci
        · have HWy : Hid ((whE c i (y : Int) es || whU s c cl (t.u cl) (y : Int) B) = true) := HWi.out y hyc
          go_wp2_with fail
          clear cc chl
          go_loopw [13, 14] (fun b0 v wr => ∃ k : Nat, k ≤ M ∧ b0 = .bool (whE c i (y : Int) (es.take k)) ∧ v = .int .i64 k ∧ Lo w wr t hb n c ea ec es) (fun _ v _ => M - (intOf v).toNat)
          case atStart => exact ⟨0, by omega, rfl, rfl, HY.out⟩
          case round =>
            rename World => wx
            obtain ⟨k, hk, rfl, rfl, hs⟩ := hrel
            have HX : Hid (Lo w wx t hb n c ea ec es) := hs
            clear hs HY
            by_cases hlt : k < M
            · have k0 : (0 : Int) ≤ (k : Int) := by omega
              have k1 : (k : Int) < (M : Int) := by omega
              have hke : k < es.length := by rw [HM.out]; exact hlt
              obtain ⟨eb, rfl, l1, lb1, f0, f1, f2, f3, f4⟩ := eOwn_at HX.out.eo hke
              have hm := List.getElem_mem hke
              have g1 := HEO.out.f0 _ hm
              have g2 := HEO.out.ft _ hm
              have g3 := HEO.out.tn _ hm
              obtain ⟨g4, g5⟩ := HEO.out.l0 _ hm
              have HNx : Hid (whE c i (y : Int) (es.take (k + 1)) = (whE c i (y : Int) (es.take k) || (decide (es[k].t.toNat = i) && decide ((y : Int) < c es[k].f.toNat + es[k].l)))) := whE_take _ _ _ _ _ hke
              clear hm
              generalize es[k] = x at *
              obtain ⟨xf, xt, xl, xd, xy⟩ := x
              obtain ⟨fi, rfl⟩ : ∃ fi : Nat, xf = fi := ⟨xf.toNat, by have g1 : 0 ≤ xf := g1; omega⟩
              obtain ⟨ti, rfl⟩ : ∃ ti : Nat, xt = ti := ⟨xt.toNat, by have g1 : 0 ≤ (fi : Int) := g1; have g2 : (fi : Int) < xt := g2; omega⟩
              have g2 : (fi : Int) < (ti : Int) := g2
              have g3 : (ti : Int) < (n : Int) := g3
              have g4 : 0 ≤ xl := g4
              have g5 : xl ≤ 8 := g5
              have g6 : (0 : Int) ≤ (fi : Int) := by omega
              have g7 : (fi : Int) < (n : Int) := by omega
              have HNx : Hid (whE c i (y : Int) (es.take (k + 1)) = (whE c i (y : Int) (es.take k) || (decide (ti = i) && decide ((y : Int) < c fi + xl)))) := HNx.out
              obtain ⟨h1, h2, -⟩ := HC1.out fi (by omega)
              clear g1
              have cf := HX.out.ir.c fi (by omega)
              have cz := HX.out.ir.lt
              generalize c fi = vf at *
              generalize whE c i (y : Int) (es.take k) = bw at *
              go_upto_region 22 with fail
              cases bw
              · by_cases hti : ti = i
                · subst hti
                  have d1 : decide ((ti : Int) = (ti : Int)) = true := by simp
                  by_cases hgt : (y : Int) < vf + xl
                  · have hv0 : whE c ti (y : Int) (es.take (k + 1)) = true := by rw [HNx.out]; simp [hgt]
                    have HV : Hid (whE c ti (y : Int) (es.take (k + 1)) = true) := hv0
                    clear hv0
                    go_quiet (fail)
                    go_wp2_with fail
                    go_roundw
                    case rel => exact ⟨k + 1, by omega, by rw [HV.out], by go_num, HX.out.drewN⟩
                    case measure => simp [intOf]; omega
                  · have hv0 : whE c ti (y : Int) (es.take (k + 1)) = false := by rw [HNx.out]; simp [hgt]
                    have HV : Hid (whE c ti (y : Int) (es.take (k + 1)) = false) := hv0
                    clear hv0
                    have d2 : decide ((y : Int) < vf + xl) = false := by simpa using hgt
                    go_quiet (fail)
                    go_wp2_with fail
                    go_roundw
                    case rel => exact ⟨k + 1, by omega, by rw [HV.out], by go_num, HX.out.drewN⟩
                    case measure => simp [intOf]; omega
                · have hv0 : whE c i (y : Int) (es.take (k + 1)) = false := by rw [HNx.out]; simp [hti]
                  have HV : Hid (whE c i (y : Int) (es.take (k + 1)) = false) := hv0
                  clear hv0
                  have hti2 : ((ti : Int) == (i : Int)) = false := by simp; omega
                  have hti3 : decide ((ti : Int) = (i : Int)) = false := by simp; omega
                  go_quiet (fail)
                  go_wp2_with fail
                  go_roundw
                  case rel => exact ⟨k + 1, by omega, by rw [HV.out], by go_num, HX.out.drewN⟩
                  case measure => simp [intOf]; omega
              · have hv0 : whE c i (y : Int) (es.take (k + 1)) = true := by rw [HNx.out]; simp
                have HV : Hid (whE c i (y : Int) (es.take (k + 1)) = true) := hv0
                clear hv0
                go_quiet (fail)
                go_wp2_with fail
                go_roundw
                case rel => exact ⟨k + 1, by omega, by rw [HV.out], by go_num, HX.out.drewN⟩
                case measure => simp [intOf]; omega
            · obtain rfl : k = M := by omega
              have k1 : ¬ (k : Int) < (k : Int) := by omega
              rw [List.take_of_length_le (by rw [HM.out]; omega)]
              go_wp2_with fail
              go_loopw [13, 15] (fun b0 v wr => ∃ j : Nat, j ≤ B ∧ b0 = .bool (whE c i (y : Int) es || whU s c cl (t.u cl) (y : Int) j) ∧ v = .int .i64 j ∧ Lo w wr t hb n c ea ec es) (fun _ v _ => B - (intOf v).toNat)
              case atStart => exact ⟨0, by omega, by simp [whU], rfl, HX.out⟩
              case round =>
                rename World => wv
                obtain ⟨j, hj, rfl, rfl, hs⟩ := hrel
                have HQ4 : Hid (Lo w wv t hb n c ea ec es) := hs
                clear hs HX
                have tbc := HQ4.out.t.cb cl c4
                rw [HB.out] at tbc
                have ttl := HQ4.out.t.lt
                have c0 : (0 : Int) ≤ (cl : Int) := by omega
                have c3 : (cl : Int) < 4 := by omega
                by_cases hjb : j < B
                · have j1 : (j : Int) < (B : Int) := by omega
                  have HBz : Hid (∀ Z, Lo w Z t hb n c ea ec es → Calls Tryd.prog 14 #[.slice (some ⟨b, f, none⟩) n cap, .agg #[.int .i64 (t.u 0), .int .i64 (t.u 1), .int .i64 (t.u 2), .int .i64 (t.u 3), .int .i64 (t.l 0), .int .i64 (t.l 1), .int .i64 (t.l 2), .int .i64 (t.l 3), .int .i64 (t.b 0), .int .i64 (t.b 1), .int .i64 (t.b 2), .int .i64 (t.b 3), .int .i64 t.d], .slice (some ⟨hb, 0, none⟩) n n, .int .i64 (cl : Int), .int .i64 ((y : Int) + (j : Int))] Z fun e w' => e = .returned (.int .i64 (busy s c cl ((y : Int) + (j : Int)) : Int)) ∧ Below Z.heap.size Z w') := fun Z hZ => HBz0.out Z hb ea ec cl _ c4 (by omega) (by omega) hZ
                  have HNx : Hid (whU s c cl (t.u cl) (y : Int) (j + 1) = (whU s c cl (t.u cl) (y : Int) j || decide (t.u cl ≤ (busy s c cl ((y : Int) + (j : Int)) : Int)))) := whU_next _ _ _ _ _ _
                  generalize busy s c cl ((y : Int) + (j : Int)) = bz at *
                  have HFin : Hid (∀ v, (whE c i (y : Int) es || whU s c cl (t.u cl) (y : Int) j) = v → (whE c i (y : Int) es || whU s c cl (t.u cl) (y : Int) (j + 1)) = (v || decide (t.u cl ≤ (bz : Int)))) := fun v e => by rw [HNx.out, ← Bool.or_assoc, e]
                  go_upto_region 26 with fail
                  generalize (whE c i (y : Int) es || whU s c cl (t.u cl) (y : Int) j) = bw at *
                  cases bw
                  · have HV := HFin.out false (by simp)
                    have hwr : IntKind.i64.wrap ((y : Int) + (j : Int)) = (y : Int) + (j : Int) := by rw [IntKind.wrap_i64]; omega
                    have hv0 : (whE c i (y : Int) es || whU s c cl (t.u cl) (y : Int) (j + 1)) = decide (t.u cl ≤ (bz : Int)) := by rw [HV]; simp
                    have HV2 : Hid ((whE c i (y : Int) es || whU s c cl (t.u cl) (y : Int) (j + 1)) = decide (t.u cl ≤ (bz : Int))) := hv0
                    clear hv0
                    clear HV HFin
                    refine wp_region_held_drew (S := fun Z => Lo w Z t hb n c ea ec es) (by kernel_rfl) (HQ4.out.next (drew_up _)) (fun hHeld => ?_)
                    refine wpAnyH_take (i := 0) (v := .bool false) rfl (by kernel_rfl) (by kernel_rfl) (by kernel_rfl) (fun _ _ _ h => h) (Or.inl ⟨by rfl, fun w' hSw => by (go_simp)⟩) hHeld ?_
                    simp only [Act.put, List.setIfInBounds_toArray, List.set_cons_zero, List.set_cons_succ, List.getElem_cons_zero, List.getElem_toArray]
                    refine wpAnyH_take (i := 1) (v := .bool false) rfl (by kernel_rfl) (by kernel_rfl) (by kernel_rfl) (fun _ _ _ h => h) (Or.inl ⟨by rfl, fun w' hSw => by (go_simp)⟩) hHeld ?_
                    simp only [Act.put, List.setIfInBounds_toArray, List.set_cons_zero, List.set_cons_succ, List.getElem_cons_zero, List.getElem_cons_succ, List.getElem_toArray]
                    refine wpAnyH_take (i := 2) (v := .slice (some ⟨b, f, none⟩) n cap) rfl (by kernel_rfl) (by kernel_rfl) (by kernel_rfl) (fun _ _ _ h => h) (Or.inl ⟨by rfl, fun w' hSw => by (go_simp)⟩) hHeld ?_
                    simp only [Act.put, List.setIfInBounds_toArray, List.set_cons_zero, List.set_cons_succ, List.getElem_cons_zero, List.getElem_cons_succ, List.getElem_toArray]
                    refine wpAnyH_take (i := 3) (v := .agg #[.int .i64 (t.u 0), .int .i64 (t.u 1), .int .i64 (t.u 2), .int .i64 (t.u 3), .int .i64 (t.l 0), .int .i64 (t.l 1), .int .i64 (t.l 2), .int .i64 (t.l 3), .int .i64 (t.b 0), .int .i64 (t.b 1), .int .i64 (t.b 2), .int .i64 (t.b 3), .int .i64 t.d]) rfl (by kernel_rfl) (by kernel_rfl) (by kernel_rfl) (fun _ _ _ h => h) (Or.inl ⟨by rfl, fun w' hSw => by (have k2 := hSw.t; have qu0 := k2.cu 0 (by decide); have qu1 := k2.cu 1 (by decide); have qu2 := k2.cu 2 (by decide); have qu3 := k2.cu 3 (by decide); have ql0 := k2.cl 0 (by decide); have ql1 := k2.cl 1 (by decide); have ql2 := k2.cl 2 (by decide); have ql3 := k2.cl 3 (by decide); have qb0 := k2.cb 0 (by decide); have qb1 := k2.cb 1 (by decide); have qb2 := k2.cb 2 (by decide); have qb3 := k2.cb 3 (by decide); have qd := k2.cd; have qz := k2.lt; clear k2; go_simp)⟩) hHeld ?_
                    simp only [Act.put, List.setIfInBounds_toArray, List.set_cons_zero, List.set_cons_succ, List.getElem_cons_zero, List.getElem_cons_succ, List.getElem_toArray]
                    refine wpAnyH_take (i := 4) (v := .slice (some ⟨hb, 0, none⟩) n n) rfl (by kernel_rfl) (by kernel_rfl) (by kernel_rfl) (fun _ _ _ h => h) (Or.inl ⟨by rfl, fun w' hSw => by (go_simp)⟩) hHeld ?_
                    simp only [Act.put, List.setIfInBounds_toArray, List.set_cons_zero, List.set_cons_succ, List.getElem_cons_zero, List.getElem_cons_succ, List.getElem_toArray]
                    refine wpAnyH_take (i := 5) (v := .int .i64 (cl : Int)) rfl (by kernel_rfl) (by kernel_rfl) (by kernel_rfl) (fun _ _ _ h => h) (Or.inl ⟨by rfl, fun w' hSw => by (go_simp)⟩) hHeld ?_
                    simp only [Act.put, List.setIfInBounds_toArray, List.set_cons_zero, List.set_cons_succ, List.getElem_cons_zero, List.getElem_cons_succ, List.getElem_toArray]
                    refine wpAnyH_take (i := 6) (v := .int .i64 (y : Int)) rfl (by kernel_rfl) (by kernel_rfl) (by kernel_rfl) (fun _ _ _ h => h) (Or.inl ⟨by rfl, fun w' hSw => by (go_simp)⟩) hHeld ?_
                    simp only [Act.put, List.setIfInBounds_toArray, List.set_cons_zero, List.set_cons_succ, List.getElem_cons_zero, List.getElem_cons_succ, List.getElem_toArray]
                    refine wpAnyH_take (i := 7) (v := .int .i64 (j : Int)) rfl (by kernel_rfl) (by kernel_rfl) (by kernel_rfl) (fun _ _ _ h => h) (Or.inl ⟨by rfl, fun w' hSw => by (go_simp)⟩) hHeld ?_
                    simp only [Act.put, List.setIfInBounds_toArray, List.set_cons_zero, List.set_cons_succ, List.getElem_cons_zero, List.getElem_cons_succ, List.getElem_toArray]
                    refine wpAnyH_take (i := 8) (v := .int .i64 ((y : Int) + (j : Int))) rfl (by kernel_rfl) (by kernel_rfl) (by kernel_rfl) (fun _ _ _ h => h) (Or.inl ⟨by rfl, fun w' hSw => by (go_simp)⟩) hHeld ?_
                    simp only [Act.put, List.setIfInBounds_toArray, List.set_cons_zero, List.set_cons_succ, List.getElem_cons_zero, List.getElem_cons_succ, List.getElem_toArray]
                    refine wpAnyH_take (i := 10) (v := .int .i64 (cl : Int)) rfl (by kernel_rfl) (by kernel_rfl) (by kernel_rfl) (fun _ _ _ h => h) (Or.inl ⟨by rfl, fun w' hSw => by (go_simp)⟩) hHeld ?_
                    simp only [Act.put, List.setIfInBounds_toArray, List.set_cons_zero, List.set_cons_succ, List.getElem_cons_zero, List.getElem_cons_succ, List.getElem_toArray]
                    refine wpAnyH_take (i := 11) (v := .pointer (some ⟨w.heap.size, 0, none⟩)) rfl (by kernel_rfl) (by kernel_rfl) (by kernel_rfl) (fun _ _ _ h => h) (Or.inl ⟨by rfl, fun w' hSw => by (go_simp)⟩) hHeld ?_
                    simp only [Act.put, List.setIfInBounds_toArray, List.set_cons_zero, List.set_cons_succ, List.getElem_cons_zero, List.getElem_cons_succ, List.getElem_toArray]
                    refine wpAnyH_take (i := 12) (v := .pointer (some ⟨w.heap.size, cl, none⟩)) rfl (by kernel_rfl) (by kernel_rfl) (by kernel_rfl) (fun _ _ _ h => h) (Or.inl ⟨by rfl, fun w' hSw => by (go_simp)⟩) hHeld ?_
                    simp only [Act.put, List.setIfInBounds_toArray, List.set_cons_zero, List.set_cons_succ, List.getElem_cons_zero, List.getElem_cons_succ, List.getElem_toArray]
                    refine wpAnyH_take (i := 13) (v := .int .i64 (t.u cl)) rfl (by kernel_rfl) (by kernel_rfl) (by kernel_rfl) (fun _ _ _ h => h) (Or.inl ⟨by rfl, fun w' hSw => by (have y0 := hSw.t.cu cl c4; have yl := hSw.t.lt; go_simp)⟩) hHeld ?_
                    simp only [Act.put, List.setIfInBounds_toArray, List.set_cons_zero, List.set_cons_succ, List.getElem_cons_zero, List.getElem_cons_succ, List.getElem_toArray]
                    refine wpAnyH_ready (rs := [9]) (by kernel_rfl) (by simp) ?_
                    refine AllReadyH.cons rfl (fun K hK => ?_) AllReadyH.nil
                    go_simp
                    refine Calls.mono (HBz.out _ (HQ4.out.next (drew_up _))) ?_
                    rintro e w3 ⟨rfl, b3⟩
                    have HQ5 : Hid (Lo w w3 t hb n c ea ec es) := (HQ4.out.next (drew_up _)).next b3
                    clear b3 HBz
                    refine hK.out _ _ HQ5.out (fun hHeld => ?_)
                    clear hK K
                    refine wpAnyH_take (i := 14) (v := .bool (decide (t.u cl ≤ (bz : Int)))) rfl (by kernel_rfl) (by kernel_rfl) (by kernel_rfl) (fun _ _ _ h => h) (Or.inl ⟨by rfl, fun w' hSw => by (go_simp)⟩) hHeld ?_
                    simp only [Act.put, List.setIfInBounds_toArray, List.set_cons_zero, List.set_cons_succ, List.getElem_cons_zero, List.getElem_cons_succ, List.getElem_toArray]
                    refine wpAnyH_take (i := 15) (v := .bool (decide (t.u cl ≤ (bz : Int)))) rfl (by kernel_rfl) (by kernel_rfl) (by kernel_rfl) (fun _ _ _ h => h) (Or.inl ⟨by rfl, fun w' hSw => by (go_simp)⟩) hHeld ?_
                    simp only [Act.put, List.setIfInBounds_toArray, List.set_cons_zero, List.set_cons_succ, List.getElem_cons_zero, List.getElem_cons_succ, List.getElem_toArray]
                    refine wpAnyH_take (i := 16) (v := .bool (decide (t.u cl ≤ (bz : Int)))) rfl (by kernel_rfl) (by kernel_rfl) (by kernel_rfl) (fun _ _ _ h => h) (Or.inl ⟨by rfl, fun w' hSw => by (go_simp)⟩) hHeld ?_
                    simp only [Act.put, List.setIfInBounds_toArray, List.set_cons_zero, List.set_cons_succ, List.getElem_cons_zero, List.getElem_cons_succ, List.getElem_toArray]
                    refine wpAnyH_done (by kernel_rfl) ?_ _
                    clear hHeld
                    go_wp2_with fail
                    go_roundw
                    case rel => exact ⟨j + 1, by omega, by rw [HV2.out], by go_num, HQ5.out⟩
                    case measure => simp [intOf]; omega
                  · have hv0 : (whE c i (y : Int) es || whU s c cl (t.u cl) (y : Int) (j + 1)) = true := by rw [HFin.out true (by simp)]; simp
                    have HV2 : Hid ((whE c i (y : Int) es || whU s c cl (t.u cl) (y : Int) (j + 1)) = true) := hv0
                    clear hv0
                    clear HBz HFin
                    go_quiet (fail)
                    go_wp2_with fail
                    go_roundw
                    case rel => exact ⟨j + 1, by omega, by rw [HV2.out], by go_num, HQ4.out.drewN⟩
                    case measure => simp [intOf]; omega
                · obtain rfl : j = B := by omega
                  have j1 : ¬ (j : Int) < (j : Int) := by omega
                  rw [HWy.out]
                  go_wp2_with fail
                  go_roundw
                  case rel => exact ⟨y + 1, by omega, by go_num, HQ4.out⟩
                  case measure => simp [intOf]; omega
        · go_wp2_with fail
          go_roundw
          case rel => exact ⟨i + 1, by omega, by go_num, HY.out⟩
          case measure => simp [intOf]; omega
    · obtain rfl : i = n := by omega
      have i1 : ¬ (i : Int) < (i : Int) := by omega
      go_wp2_with (first
        | (go_at_call 7; refine Calls.mono (HW.out _ HZ.out.up) ?_; rintro e w9 ⟨rfl, b9⟩; have HB9 : Hid (Below w.heap.size w w9) := HZ.out.up.trans (b9.mono HZ.out.up.size); clear b9 HW))
      go_ret
      exact ⟨rfl, HB9.out⟩
theorem law_early (ao : Option Addr) (cap : Nat) (xs : List O) (t : Tab) (w : World) (h : OpsAt w ao xs) (hcap : xs.length ≤ cap) (hG : Bnds w) :
    Calls Tryd.prog 4 #[.slice ao xs.length cap, t.val] w fun e w' => e = .returned (.bool true) ∧ Below w.heap.size w w' := by
  by_cases h1 : 60 < xs.length
  · have HW : Hid (∀ W, Below w.heap.size w W → Calls Tryd.prog 7 #[] W fun e w' => e = .returned (.bool true) ∧ Below W.heap.size W w') := fun W hb => wakes_any W (hG.below hb hG.big)
    have i1 : (60 : Int) < (xs.length : Int) := by omega
    have hl := h.len
    have hl' : (xs.length : Int) ≤ 8796093022208 := by omega
    clear h hG h1 hl hcap
    unfold Tab.val
    go_enter Tryd.func4, Tryd.ntmps4
    go_wp2_with (first | (go_at_call 7; refine Calls.mono (HW.out _ (by go_grown)) ?_; rintro e w3 ⟨rfl, hb⟩; have HB3 : Hid (Below w.heap.size w w3) := Below.trans (by go_grown) (hb.mono (by simp)); clear hb HW))
    go_ret
    exact ⟨rfl, HB3.out⟩
  · have hof : ∀ W, Below w.heap.size w W → Calls Tryd.prog 12 #[.slice ao xs.length cap, t.val] W fun e w' => ∃ a m c, e = .returned (.tuple #[.slice a m c, .int .i64 (lisE t xs)]) ∧ Below W.heap.size W w' := fun W hb => (of_any ao cap xs t W (h.below hb) hcap (hG.below hb hG.big)).mono fun e w' ⟨a, c, h1, _, h3⟩ => ⟨a, _, c, h1, h3⟩
    by_cases he : lisE t xs = 0
    · cases hu : hvU t xs
      · rw [he] at hof
        exact early_bad ao cap xs t w hG (by omega) 21 0 (by decide) (.inr ⟨rfl, rfl⟩) (fun W hb => cycles_unit ao cap xs t W (h.below hb) hcap (hG.below hb hG.big) he hu) hof
      · exact early_ok ao cap xs t w h hcap hG (by omega) he hu
    · exact early_bad ao cap xs t w hG (by omega) (lisE t xs) (lisE t xs) he (.inl rfl) (fun W hb => cycles_no ao cap xs t W (h.below hb) hcap (hG.below hb hG.big) he) hof
end Go.Proofs.YtnckkhamkkaljaaDoor.Ls
