/- The statement HeightTells, whole: how long the way from each operation to the end is, and which operation comes first, as the document says, whatever the list and the table; the listed variables are tied to the program text. Conditions: none. -/
import Derived.Test.YtccakjijoadjkaaDoorDe
import Derived.Test.YtccakjijoadjkaaDoorEl
import Derived.Test.YtccakjijoadjkaaDoorPm
import Derived.Test.YtccakjijoadjkaaDoorKd
import Derived.Deep.AppendLies
import Derived.OwnWalk
import Derived.Deep.QuietTactic
import Derived.BigQuiet
import Derived.Test.YtccakjijoadjkaaDoorHo
import Derived.Deep.RegionHeld3
import Derived.Test.YtccakjijoadjkaaDoorHn
import Derived.Test.YtccakjijoadjkaaDoorTk
import Derived.Test.YtccakjijoadjkaaDoorPc
import Derived.Test.YtccakjijoadjkaaDoorTie
import Derived.Test.YtccakjijoadjkaaDoorCards
import Derived.ProofKit
import Derived.HandedShaped
import Derived.Shelf.Vars
import Derived.Lib.LaidU8
import Derived.Lay
import Derived.LaidHandle
import Derived.LaidLaws
import Derived.Stop.Joined
import Derived.RowKitTokens
import Derived.SevenTiedAt
import Derived.Carry
import Derived.ChangeMaps5
import Derived.Deep.Slices
import Derived.Lib.SmallJoins
import Derived.SizedLaws
import Derived.ChangeOld
import Derived.OpenShut
namespace Go.Proofs.YtccakjijoadjkaaDoor.Dp
open Go.ChangeShapes Go.WideShapes Go.ChangeAt Go.RowKit
open _root_.Go.Proofs.YtccakjijoadjkaaDoor.Op _root_.Go.Proofs.YtccakjijoadjkaaDoor.So
open _root_.Go.Proofs.YtccakjijoadjkaaDoor.Al
open _root_.Go.Proofs.YtccakjijoadjkaaDoor.Tb (Tab TabAt Bnds)
set_option maxRecDepth 20000

set_option maxHeartbeats 16000000 in
theorem refLoop_any (ao : Option Addr) (cap : Nat) (xs : List O) (t : Tab) (w : World) (h : OpsAt w ao xs) (hq : lisE t xs = 0 → xs.length ≤ 200) :
    Calls Tryd.prog 12 #[.slice ao xs.length cap, t.val] w (EdOut w (lisE t xs) (erE t xs (ofD t xs xs.length ++ roundD t xs xs.length))) := by
  have HR : Hid (∀ W, Below w.heap.size w W → Calls Tryd.prog 10 #[.slice ao xs.length cap, t.val] W fun e w' => EdOut W (lisE t xs) (erE t xs (ofD t xs xs.length)) e w') := fun W g => refOf_any ao cap xs t W (h.below g) hq
  unfold EdOut at HR
  have HS0 : Hid (∀ w1, Below (w.alloc (.cells t.cells 25)).heap.size (w.alloc (.cells t.cells 25)) w1 → St w w1 t none 0 []) := fun w1 g => (⟨Tb.tabAt_new w t 25, World.ownsRow_nil _ _ _ _, by go_grown⟩ : St w (w.alloc (.cells t.cells 25)) t none 0 []).next g
  unfold erE at *
  by_cases he : lisE t xs = 0
  · rw [if_pos he]
    rw [if_pos he] at HR
    obtain ⟨ht, hn, hok⟩ := lis_all he
    have hA : Lall xs := fun o ho => ⟨h.ok o ho, hok o ho⟩
    have hn2 := hq he
    rw [he] at HR ⊢
    have HF : Hid (∀ (i j : Nat) (hj : j < xs.length) W, Below w.heap.size w W → Calls Tryd.prog 33 #[.slice ao xs.length cap, .int .i64 i, .int .i64 j, .bool true] W fun e w' => e = .returned (.bool (flB xs xs[j] i j true)) ∧ Below W.heap.size W w') := fun i j hj W g => flows_any ao cap xs i j true W (h.below g) hj (hok _ (List.getElem_mem hj))
    have HL : Hid (∀ (o : O) W, Calls Tryd.prog 34 #[o.val, t.val] W fun e w' => e = .returned (.int .i64 (latO t o)) ∧ Below W.heap.size W w') := fun o W => lat_any o t W
    have HM : Hid (∀ (i j : Nat) W, Below w.heap.size w W → Calls Tryd.prog 38 #[.slice ao xs.length cap, .int .i64 (i : Int), .int .i64 (j : Int)] W fun e w' => e = .returned (.bool (roundB xs i j)) ∧ Below W.heap.size W w') := fun i j W g => refRound_any ao cap xs i j W (h.below g)
    have HP : Hid (∀ (i j : Nat) (hi : i < xs.length) (hj : j < xs.length) (m : Bool) W, Below w.heap.size w W → Calls Tryd.prog 35 #[.slice ao xs.length cap, t.val, .int .i64 i, .int .i64 j, .int .i64 1, .bool m] W fun e w' => ∃ a c, e = .returned (.slice a (pairD t xs[i] xs[j] i j 1 m).length c) ∧ EOwn W.heap.size w' a c (pairD t xs[i] xs[j] i j 1 m) ∧ Below W.heap.size W w') := fun i j hi hj m W g => pairD_any ao cap xs t i j 1 m W (h.below g) hA ht hi hj
    have HC : Hid (∀ (i : Nat) (hi : i < xs.length), ∃ b f, ao = some ⟨b, f, none⟩ ∧ ∀ W, Below w.heap.size w W → b < W.heap.size ∧ W.cell? ⟨b, f + i * 5, none⟩ = some (.int .i8 xs[i].op) ∧ W.cell? ⟨b, f + i * 5 + 1, none⟩ = some (.int .u8 xs[i].d) ∧ W.cell? ⟨b, f + i * 5 + 2, none⟩ = some (.int .u8 xs[i].a) ∧ W.cell? ⟨b, f + i * 5 + 3, none⟩ = some (.int .u8 xs[i].b) ∧ W.cell? ⟨b, f + i * 5 + 4, none⟩ = some (.int .i64 xs[i].im)) := fun i hi => by
      obtain ⟨b, f, rfl, -, -⟩ := h.is (by omega)
      refine ⟨b, f, rfl, fun W g => ?_⟩
      obtain ⟨b', f', e, hz', hx'⟩ := (h.below g).is (by omega)
      cases e
      obtain ⟨a0, a1, a2, a3, a4⟩ := hx' i hi
      exact ⟨hz', a0, a1, a2, a3, a4⟩
    have hn3 : (xs.length : Int) ≤ 200 := by omega
    clear h hq hok hA ht hn he
    unfold Tab.val at *
    go_enter Tryd.func12, Tryd.ntmps12
    go_wp2_with (first | (go_at_call 10; refine Calls.mono (HR.out _ (by go_grown)) ?_; rintro e w1 ⟨a0, c0, rfl, o1, b1⟩; have HSt : Hid (St w w1 t a0 c0 (ofD t xs xs.length)) := ⟨(HS0.out w1 b1).t, (by have := o1; simpa using this), (HS0.out w1 b1).up⟩; clear b1 o1 HR HS0))
    go_loopw [6, 8] (fun l v wr => ∃ (j : Nat) (a : Option Addr) (c : Nat), j ≤ xs.length ∧ l = .slice a ((ofD t xs xs.length ++ roundD t xs j)).length c ∧ v = .int .i64 j ∧ St w wr t a c ((ofD t xs xs.length ++ roundD t xs j))) (fun _ v _ => xs.length - (intOf v).toNat)
    case atStart => exact ⟨0, a0, c0, by omega, by simp [roundD, cat], rfl, by simpa [roundD, cat] using HSt.out⟩
    case round =>
      rename World => wr
      obtain ⟨j, a4, c4, hj, rfl, rfl, hs⟩ := hrel
      have HS : Hid (St w wr t a4 c4 ((ofD t xs xs.length ++ roundD t xs j))) := hs
      clear hs HSt
      by_cases hlt : j < xs.length
      · have j0 : (0 : Int) ≤ (j : Int) := by omega
        have j1 : (j : Int) < (xs.length : Int) := by omega
        go_wp2_with fail
        go_loopw [6, 9] (fun l v wz => ∃ (i : Nat) (a : Option Addr) (c : Nat), i ≤ xs.length ∧ l = .slice a ((ofD t xs xs.length ++ roundD t xs j) ++ rowR t xs j i).length c ∧ v = .int .i64 i ∧ St w wz t a c ((ofD t xs xs.length ++ roundD t xs j) ++ rowR t xs j i)) (fun _ v _ => xs.length - (intOf v).toNat)
        case atStart => exact ⟨0, a4, c4, by omega, by simp [rowR, cat], rfl, by simpa [rowR, cat] using HS.out⟩
        case round =>
          rename World => wz
          obtain ⟨i, a1, c1, hi, rfl, rfl, hs⟩ := hrel
          have HS1 : Hid (St w wz t a1 c1 ((ofD t xs xs.length ++ roundD t xs j) ++ rowR t xs j i)) := hs
          clear hs HS
          by_cases hlt2 : i < xs.length
          · have i0 : (0 : Int) ≤ (i : Int) := by omega
            have i1 : (i : Int) < (xs.length : Int) := by omega
            have hix : i < xs.length := by omega
            have i2 : (i : Int) < (xs.length : Int) := by omega
            have HNx : Hid (rowR t xs j (i + 1) = rowR t xs j i ++ oneD t xs xs[i] xs[j] i j 1 true (roundB xs i j)) := by
              show rowR t xs j i ++ oneD t xs (atL xs i) (atL xs j) i j 1 true (roundB xs i j) = _
              rw [atL_at hix, atL_at hlt]
            have HEl : ((ofD t xs xs.length ++ roundD t xs j) ++ rowR t xs j i).length ≤ 400000 := roRow_len t xs hn2 (by omega) (by omega)
            obtain ⟨es1, hes⟩ : ∃ es1, (ofD t xs xs.length ++ roundD t xs j) ++ rowR t xs j i = es1 := ⟨_, rfl⟩
            have HES : Hid ((ofD t xs xs.length ++ roundD t xs j) ++ rowR t xs j i = es1) := hes
            rw [hes] at HS1 HEl ⊢
            clear hes
            have HFx : Hid (∀ W, Below w.heap.size w W → Calls Tryd.prog 33 #[.slice ao xs.length cap, .int .i64 i, .int .i64 j, .bool true] W fun e w' => e = .returned (.bool (flB xs xs[j] i j true)) ∧ Below W.heap.size W w') := fun W g => HF.out i j hlt W g
            have HLx : Hid (∀ W, Calls Tryd.prog 34 #[xs[i].val, .agg #[.int .i64 (t.u 0), .int .i64 (t.u 1), .int .i64 (t.u 2), .int .i64 (t.u 3), .int .i64 (t.l 0), .int .i64 (t.l 1), .int .i64 (t.l 2), .int .i64 (t.l 3), .int .i64 (t.b 0), .int .i64 (t.b 1), .int .i64 (t.b 2), .int .i64 (t.b 3), .int .i64 t.d]] W fun e w' => e = .returned (.int .i64 (latO t xs[i])) ∧ Below W.heap.size W w') := fun W => HL.out xs[i] W
            have HMx : Hid (∀ W, Below w.heap.size w W → Calls Tryd.prog 38 #[.slice ao xs.length cap, .int .i64 (i : Int), .int .i64 (j : Int)] W fun e w' => e = .returned (.bool (roundB xs i j)) ∧ Below W.heap.size W w') := fun W g => HM.out i j W g
            have HPx : Hid (∀ W, Below w.heap.size w W → Calls Tryd.prog 35 #[.slice ao xs.length cap, .agg #[.int .i64 (t.u 0), .int .i64 (t.u 1), .int .i64 (t.u 2), .int .i64 (t.u 3), .int .i64 (t.l 0), .int .i64 (t.l 1), .int .i64 (t.l 2), .int .i64 (t.l 3), .int .i64 (t.b 0), .int .i64 (t.b 1), .int .i64 (t.b 2), .int .i64 (t.b 3), .int .i64 t.d], .int .i64 i, .int .i64 j, .int .i64 1, .bool (roundB xs i j)] W fun e w' => ∃ a c, e = .returned (.slice a (pairD t xs[i] xs[j] i j 1 (roundB xs i j)).length c) ∧ EOwn W.heap.size w' a c (pairD t xs[i] xs[j] i j 1 (roundB xs i j)) ∧ Below W.heap.size W w') := fun W g => HP.out i j hix hlt (roundB xs i j) W g
            obtain ⟨b, f, rfl, hoc⟩ := HC.out i hix
            have HOc : Hid _ := hoc
            have hpl : (pairD t xs[i] xs[j] i j 1 (roundB xs i j)).length ≤ 4 := pairD_len _ _ _ _ _ _ _
            have HOne : Hid (oneD t xs xs[i] xs[j] i j 1 true (roundB xs i j) = (if flB xs xs[j] i j true = true then [⟨i, j, latO t xs[i], 1, 0⟩] else []) ++ pairD t xs[i] xs[j] i j 1 (roundB xs i j)) := rfl
            clear hoc HF HL HM HP HC
            obtain ⟨ps, hps⟩ : ∃ ps, pairD t xs[i] xs[j] i j 1 (roundB xs i j) = ps := ⟨_, rfl⟩
            rw [hps] at HPx hpl HOne
            clear hps
            obtain ⟨os, hos⟩ : ∃ os, oneD t xs xs[i] xs[j] i j 1 true (roundB xs i j) = os := ⟨_, rfl⟩
            rw [hos] at HNx HOne
            clear hos
            generalize latO t xs[i] = la at *
            generalize roundB xs i j = mb at *
            generalize flB xs xs[j] i j true = fb at *
            generalize xs[i] = x at *
            go_upto_if 34 with (first | (go_at_call 33; refine Calls.mono (HFx.out _ HS1.out.up) ?_; rintro e w2 ⟨rfl, b2⟩; have HS2 : Hid (St w w2 t a1 c1 es1) := HS1.out.next b2; clear b2 HFx HS1))
            obtain ⟨L1, hL1⟩ : ∃ L1, (if fb = true then [(⟨i, j, la, 1, 0⟩ : Ed)] else []) = L1 := ⟨_, rfl⟩
            rw [hL1] at HOne
            have HL1 : Hid _ := hL1
            have hl1 : L1.length ≤ 1 := by rw [← hL1]; split <;> simp
            clear hL1
            go_cut [6] (fun v wc => ∃ a c, v = .slice a (es1 ++ L1).length c ∧ St w wc t a c (es1 ++ L1))
            case first =>
              cases fb
              · have hL1 : [] = L1 := HL1.out
                subst hL1
                go_wp2_with fail
                go_meet
                case rel => exact ⟨a1, c1, by simp, by rw [List.append_nil]; exact HS2.out⟩
              · have hL1 : [(⟨i, j, la, 1, 0⟩ : Ed)] = L1 := HL1.out
                subst hL1
                have HS1 : Hid (St w w2 t a1 c1 es1) := HS2.out
                go_upto_region 11 with fail
                refine wp_region_held_drew (S := fun W => TabAt W w.heap.size t ∧ Below w.heap.size w W) (by kernel_rfl) ⟨(HS1.out.next (drew_up _)).t, (HS1.out.next (drew_up _)).up⟩ (fun hHeld => ?_)
                refine wpAnyH_take (i := 0) (v := .slice a1 es1.length c1) rfl (by kernel_rfl) (by kernel_rfl) (by kernel_rfl) (fun _ _ _ h => h) (Or.inl ⟨by rfl, fun w' hSw => by (go_simp)⟩) hHeld ?_
                simp only [Act.put, List.setIfInBounds_toArray, List.set_cons_zero, List.set_cons_succ, List.getElem_cons_zero, List.getElem_toArray]
                refine wpAnyH_take (i := 1) (v := .int .i64 (i : Int)) rfl (by kernel_rfl) (by kernel_rfl) (by kernel_rfl) (fun _ _ _ h => h) (Or.inl ⟨by rfl, fun w' hSw => by (go_simp)⟩) hHeld ?_
                simp only [Act.put, List.setIfInBounds_toArray, List.set_cons_zero, List.set_cons_succ, List.getElem_cons_zero, List.getElem_cons_succ, List.getElem_toArray]
                refine wpAnyH_take (i := 2) (v := .int .i64 (j : Int)) rfl (by kernel_rfl) (by kernel_rfl) (by kernel_rfl) (fun _ _ _ h => h) (Or.inl ⟨by rfl, fun w' hSw => by (go_simp)⟩) hHeld ?_
                simp only [Act.put, List.setIfInBounds_toArray, List.set_cons_zero, List.set_cons_succ, List.getElem_cons_zero, List.getElem_cons_succ, List.getElem_toArray]
                refine wpAnyH_take (i := 3) (v := .slice (some ⟨b, f, none⟩) xs.length cap) rfl (by kernel_rfl) (by kernel_rfl) (by kernel_rfl) (fun _ _ _ h => h) (Or.inl ⟨by rfl, fun w' hSw => by (go_simp)⟩) hHeld ?_
                simp only [Act.put, List.setIfInBounds_toArray, List.set_cons_zero, List.set_cons_succ, List.getElem_cons_zero, List.getElem_cons_succ, List.getElem_toArray]
                refine wpAnyH_take (i := 4) (v := .int .i64 (i : Int)) rfl (by kernel_rfl) (by kernel_rfl) (by kernel_rfl) (fun _ _ _ h => h) (Or.inl ⟨by rfl, fun w' hSw => by (go_simp)⟩) hHeld ?_
                simp only [Act.put, List.setIfInBounds_toArray, List.set_cons_zero, List.set_cons_succ, List.getElem_cons_zero, List.getElem_cons_succ, List.getElem_toArray]
                refine wpAnyH_take (i := 5) (v := .pointer (some ⟨b, f + i * 5, none⟩)) rfl (by kernel_rfl) (by kernel_rfl) (by kernel_rfl) (fun _ _ _ h => h) (Or.inl ⟨by rfl, fun w' hSw => by (go_simp)⟩) hHeld ?_
                simp only [Act.put, List.setIfInBounds_toArray, List.set_cons_zero, List.set_cons_succ, List.getElem_cons_zero, List.getElem_cons_succ, List.getElem_toArray]
                refine wpAnyH_take (i := 6) (v := .agg #[.int .i8 x.op, .int .u8 x.d, .int .u8 x.a, .int .u8 x.b, .int .i64 x.im]) rfl (by kernel_rfl) (by kernel_rfl) (by kernel_rfl) (fun _ _ _ h => h) (Or.inl ⟨by rfl, fun w' hSw => by (obtain ⟨xl, x0, x1, x2, x3, x4⟩ := HOc.out _ hSw.2; go_simp)⟩) hHeld ?_
                simp only [Act.put, List.setIfInBounds_toArray, List.set_cons_zero, List.set_cons_succ, List.getElem_cons_zero, List.getElem_cons_succ, List.getElem_toArray]
                refine wpAnyH_take (i := 7) (v := .agg #[.int .i64 (t.u 0), .int .i64 (t.u 1), .int .i64 (t.u 2), .int .i64 (t.u 3), .int .i64 (t.l 0), .int .i64 (t.l 1), .int .i64 (t.l 2), .int .i64 (t.l 3), .int .i64 (t.b 0), .int .i64 (t.b 1), .int .i64 (t.b 2), .int .i64 (t.b 3), .int .i64 t.d]) rfl (by kernel_rfl) (by kernel_rfl) (by kernel_rfl) (fun _ _ _ h => h) (Or.inl ⟨by rfl, fun w' hSw => by (have k2 := hSw.1; have qu0 := k2.cu 0 (by decide); have qu1 := k2.cu 1 (by decide); have qu2 := k2.cu 2 (by decide); have qu3 := k2.cu 3 (by decide); have ql0 := k2.cl 0 (by decide); have ql1 := k2.cl 1 (by decide); have ql2 := k2.cl 2 (by decide); have ql3 := k2.cl 3 (by decide); have qb0 := k2.cb 0 (by decide); have qb1 := k2.cb 1 (by decide); have qb2 := k2.cb 2 (by decide); have qb3 := k2.cb 3 (by decide); have qd := k2.cd; have qz := k2.lt; clear k2; go_simp)⟩) hHeld ?_
                simp only [Act.put, List.setIfInBounds_toArray, List.set_cons_zero, List.set_cons_succ, List.getElem_cons_zero, List.getElem_cons_succ, List.getElem_toArray]
                refine wpAnyH_ready (rs := [8]) (by kernel_rfl) (by simp) ?_
                refine AllReadyH.cons rfl (fun K hK => ?_) AllReadyH.nil
                go_simp
                refine Calls.mono (HLx.out _) ?_
                rintro e w5 ⟨rfl, b5⟩
                have HS5 : Hid (St w w5 t a1 c1 es1) := (HS1.out.next (drew_up _)).next b5
                clear b5
                refine hK.out _ _ ⟨HS5.out.t, HS5.out.up⟩ (fun hHeld => ?_)
                clear hK K
                refine wpAnyH_take (i := 9) (v := .agg #[.int .i64 (i : Int), .int .i64 (j : Int), .int .i64 la, .int .i64 1, .int .i8 0]) rfl (by kernel_rfl) (by kernel_rfl) (by kernel_rfl) (fun _ _ _ h => h) (Or.inl ⟨by rfl, fun w' hSw => by (go_simp)⟩) hHeld ?_
                simp only [Act.put, List.setIfInBounds_toArray, List.set_cons_zero, List.set_cons_succ, List.getElem_cons_zero, List.getElem_cons_succ, List.getElem_toArray]
                refine wpAnyH_ready (rs := [10]) (by kernel_rfl) (by simp) ?_
                refine AllReadyH.cons rfl (fun K hK => ?_) AllReadyH.nil
                go_simp
                refine hK.out _ _ ⟨(HS5.out.next ((Below.refl _ _).alloc (Nat.le_refl _) _)).t, (HS5.out.next ((Below.refl _ _).alloc (Nat.le_refl _) _)).up⟩ (fun hHeld => ?_)
                clear hK K
                refine wpAnyH_ready (rs := [11]) (by kernel_rfl) (by simp) ?_
                refine AllReadyH.cons rfl (fun K hK => ?_) AllReadyH.nil
                refine step_append_row (es := es1) (fs := [(⟨i, j, la, 1, 0⟩ : Ed)]) (by rfl) _ _ (by rfl) (by rfl) (HS5.out.next ((Below.refl _ _).alloc (Nat.le_refl _) _)) (by rfl) (eOwn_new w5 ⟨i, j, la, 1, 0⟩) (by simp; omega) ?_
                intro a2 c2 w6 hs6
                have HS6 : Hid (St w w6 t a2 c2 (es1 ++ [⟨i, j, la, 1, 0⟩])) := hs6
                clear hs6
                refine hK.out _ _ ⟨HS6.out.t, HS6.out.up⟩ (fun hHeld => ?_)
                clear hK K
                refine wpAnyH_take (i := 12) (v := .slice a2 (es1 ++ [(⟨i, j, la, 1, 0⟩ : Ed)]).length c2) rfl (by kernel_rfl) (by kernel_rfl) (by kernel_rfl) (fun _ _ _ h => h) (Or.inl ⟨by rfl, fun w' hSw => by (go_simp)⟩) hHeld ?_
                simp only [Act.put, List.setIfInBounds_toArray, List.set_cons_zero, List.set_cons_succ, List.getElem_cons_zero, List.getElem_cons_succ, List.getElem_toArray]
                refine wpAnyH_done (by kernel_rfl) ?_ _
                go_wp2_with fail
                go_meet
                case rel => exact ⟨a2, c2, by simp, HS6.out⟩
            case rest =>
              obtain ⟨a3, c3, rfl, hs⟩ := hcut
              rename World => wc
              obtain ⟨es3, he3⟩ : ∃ es3, es1 ++ L1 = es3 := ⟨_, rfl⟩
              have hl3 : es3.length ≤ 400001 := by rw [← he3, List.length_append]; omega
              have HE3 : Hid (es1 ++ L1 = es3) := he3
              have HS3 : Hid (St w wc t a3 c3 es3) := by rw [he3] at hs; exact hs
              rw [he3]
              clear hs he3 HS2 HLx HL1
              go_upto_region 12 with fail
              refine wp_region_held_drew (S := fun W => TabAt W w.heap.size t ∧ Below w.heap.size w W) (by kernel_rfl) ⟨(HS3.out.next (drew_up _)).t, (HS3.out.next (drew_up _)).up⟩ (fun hHeld => ?_)
              refine wpAnyH_take (i := 0) (v := .slice a3 es3.length c3) rfl (by kernel_rfl) (by kernel_rfl) (by kernel_rfl) (fun _ _ _ h => h) (Or.inl ⟨by rfl, fun w' hSw => by (go_simp)⟩) hHeld ?_
              simp only [Act.put, List.setIfInBounds_toArray, List.set_cons_zero, List.set_cons_succ, List.getElem_cons_zero, List.getElem_toArray]
              refine wpAnyH_take (i := 1) (v := .slice (some ⟨b, f, none⟩) xs.length cap) rfl (by kernel_rfl) (by kernel_rfl) (by kernel_rfl) (fun _ _ _ h => h) (Or.inl ⟨by rfl, fun w' hSw => by (go_simp)⟩) hHeld ?_
              simp only [Act.put, List.setIfInBounds_toArray, List.set_cons_zero, List.set_cons_succ, List.getElem_cons_zero, List.getElem_cons_succ, List.getElem_toArray]
              refine wpAnyH_take (i := 2) (v := .agg #[.int .i64 (t.u 0), .int .i64 (t.u 1), .int .i64 (t.u 2), .int .i64 (t.u 3), .int .i64 (t.l 0), .int .i64 (t.l 1), .int .i64 (t.l 2), .int .i64 (t.l 3), .int .i64 (t.b 0), .int .i64 (t.b 1), .int .i64 (t.b 2), .int .i64 (t.b 3), .int .i64 t.d]) rfl (by kernel_rfl) (by kernel_rfl) (by kernel_rfl) (fun _ _ _ h => h) (Or.inl ⟨by rfl, fun w' hSw => by (have k2 := hSw.1; have qu0 := k2.cu 0 (by decide); have qu1 := k2.cu 1 (by decide); have qu2 := k2.cu 2 (by decide); have qu3 := k2.cu 3 (by decide); have ql0 := k2.cl 0 (by decide); have ql1 := k2.cl 1 (by decide); have ql2 := k2.cl 2 (by decide); have ql3 := k2.cl 3 (by decide); have qb0 := k2.cb 0 (by decide); have qb1 := k2.cb 1 (by decide); have qb2 := k2.cb 2 (by decide); have qb3 := k2.cb 3 (by decide); have qd := k2.cd; have qz := k2.lt; clear k2; go_simp)⟩) hHeld ?_
              simp only [Act.put, List.setIfInBounds_toArray, List.set_cons_zero, List.set_cons_succ, List.getElem_cons_zero, List.getElem_cons_succ, List.getElem_toArray]
              refine wpAnyH_take (i := 3) (v := .int .i64 (i : Int)) rfl (by kernel_rfl) (by kernel_rfl) (by kernel_rfl) (fun _ _ _ h => h) (Or.inl ⟨by rfl, fun w' hSw => by (go_simp)⟩) hHeld ?_
              simp only [Act.put, List.setIfInBounds_toArray, List.set_cons_zero, List.set_cons_succ, List.getElem_cons_zero, List.getElem_cons_succ, List.getElem_toArray]
              refine wpAnyH_take (i := 4) (v := .int .i64 (j : Int)) rfl (by kernel_rfl) (by kernel_rfl) (by kernel_rfl) (fun _ _ _ h => h) (Or.inl ⟨by rfl, fun w' hSw => by (go_simp)⟩) hHeld ?_
              simp only [Act.put, List.setIfInBounds_toArray, List.set_cons_zero, List.set_cons_succ, List.getElem_cons_zero, List.getElem_cons_succ, List.getElem_toArray]
              refine wpAnyH_take (i := 5) (v := .slice (some ⟨b, f, none⟩) xs.length cap) rfl (by kernel_rfl) (by kernel_rfl) (by kernel_rfl) (fun _ _ _ h => h) (Or.inl ⟨by rfl, fun w' hSw => by (go_simp)⟩) hHeld ?_
              simp only [Act.put, List.setIfInBounds_toArray, List.set_cons_zero, List.set_cons_succ, List.getElem_cons_zero, List.getElem_cons_succ, List.getElem_toArray]
              refine wpAnyH_take (i := 6) (v := .int .i64 (i : Int)) rfl (by kernel_rfl) (by kernel_rfl) (by kernel_rfl) (fun _ _ _ h => h) (Or.inl ⟨by rfl, fun w' hSw => by (go_simp)⟩) hHeld ?_
              simp only [Act.put, List.setIfInBounds_toArray, List.set_cons_zero, List.set_cons_succ, List.getElem_cons_zero, List.getElem_cons_succ, List.getElem_toArray]
              refine wpAnyH_take (i := 7) (v := .int .i64 (j : Int)) rfl (by kernel_rfl) (by kernel_rfl) (by kernel_rfl) (fun _ _ _ h => h) (Or.inl ⟨by rfl, fun w' hSw => by (go_simp)⟩) hHeld ?_
              simp only [Act.put, List.setIfInBounds_toArray, List.set_cons_zero, List.set_cons_succ, List.getElem_cons_zero, List.getElem_cons_succ, List.getElem_toArray]
              refine wpAnyH_ready (rs := [8]) (by kernel_rfl) (by simp) ?_
              refine AllReadyH.cons rfl (fun K hK => ?_) AllReadyH.nil
              go_simp
              refine Calls.mono (HMx.out _ hHeld.2) ?_
              rintro e w5 ⟨rfl, b5⟩
              have HS5 : Hid (St w w5 t a3 c3 es3) := (HS3.out.next (drew_up _)).next b5
              clear b5
              refine hK.out _ _ ⟨HS5.out.t, HS5.out.up⟩ (fun hHeld => ?_)
              clear hK K
              refine wpAnyH_ready (rs := [9]) (by kernel_rfl) (by simp) ?_
              refine AllReadyH.cons rfl (fun K hK => ?_) AllReadyH.nil
              go_simp
              refine Calls.mono (HPx.out _ hHeld.2) ?_
              rintro e w6 ⟨a5, c5, rfl, o5, b5⟩
              have HS6 : Hid (St w w6 t a3 c3 es3) := HS5.out.next b5
              have HO6 : Hid (EOwn w5.heap.size w6 a5 c5 ps) := o5
              clear b5 o5
              refine hK.out _ _ ⟨HS6.out.t, HS6.out.up⟩ (fun hHeld => ?_)
              clear hK K
              refine wpAnyH_ready (rs := [10]) (by kernel_rfl) (by simp) ?_
              refine AllReadyH.cons rfl (fun K hK => ?_) AllReadyH.nil
              refine step_append_row (es := es3) (fs := ps) (by rfl) _ _ (by rfl) (by rfl) HS6.out (by rfl) HO6.out (by omega) ?_
              intro a6 c6 w7 hs7
              have HS7 : Hid (St w w7 t a6 c6 (es3 ++ ps)) := hs7
              clear hs7
              refine hK.out _ _ ⟨HS7.out.t, HS7.out.up⟩ (fun hHeld => ?_)
              clear hK K
              refine wpAnyH_take (i := 11) (v := .slice a6 (es3 ++ ps).length c6) rfl (by kernel_rfl) (by kernel_rfl) (by kernel_rfl) (fun _ _ _ h => h) (Or.inl ⟨by rfl, fun w' hSw => by (go_simp)⟩) hHeld ?_
              simp only [Act.put, List.setIfInBounds_toArray, List.set_cons_zero, List.set_cons_succ, List.getElem_cons_zero, List.getElem_cons_succ, List.getElem_toArray]
              refine wpAnyH_done (by kernel_rfl) ?_ _
              have HFin : Hid ((ofD t xs xs.length ++ roundD t xs j) ++ rowR t xs j (i + 1) = es3 ++ ps) := by
                show (ofD t xs xs.length ++ roundD t xs j) ++ rowR t xs j (i + 1) = es3 ++ ps
                rw [HNx.out, ← List.append_assoc, HES.out, HOne.out, ← List.append_assoc, HE3.out]
              clear HMx HPx HS3 HS5 HS6 HO6
              go_wp2_with fail
              go_roundw
              case rel => exact ⟨i + 1, a6, c6, by omega, by rw [HFin.out], by go_num, by rw [HFin.out]; exact HS7.out⟩
              case measure => simp [intOf]; omega
          · have hie : i = xs.length := by omega
            have i1 : ¬ (i : Int) < (xs.length : Int) := by omega
            have HNx : Hid (ofD t xs xs.length ++ roundD t xs (j + 1) = ofD t xs xs.length ++ roundD t xs j ++ rowR t xs j i) := by
              show ofD t xs xs.length ++ (roundD t xs j ++ rowR t xs j xs.length) = _
              rw [hie, List.append_assoc]
            clear hie
            go_wp2_with fail
            go_roundw
            case rel => exact ⟨j + 1, a1, c1, by omega, by rw [HNx.out], by go_num, by rw [HNx.out]; exact HS1.out⟩
            case measure => simp [intOf]; omega
      · have hje : j = xs.length := by omega
        have j1 : ¬ (j : Int) < (xs.length : Int) := by omega
        have HNx : Hid ((ofD t xs xs.length ++ roundD t xs j) = (ofD t xs xs.length ++ roundD t xs xs.length)) := by show (ofD t xs xs.length ++ roundD t xs j) = (ofD t xs xs.length ++ roundD t xs xs.length); rw [hje]
        clear hje HF HL HM HP HC
        rw [HNx.out] at HS ⊢
        clear HNx
        generalize ofD t xs xs.length ++ roundD t xs xs.length = L at *
        go_wp2_with fail
        go_ret2
        obtain ⟨a5, c5, e5, h5⟩ := eOwn_of HS.out.row (B' := w.heap.size) (by omega)
        injection e5 with e6 e7 e8
        subst e6
        subst e8
        exact ⟨a4, c4, rfl, h5, HS.out.up⟩
  · rw [if_neg he]
    rw [if_neg he] at HR
    have he2 : (lisE t xs != 0) = true := by simpa using he
    generalize lisE t xs = er at *
    clear h hq
    unfold Tab.val at *
    go_enter Tryd.func12, Tryd.ntmps12
    go_wp2_with (first | (go_at_call 10; refine Calls.mono (HR.out _ (by go_grown)) ?_; rintro e w1 ⟨a0, c0, rfl, o1, b1⟩; have HSt : Hid (St w w1 t none 0 []) := HS0.out w1 b1; clear b1 o1 HR HS0))
    go_ret2
    exact ⟨none, 0, rfl, World.ownsRow_nil _ _ _ _, HSt.out.up⟩
end Go.Proofs.YtccakjijoadjkaaDoor.Dp

namespace Go.Proofs.YtccakjijoadjkaaDoor.Dp
open Go.ChangeShapes Go.WideShapes Go.ChangeAt Go.RowKit
open _root_.Go.Proofs.YtccakjijoadjkaaDoor.Op _root_.Go.Proofs.YtccakjijoadjkaaDoor.So
open _root_.Go.Proofs.YtccakjijoadjkaaDoor.Al
open _root_.Go.Proofs.YtccakjijoadjkaaDoor.Tb (Tab TabAt Bnds)
set_option maxRecDepth 20000

theorem opsAt_take {w : World} {ao : Option Addr} {xs : List O} (h : OpsAt w ao xs) (n : Nat) : OpsAt w ao (xs.take n) := by
  refine ⟨fun o ho => h.ok o (List.mem_of_mem_take ho), by have := h.len; rw [List.length_take]; omega, fun h0 => ?_⟩
  obtain ⟨b, f, e, z, hx⟩ := h.is (by rw [List.length_take] at h0; omega)
  refine ⟨b, f, e, z, fun i hi => ?_⟩
  rw [List.getElem_take]
  exact hx i _
/-- Both sides tell the same. -/
theorem tell_parts (ao : Option Addr) (cap : Nat) (ys : List O) (t : Tab) (w : World) (h : OpsAt w ao ys) (hcap : ys.length ≤ cap) (hG : Bnds w) (hq : lisE t ys = 0 → ys.length ≤ 200) :
    ∃ (er : Int) (E1 E2 : List Ed), ((E1.length : Int) ≤ 200000000 ∧ (E2.length : Int) ≤ 200000000) ∧ (∀ W, Below w.heap.size w W → Calls Tryd.prog 9 #[.slice ao ys.length cap, t.val] W fun e w' => ∃ a c, e = .returned (.tuple #[.slice a E1.length c, .int .i64 er]) ∧ EOwn W.heap.size w' a c E1 ∧ Below W.heap.size W w') ∧ (∀ W, Below w.heap.size w W → Calls Tryd.prog 10 #[.slice ao ys.length cap, t.val] W fun e w' => ∃ a c, e = .returned (.tuple #[.slice a E1.length c, .int .i64 er]) ∧ EOwn W.heap.size w' a c E1 ∧ Below W.heap.size W w') ∧ (∀ W, Below w.heap.size w W → Calls Tryd.prog 11 #[.slice ao ys.length cap, t.val] W fun e w' => ∃ a c, e = .returned (.tuple #[.slice a E2.length c, .int .i64 er]) ∧ EOwn W.heap.size w' a c E2 ∧ Below W.heap.size W w') ∧ (∀ W, Below w.heap.size w W → Calls Tryd.prog 12 #[.slice ao ys.length cap, t.val] W fun e w' => ∃ a c, e = .returned (.tuple #[.slice a E2.length c, .int .i64 er]) ∧ EOwn W.heap.size w' a c E2 ∧ Below W.heap.size W w') := by
  have e1 : erE t ys (ofE t ys) = erE t ys (ofD t ys ys.length) := by
    unfold erE
    by_cases he : lisE t ys = 0
    · obtain ⟨-, -, hok⟩ := lis_all he
      rw [if_pos he, if_pos he, ofD_eq t fun o ho => ⟨h.ok o ho, hok o ho⟩]
    · rw [if_neg he, if_neg he]
  have e2 : erE t ys (loopE t ys) = erE t ys (ofD t ys ys.length ++ roundD t ys ys.length) := by
    unfold erE
    by_cases he : lisE t ys = 0
    · obtain ⟨-, -, hok⟩ := lis_all he
      have hA : Lall ys := fun o ho => ⟨h.ok o ho, hok o ho⟩
      rw [if_pos he, if_pos he, ← ofD_eq t hA, ← roundD_eq t hA]
      rfl
    · rw [if_neg he, if_neg he]
  refine ⟨lisE t ys, erE t ys (ofE t ys), erE t ys (loopE t ys), ⟨?_, ?_⟩, fun W hb => of_any ao cap ys t W (h.below hb) hcap (hG.below hb hG.big), fun W hb => ?_, fun W hb => loop_any ao cap ys t W (h.below hb) hcap (hG.below hb hG.big), fun W hb => ?_⟩
  · rw [e1]
    unfold erE
    by_cases he : lisE t ys = 0
    · have := ofD_len t ys (n := ys.length) (hq he)
      have := hq he
      rw [if_pos he]; omega
    · rw [if_neg he]; simp
  · rw [e2]
    unfold erE
    by_cases he : lisE t ys = 0
    · have h1 := ofD_len t ys (n := ys.length) (hq he)
      have h2 := roundD_len t ys (hq he) ys.length
      have := hq he
      rw [if_pos he, List.length_append]; omega
    · rw [if_neg he]; simp
  · rw [e1]; exact refOf_any ao cap ys t W (h.below hb) hq
  · rw [e2]; exact refLoop_any ao cap ys t W (h.below hb) hq
/-- The table's box, and what stands below. -/
theorem tab_next {w W W' : World} {t : Tab} (h : TabAt W w.heap.size t ∧ Below w.heap.size w W) (hb : Below W.heap.size W W') : TabAt W' w.heap.size t ∧ Below w.heap.size w W' := ⟨h.1.below hb h.1.lt, h.2.trans (hb.mono h.2.size)⟩
set_option maxHeartbeats 16000000 in
theorem law_tell (ao : Option Addr) (cap : Nat) (xs : List O) (t : Tab) (w : World) (h : OpsAt w ao xs) (hcap : xs.length ≤ cap) (hG : Bnds w) :
    Calls Tryd.prog 3 #[.slice ao xs.length cap, t.val] w fun e w' => e = .returned (.bool true) ∧ Below w.heap.size w w' := by
  by_cases h1 : 200 < xs.length
  · by_cases h2 : xs.length ≤ 1024
    · obtain ⟨er, E1, E2, hn, hc1, hc2, hc3, hc4⟩ := tell_parts ao cap (xs.take 200) t w (opsAt_take h 200) (by rw [List.length_take]; omega) hG (fun _ => by rw [List.length_take]; omega)
      rw [show (xs.take 200).length = 200 by rw [List.length_take]; omega] at hc1 hc2 hc3 hc4
      have HN : Hid _ := hn
      have HC1 : Hid _ := hc1
      have HC2 : Hid _ := hc2
      have HC3 : Hid _ := hc3
      have HC4 : Hid _ := hc4
      clear hn hc1 hc2 hc3 hc4
      have HW : Hid (∀ W, Below w.heap.size w W → Calls Tryd.prog 14 #[] W fun e w' => e = .returned (.bool true) ∧ Below W.heap.size W w') := fun W hb => wakes_any W (hG.below hb hG.big)
      have hee : (er == er) = true := by simp
      have i1 : (200 : Int) < (xs.length : Int) := by omega
      have i2 : (xs.length : Int) ≤ 1024 := by omega
      have i3 : 200 ≤ cap := by omega
      have i4 : (200 : Int) ≤ (cap : Int) := by omega
      clear h hcap hG
      unfold Tab.val at *
      go_enter Tryd.func3, Tryd.ntmps3
      go_wp2_with (first
        | (go_at_call 9; refine Calls.mono (HC1.out _ (by go_grown)) ?_; rintro e w1 ⟨a1, c1, rfl, o1, b1⟩; have HT : Hid (TabAt w1 w.heap.size t ∧ Below w.heap.size w w1) := tab_next ⟨Tb.tabAt_new w t 25, by go_grown⟩ b1; obtain ⟨B1, hB1⟩ : ∃ B, B = w.heap.size + 1 := ⟨_, rfl⟩; have HO1 : Hid (EOwn B1 w1 a1 c1 E1) := (by rw [hB1]; show EOwn _ _ _ _ _; first | exact o1 | simpa using o1); clear hB1; clear o1 b1 HC1; have k2 := HT.out.1; have qu0 := k2.cu 0 (by decide); have qu1 := k2.cu 1 (by decide); have qu2 := k2.cu 2 (by decide); have qu3 := k2.cu 3 (by decide); have ql0 := k2.cl 0 (by decide); have ql1 := k2.cl 1 (by decide); have ql2 := k2.cl 2 (by decide); have ql3 := k2.cl 3 (by decide); have qb0 := k2.cb 0 (by decide); have qb1 := k2.cb 1 (by decide); have qb2 := k2.cb 2 (by decide); have qb3 := k2.cb 3 (by decide); have qd := k2.cd; have qz := k2.lt; clear k2)
        | (go_at_call 10; refine Calls.mono (HC2.out _ HT.out.2) ?_; rintro e w2 ⟨a2, c2, rfl, o2, b2⟩; have HT : Hid (TabAt w2 w.heap.size t ∧ Below w.heap.size w w2) := tab_next HT.out b2; obtain ⟨B2, hB2⟩ : ∃ B, B = w1.heap.size := ⟨_, rfl⟩; have HO2 : Hid (EOwn B2 w2 a2 c2 E1) := (by rw [hB2]; show EOwn _ _ _ _ _; first | exact o2 | simpa using o2); clear hB2; have HO1 : Hid (EOwn B1 w2 a1 c1 E1) := HO1.out.up b2; clear o2 b2 HC2 qu0 qu1 qu2 qu3 ql0 ql1 ql2 ql3 qb0 qb1 qb2 qb3 qd qz; have k2 := HT.out.1; have qu0 := k2.cu 0 (by decide); have qu1 := k2.cu 1 (by decide); have qu2 := k2.cu 2 (by decide); have qu3 := k2.cu 3 (by decide); have ql0 := k2.cl 0 (by decide); have ql1 := k2.cl 1 (by decide); have ql2 := k2.cl 2 (by decide); have ql3 := k2.cl 3 (by decide); have qb0 := k2.cb 0 (by decide); have qb1 := k2.cb 1 (by decide); have qb2 := k2.cb 2 (by decide); have qb3 := k2.cb 3 (by decide); have qd := k2.cd; have qz := k2.lt; clear k2)
        | (go_at_call 11; refine Calls.mono (HC3.out _ HT.out.2) ?_; rintro e w3 ⟨a3, c3, rfl, o3, b3⟩; have HT : Hid (TabAt w3 w.heap.size t ∧ Below w.heap.size w w3) := tab_next HT.out b3; obtain ⟨B3, hB3⟩ : ∃ B, B = w2.heap.size := ⟨_, rfl⟩; have HO3 : Hid (EOwn B3 w3 a3 c3 E2) := (by rw [hB3]; show EOwn _ _ _ _ _; first | exact o3 | simpa using o3); clear hB3; have HO1 : Hid (EOwn B1 w3 a1 c1 E1) := HO1.out.up b3; have HO2 : Hid (EOwn B2 w3 a2 c2 E1) := HO2.out.up b3; clear o3 b3 HC3 qu0 qu1 qu2 qu3 ql0 ql1 ql2 ql3 qb0 qb1 qb2 qb3 qd qz; have k2 := HT.out.1; have qu0 := k2.cu 0 (by decide); have qu1 := k2.cu 1 (by decide); have qu2 := k2.cu 2 (by decide); have qu3 := k2.cu 3 (by decide); have ql0 := k2.cl 0 (by decide); have ql1 := k2.cl 1 (by decide); have ql2 := k2.cl 2 (by decide); have ql3 := k2.cl 3 (by decide); have qb0 := k2.cb 0 (by decide); have qb1 := k2.cb 1 (by decide); have qb2 := k2.cb 2 (by decide); have qb3 := k2.cb 3 (by decide); have qd := k2.cd; have qz := k2.lt; clear k2)
        | (go_at_call 12; refine Calls.mono (HC4.out _ HT.out.2) ?_; rintro e w4 ⟨a4, c4, rfl, o4, b4⟩; have HT : Hid (TabAt w4 w.heap.size t ∧ Below w.heap.size w w4) := tab_next HT.out b4; obtain ⟨B4, hB4⟩ : ∃ B, B = w3.heap.size := ⟨_, rfl⟩; have HO4 : Hid (EOwn B4 w4 a4 c4 E2) := (by rw [hB4]; show EOwn _ _ _ _ _; first | exact o4 | simpa using o4); clear hB4; have HO1 : Hid (EOwn B1 w4 a1 c1 E1) := HO1.out.up b4; have HO2 : Hid (EOwn B2 w4 a2 c2 E1) := HO2.out.up b4; have HO3 : Hid (EOwn B3 w4 a3 c3 E2) := HO3.out.up b4; clear o4 b4 HC4 qu0 qu1 qu2 qu3 ql0 ql1 ql2 ql3 qb0 qb1 qb2 qb3 qd qz)
        | (go_at_call_of 13 (Value.slice a1 E1.length c1); refine Calls.mono (edges_same _ HO1.out HO2.out HN.out.1) ?_; rintro e w5 ⟨rfl, b5⟩; have HT : Hid (TabAt w5 w.heap.size t ∧ Below w.heap.size w w5) := tab_next HT.out b5; have HO3 : Hid (EOwn B3 w5 a3 c3 E2) := HO3.out.up b5; have HO4 : Hid (EOwn B4 w5 a4 c4 E2) := HO4.out.up b5; clear b5)
        | (go_at_call_of 13 (Value.slice a3 E2.length c3); refine Calls.mono (edges_same _ HO3.out HO4.out HN.out.2) ?_; rintro e w6 ⟨rfl, b6⟩; have HT : Hid (TabAt w6 w.heap.size t ∧ Below w.heap.size w w6) := tab_next HT.out b6; clear b6)
        | (go_at_call 14; refine Calls.mono (HW.out _ HT.out.2) ?_; rintro e w7 ⟨rfl, b7⟩; have HB7 : Hid (Below w.heap.size w w7) := (tab_next HT.out b7).2; clear b7 HW))
      go_ret
      exact ⟨rfl, HB7.out⟩
    · obtain ⟨er, E1, E2, hn, hc1, hc2, hc3, hc4⟩ := tell_parts ao cap xs t w h hcap hG (fun he => by have := (lis_all he).2.1; omega)
      have HN : Hid _ := hn
      have HC1 : Hid _ := hc1
      have HC2 : Hid _ := hc2
      have HC3 : Hid _ := hc3
      have HC4 : Hid _ := hc4
      clear hn hc1 hc2 hc3 hc4
      have HW : Hid (∀ W, Below w.heap.size w W → Calls Tryd.prog 14 #[] W fun e w' => e = .returned (.bool true) ∧ Below W.heap.size W w') := fun W hb => wakes_any W (hG.below hb hG.big)
      have hee : (er == er) = true := by simp
      have i1 : (200 : Int) < (xs.length : Int) := by omega
      have i2 : ¬ (xs.length : Int) ≤ 1024 := by omega
      clear h hcap hG
      unfold Tab.val at *
      go_enter Tryd.func3, Tryd.ntmps3
      go_wp2_with (first
        | (go_at_call 9; refine Calls.mono (HC1.out _ (by go_grown)) ?_; rintro e w1 ⟨a1, c1, rfl, o1, b1⟩; have HT : Hid (TabAt w1 w.heap.size t ∧ Below w.heap.size w w1) := tab_next ⟨Tb.tabAt_new w t 25, by go_grown⟩ b1; obtain ⟨B1, hB1⟩ : ∃ B, B = w.heap.size + 1 := ⟨_, rfl⟩; have HO1 : Hid (EOwn B1 w1 a1 c1 E1) := (by rw [hB1]; show EOwn _ _ _ _ _; first | exact o1 | simpa using o1); clear hB1; clear o1 b1 HC1; have k2 := HT.out.1; have qu0 := k2.cu 0 (by decide); have qu1 := k2.cu 1 (by decide); have qu2 := k2.cu 2 (by decide); have qu3 := k2.cu 3 (by decide); have ql0 := k2.cl 0 (by decide); have ql1 := k2.cl 1 (by decide); have ql2 := k2.cl 2 (by decide); have ql3 := k2.cl 3 (by decide); have qb0 := k2.cb 0 (by decide); have qb1 := k2.cb 1 (by decide); have qb2 := k2.cb 2 (by decide); have qb3 := k2.cb 3 (by decide); have qd := k2.cd; have qz := k2.lt; clear k2)
        | (go_at_call 10; refine Calls.mono (HC2.out _ HT.out.2) ?_; rintro e w2 ⟨a2, c2, rfl, o2, b2⟩; have HT : Hid (TabAt w2 w.heap.size t ∧ Below w.heap.size w w2) := tab_next HT.out b2; obtain ⟨B2, hB2⟩ : ∃ B, B = w1.heap.size := ⟨_, rfl⟩; have HO2 : Hid (EOwn B2 w2 a2 c2 E1) := (by rw [hB2]; show EOwn _ _ _ _ _; first | exact o2 | simpa using o2); clear hB2; have HO1 : Hid (EOwn B1 w2 a1 c1 E1) := HO1.out.up b2; clear o2 b2 HC2 qu0 qu1 qu2 qu3 ql0 ql1 ql2 ql3 qb0 qb1 qb2 qb3 qd qz; have k2 := HT.out.1; have qu0 := k2.cu 0 (by decide); have qu1 := k2.cu 1 (by decide); have qu2 := k2.cu 2 (by decide); have qu3 := k2.cu 3 (by decide); have ql0 := k2.cl 0 (by decide); have ql1 := k2.cl 1 (by decide); have ql2 := k2.cl 2 (by decide); have ql3 := k2.cl 3 (by decide); have qb0 := k2.cb 0 (by decide); have qb1 := k2.cb 1 (by decide); have qb2 := k2.cb 2 (by decide); have qb3 := k2.cb 3 (by decide); have qd := k2.cd; have qz := k2.lt; clear k2)
        | (go_at_call 11; refine Calls.mono (HC3.out _ HT.out.2) ?_; rintro e w3 ⟨a3, c3, rfl, o3, b3⟩; have HT : Hid (TabAt w3 w.heap.size t ∧ Below w.heap.size w w3) := tab_next HT.out b3; obtain ⟨B3, hB3⟩ : ∃ B, B = w2.heap.size := ⟨_, rfl⟩; have HO3 : Hid (EOwn B3 w3 a3 c3 E2) := (by rw [hB3]; show EOwn _ _ _ _ _; first | exact o3 | simpa using o3); clear hB3; have HO1 : Hid (EOwn B1 w3 a1 c1 E1) := HO1.out.up b3; have HO2 : Hid (EOwn B2 w3 a2 c2 E1) := HO2.out.up b3; clear o3 b3 HC3 qu0 qu1 qu2 qu3 ql0 ql1 ql2 ql3 qb0 qb1 qb2 qb3 qd qz; have k2 := HT.out.1; have qu0 := k2.cu 0 (by decide); have qu1 := k2.cu 1 (by decide); have qu2 := k2.cu 2 (by decide); have qu3 := k2.cu 3 (by decide); have ql0 := k2.cl 0 (by decide); have ql1 := k2.cl 1 (by decide); have ql2 := k2.cl 2 (by decide); have ql3 := k2.cl 3 (by decide); have qb0 := k2.cb 0 (by decide); have qb1 := k2.cb 1 (by decide); have qb2 := k2.cb 2 (by decide); have qb3 := k2.cb 3 (by decide); have qd := k2.cd; have qz := k2.lt; clear k2)
        | (go_at_call 12; refine Calls.mono (HC4.out _ HT.out.2) ?_; rintro e w4 ⟨a4, c4, rfl, o4, b4⟩; have HT : Hid (TabAt w4 w.heap.size t ∧ Below w.heap.size w w4) := tab_next HT.out b4; obtain ⟨B4, hB4⟩ : ∃ B, B = w3.heap.size := ⟨_, rfl⟩; have HO4 : Hid (EOwn B4 w4 a4 c4 E2) := (by rw [hB4]; show EOwn _ _ _ _ _; first | exact o4 | simpa using o4); clear hB4; have HO1 : Hid (EOwn B1 w4 a1 c1 E1) := HO1.out.up b4; have HO2 : Hid (EOwn B2 w4 a2 c2 E1) := HO2.out.up b4; have HO3 : Hid (EOwn B3 w4 a3 c3 E2) := HO3.out.up b4; clear o4 b4 HC4 qu0 qu1 qu2 qu3 ql0 ql1 ql2 ql3 qb0 qb1 qb2 qb3 qd qz)
        | (go_at_call_of 13 (Value.slice a1 E1.length c1); refine Calls.mono (edges_same _ HO1.out HO2.out HN.out.1) ?_; rintro e w5 ⟨rfl, b5⟩; have HT : Hid (TabAt w5 w.heap.size t ∧ Below w.heap.size w w5) := tab_next HT.out b5; have HO3 : Hid (EOwn B3 w5 a3 c3 E2) := HO3.out.up b5; have HO4 : Hid (EOwn B4 w5 a4 c4 E2) := HO4.out.up b5; clear b5)
        | (go_at_call_of 13 (Value.slice a3 E2.length c3); refine Calls.mono (edges_same _ HO3.out HO4.out HN.out.2) ?_; rintro e w6 ⟨rfl, b6⟩; have HT : Hid (TabAt w6 w.heap.size t ∧ Below w.heap.size w w6) := tab_next HT.out b6; clear b6)
        | (go_at_call 14; refine Calls.mono (HW.out _ HT.out.2) ?_; rintro e w7 ⟨rfl, b7⟩; have HB7 : Hid (Below w.heap.size w w7) := (tab_next HT.out b7).2; clear b7 HW))
      go_ret
      exact ⟨rfl, HB7.out⟩
  · obtain ⟨er, E1, E2, hn, hc1, hc2, hc3, hc4⟩ := tell_parts ao cap xs t w h hcap hG (fun _ => by omega)
    have HN : Hid _ := hn
    have HC1 : Hid _ := hc1
    have HC2 : Hid _ := hc2
    have HC3 : Hid _ := hc3
    have HC4 : Hid _ := hc4
    clear hn hc1 hc2 hc3 hc4
    have HW : Hid (∀ W, Below w.heap.size w W → Calls Tryd.prog 14 #[] W fun e w' => e = .returned (.bool true) ∧ Below W.heap.size W w') := fun W hb => wakes_any W (hG.below hb hG.big)
    have hee : (er == er) = true := by simp
    have i1 : ¬ (200 : Int) < (xs.length : Int) := by omega
    clear h hcap hG
    unfold Tab.val at *
    go_enter Tryd.func3, Tryd.ntmps3
    go_wp2_with (first
      | (go_at_call 9; refine Calls.mono (HC1.out _ (by go_grown)) ?_; rintro e w1 ⟨a1, c1, rfl, o1, b1⟩; have HT : Hid (TabAt w1 w.heap.size t ∧ Below w.heap.size w w1) := tab_next ⟨Tb.tabAt_new w t 25, by go_grown⟩ b1; obtain ⟨B1, hB1⟩ : ∃ B, B = w.heap.size + 1 := ⟨_, rfl⟩; have HO1 : Hid (EOwn B1 w1 a1 c1 E1) := (by rw [hB1]; show EOwn _ _ _ _ _; first | exact o1 | simpa using o1); clear hB1; clear o1 b1 HC1; have k2 := HT.out.1; have qu0 := k2.cu 0 (by decide); have qu1 := k2.cu 1 (by decide); have qu2 := k2.cu 2 (by decide); have qu3 := k2.cu 3 (by decide); have ql0 := k2.cl 0 (by decide); have ql1 := k2.cl 1 (by decide); have ql2 := k2.cl 2 (by decide); have ql3 := k2.cl 3 (by decide); have qb0 := k2.cb 0 (by decide); have qb1 := k2.cb 1 (by decide); have qb2 := k2.cb 2 (by decide); have qb3 := k2.cb 3 (by decide); have qd := k2.cd; have qz := k2.lt; clear k2)
      | (go_at_call 10; refine Calls.mono (HC2.out _ HT.out.2) ?_; rintro e w2 ⟨a2, c2, rfl, o2, b2⟩; have HT : Hid (TabAt w2 w.heap.size t ∧ Below w.heap.size w w2) := tab_next HT.out b2; obtain ⟨B2, hB2⟩ : ∃ B, B = w1.heap.size := ⟨_, rfl⟩; have HO2 : Hid (EOwn B2 w2 a2 c2 E1) := (by rw [hB2]; show EOwn _ _ _ _ _; first | exact o2 | simpa using o2); clear hB2; have HO1 : Hid (EOwn B1 w2 a1 c1 E1) := HO1.out.up b2; clear o2 b2 HC2 qu0 qu1 qu2 qu3 ql0 ql1 ql2 ql3 qb0 qb1 qb2 qb3 qd qz; have k2 := HT.out.1; have qu0 := k2.cu 0 (by decide); have qu1 := k2.cu 1 (by decide); have qu2 := k2.cu 2 (by decide); have qu3 := k2.cu 3 (by decide); have ql0 := k2.cl 0 (by decide); have ql1 := k2.cl 1 (by decide); have ql2 := k2.cl 2 (by decide); have ql3 := k2.cl 3 (by decide); have qb0 := k2.cb 0 (by decide); have qb1 := k2.cb 1 (by decide); have qb2 := k2.cb 2 (by decide); have qb3 := k2.cb 3 (by decide); have qd := k2.cd; have qz := k2.lt; clear k2)
      | (go_at_call 11; refine Calls.mono (HC3.out _ HT.out.2) ?_; rintro e w3 ⟨a3, c3, rfl, o3, b3⟩; have HT : Hid (TabAt w3 w.heap.size t ∧ Below w.heap.size w w3) := tab_next HT.out b3; obtain ⟨B3, hB3⟩ : ∃ B, B = w2.heap.size := ⟨_, rfl⟩; have HO3 : Hid (EOwn B3 w3 a3 c3 E2) := (by rw [hB3]; show EOwn _ _ _ _ _; first | exact o3 | simpa using o3); clear hB3; have HO1 : Hid (EOwn B1 w3 a1 c1 E1) := HO1.out.up b3; have HO2 : Hid (EOwn B2 w3 a2 c2 E1) := HO2.out.up b3; clear o3 b3 HC3 qu0 qu1 qu2 qu3 ql0 ql1 ql2 ql3 qb0 qb1 qb2 qb3 qd qz; have k2 := HT.out.1; have qu0 := k2.cu 0 (by decide); have qu1 := k2.cu 1 (by decide); have qu2 := k2.cu 2 (by decide); have qu3 := k2.cu 3 (by decide); have ql0 := k2.cl 0 (by decide); have ql1 := k2.cl 1 (by decide); have ql2 := k2.cl 2 (by decide); have ql3 := k2.cl 3 (by decide); have qb0 := k2.cb 0 (by decide); have qb1 := k2.cb 1 (by decide); have qb2 := k2.cb 2 (by decide); have qb3 := k2.cb 3 (by decide); have qd := k2.cd; have qz := k2.lt; clear k2)
      | (go_at_call 12; refine Calls.mono (HC4.out _ HT.out.2) ?_; rintro e w4 ⟨a4, c4, rfl, o4, b4⟩; have HT : Hid (TabAt w4 w.heap.size t ∧ Below w.heap.size w w4) := tab_next HT.out b4; obtain ⟨B4, hB4⟩ : ∃ B, B = w3.heap.size := ⟨_, rfl⟩; have HO4 : Hid (EOwn B4 w4 a4 c4 E2) := (by rw [hB4]; show EOwn _ _ _ _ _; first | exact o4 | simpa using o4); clear hB4; have HO1 : Hid (EOwn B1 w4 a1 c1 E1) := HO1.out.up b4; have HO2 : Hid (EOwn B2 w4 a2 c2 E1) := HO2.out.up b4; have HO3 : Hid (EOwn B3 w4 a3 c3 E2) := HO3.out.up b4; clear o4 b4 HC4 qu0 qu1 qu2 qu3 ql0 ql1 ql2 ql3 qb0 qb1 qb2 qb3 qd qz)
      | (go_at_call_of 13 (Value.slice a1 E1.length c1); refine Calls.mono (edges_same _ HO1.out HO2.out HN.out.1) ?_; rintro e w5 ⟨rfl, b5⟩; have HT : Hid (TabAt w5 w.heap.size t ∧ Below w.heap.size w w5) := tab_next HT.out b5; have HO3 : Hid (EOwn B3 w5 a3 c3 E2) := HO3.out.up b5; have HO4 : Hid (EOwn B4 w5 a4 c4 E2) := HO4.out.up b5; clear b5)
      | (go_at_call_of 13 (Value.slice a3 E2.length c3); refine Calls.mono (edges_same _ HO3.out HO4.out HN.out.2) ?_; rintro e w6 ⟨rfl, b6⟩; have HT : Hid (TabAt w6 w.heap.size t ∧ Below w.heap.size w w6) := tab_next HT.out b6; clear b6)
      | (go_at_call 14; refine Calls.mono (HW.out _ HT.out.2) ?_; rintro e w7 ⟨rfl, b7⟩; have HB7 : Hid (Below w.heap.size w w7) := (tab_next HT.out b7).2; clear b7 HW))
    go_ret
    exact ⟨rfl, HB7.out⟩
end Go.Proofs.YtccakjijoadjkaaDoor.Dp

namespace Go.Proofs.YtccakjijoadjkaaDoor.Op
open Go.ChangeShapes Go.WideShapes Go.ChangeAt Go.RowKit
set_option maxRecDepth 20000

theorem info40 : (Tryd.prog.info? 40).map (fun i => (i.zero, i.size, i.bytes)) = some (some (.agg #[.int .i8 0, .int .u8 0, .int .u8 0, .int .u8 0, .int .i64 0]), 5, 16) := by kernel_rfl
theorem add_at (b f j : Nat) : (⟨b, f, none⟩ : Addr).add j = ⟨b, f + j, none⟩ := by simp [Addr.add]
/-- The cells of operations in a row. -/
def ocells (xs : List O) : List Value := xs.flatMap fun o => [.int .i8 o.op, .int .u8 o.d, .int .u8 o.a, .int .u8 o.b, .int .i64 o.im]
theorem ocells_len (xs : List O) : (ocells xs).length = xs.length * 5 := by
  induction xs with
  | nil => rfl
  | cons o r ih => unfold ocells at ih ⊢; rw [List.flatMap_cons, List.length_append, ih]; simp; omega
theorem ocells_cons (o : O) (r : List O) : ocells (o :: r) = .int .i8 o.op :: .int .u8 o.d :: .int .u8 o.a :: .int .u8 o.b :: .int .i64 o.im :: ocells r := rfl
theorem ocells_get (xs : List O) : ∀ (i : Nat) (h : i < xs.length), (ocells xs)[i * 5]? = some (.int .i8 xs[i].op) ∧ (ocells xs)[i * 5 + 1]? = some (.int .u8 xs[i].d) ∧ (ocells xs)[i * 5 + 2]? = some (.int .u8 xs[i].a) ∧ (ocells xs)[i * 5 + 3]? = some (.int .u8 xs[i].b) ∧ (ocells xs)[i * 5 + 4]? = some (.int .i64 xs[i].im) := by
  induction xs with
  | nil => intro i h; simp at h
  | cons o r ih =>
    intro i h
    rw [ocells_cons]
    cases i with
    | zero => exact ⟨rfl, rfl, rfl, rfl, rfl⟩
    | succ i =>
      have := ih i (by simpa using h)
      rw [show (i + 1) * 5 = i * 5 + 1 + 1 + 1 + 1 + 1 by omega]
      simpa using this
theorem ocells_one (xs : List O) : ∀ u, u ∈ ocells xs → u.oneCell' = true := by
  intro u hu
  obtain ⟨o, _, h⟩ := List.mem_flatMap.1 hu
  simp at h
  rcases h with rfl | rfl | rfl | rfl | rfl <;> rfl
theorem ocells_at {w : World} {b f : Nat} (xs : List O) (h : ∀ (i : Nat) (h : i < xs.length), OAt w b (f + i * 5) xs[i]) : ∀ j u, (ocells xs)[j]? = some u → w.cell? ((⟨b, f, none⟩ : Addr).add j) = some u := by
  intro j u hu
  have hj : j < (ocells xs).length := by
    rcases Nat.lt_or_ge j (ocells xs).length with h' | h'
    · exact h'
    · rw [List.getElem?_eq_none h'] at hu; cases hu
  rw [ocells_len] at hj
  have hi : j / 5 < xs.length := by omega
  obtain ⟨c0, c1, c2, c3, c4⟩ := h (j / 5) hi
  obtain ⟨g0, g1, g2, g3, g4⟩ := ocells_get xs (j / 5) hi
  have hq : j = j / 5 * 5 + j % 5 := by omega
  have hm : j % 5 = 0 ∨ j % 5 = 1 ∨ j % 5 = 2 ∨ j % 5 = 3 ∨ j % 5 = 4 := by omega
  rw [add_at]
  generalize j / 5 = q at *
  rcases hm with hm | hm | hm | hm | hm
  · obtain rfl : j = q * 5 := by omega
    rw [g0] at hu; rw [← hu]; exact c0
  · obtain rfl : j = q * 5 + 1 := by omega
    rw [g1] at hu; rw [← hu, ← Nat.add_assoc]; exact c1
  · obtain rfl : j = q * 5 + 2 := by omega
    rw [g2] at hu; rw [← hu, ← Nat.add_assoc]; exact c2
  · obtain rfl : j = q * 5 + 3 := by omega
    rw [g3] at hu; rw [← hu, ← Nat.add_assoc]; exact c3
  · obtain rfl : j = q * 5 + 4 := by omega
    rw [g4] at hu; rw [← hu, ← Nat.add_assoc]; exact c4
/-- A row of operations is a list in memory. -/
theorem opsAt_row {w : World} {B c : Nat} {a : Option Addr} {xs : List O} (h : w.ownsRow B 40 5 (.slice a xs.length c) xs.length (ocells xs)) (hok : ∀ o, o ∈ xs → o.Ok) (hl : xs.length ≤ 8796093021952) : OpsAt w a xs := by
  refine ⟨hok, by omega, fun h0 => ?_⟩
  rcases h.2 with ⟨_, h1⟩ | ⟨g, cap, cur, h1, h2, h3, h4⟩
  · omega
  · injection h1 with e1 e2 e3
    subst e1
    have hc := h.cells (g := g) rfl
    refine ⟨g, 0, rfl, (h.lt g rfl).2, fun i hi => ?_⟩
    obtain ⟨g0, g1, g2, g3, g4⟩ := ocells_get xs i hi
    have k : ∀ j u, (ocells xs)[j]? = some u → w.cell? ⟨g, 0 + j, none⟩ = some u := fun j u hj => by have := hc j u hj; rw [add_at] at this; exact this
    exact ⟨k _ _ g0, k _ _ g1, k _ _ g2, k _ _ g3, k _ _ g4⟩

theorem grown_below {w w' : World} {row : Option Nat} (h : w.grownBy w' row) (hr : ∀ b, row = some b → w.heap.size ≤ b) : Below w.heap.size w w' :=
  ⟨h.os, h.tape, h.output, h.size, fun k hk => h.block k hk fun e => by have := hr k e.symm; omega⟩

/-- What make leaves. -/
structure Mk (w w1 : World) (n : Nat) : Prop where
  own : w1.ownsRow w.heap.size 40 5 (.slice (some ⟨w.heap.size, 0, none⟩) 0 (n + 1)) 0 []
  grown : w.grownBy w1 none
set_option maxHeartbeats 1000000 in
theorem copiedOps_some (a : Addr) (cap : Nat) (xs : List O) (w : World) (hl : xs.length ≤ 8796093021952) (hn : ∀ j u, (ocells xs)[j]? = some u → w.cell? (a.add j) = some u) :
    Calls Tryd.prog 20 #[.slice (some a) xs.length cap] w fun e w' => ∃ a c, e = .returned (.slice a xs.length c) ∧ w'.ownsRow w.heap.size 40 5 (.slice a xs.length c) xs.length (ocells xs) ∧ Below w.heap.size w w' := by
  obtain ⟨i0, hi, hi2⟩ := Option.map_eq_some_iff.1 info40
  simp only [Prod.mk.injEq] at hi2
  obtain ⟨hz0, hz1, hz2⟩ := hi2
  have HI : Hid (Tryd.prog.info? 40 = some i0 ∧ i0.zero = some (.agg #[.int .i8 0, .int .u8 0, .int .u8 0, .int .u8 0, .int .i64 0]) ∧ i0.size = 5 ∧ i0.bytes = 16) := ⟨hi, hz0, hz1, hz2⟩
  clear hi hz0 hz1 hz2
  have HN : Hid _ := hn
  clear hn
  have hlz : (xs.length : Int) ≤ 8796093021952 := by omega
  go_enter Tryd.func20, Tryd.ntmps20
  go_wp2_with (first
    | (at_make; refine wpList_make_own _ rfl _ _ 22 rfl w.heap.size 40 i0 (.agg #[.int .i8 0, .int .u8 0, .int .u8 0, .int .u8 0, .int .i64 0]) 5 Tryd.underlying22 HI.out.1 HI.out.2.1 HI.out.2.2.1 .i64 .i64 _ (xs.length + 1) rfl rfl (by omega) (by rw [HI.out.2.2.2]; omega) (by unfold maxLen; omega) (Nat.le_refl _) ?_; intro w1 hown1 hgrow1; have HM : Hid (Mk w w1 xs.length) := ⟨hown1, hgrow1⟩; clear hgrow1 hown1)
    | (at_builtin; refine wpList_append_own _ rfl (.tmp 8) (.tmp 9) 22 rfl w.heap.size 40 i0 (.agg #[.int .i8 0, .int .u8 0, .int .u8 0, .int .u8 0, .int .i64 0]) 5 16 Tryd.underlying22 HI.out.1 HI.out.2.1 HI.out.2.2.1 HI.out.2.2.2 rfl (by decide) _ _ _ rfl HM.out.own a xs.length cap (ocells xs) rfl (ocells_len xs) (fun j u hj => HM.out.grown.cell (HN.out j u hj) (by simp)) (ocells_one xs) (by unfold maxLen; omega) (by omega) (by have := HM.out.grown.size; omega) ?_; intro v' w2 hown2 hgrow2 hnil; have HF : Hid (w2.ownsRow w.heap.size 40 5 v' xs.length (ocells xs) ∧ w1.grownBy w2 (some w.heap.size)) := ⟨by have := hown2; simp only [Nat.zero_add, List.nil_append] at this; exact this, hgrow2⟩; clear hown2 hgrow2 hnil))
  go_ret
  obtain ⟨h1, h2⟩ := HF.out
  have hb : Below w.heap.size w w2 := (grown_below HM.out.grown (fun b hb => by cases hb)).grown h2 HM.out.grown.size (fun b hb => by cases hb; exact Nat.le_refl _)
  rcases h1.2 with ⟨rfl, h0⟩ | ⟨g, c, cur, rfl, _⟩
  · exact ⟨none, 0, by rw [h0]; rfl, by rw [h0] at h1 ⊢; exact h1, hb⟩
  · exact ⟨_, _, rfl, h1, hb⟩
set_option maxHeartbeats 1000000 in
theorem copiedOps_none (cap : Nat) (w : World) :
    Calls Tryd.prog 20 #[.slice none 0 cap] w fun e w' => ∃ a c, e = .returned (.slice a 0 c) ∧ w'.ownsRow w.heap.size 40 5 (.slice a 0 c) 0 [] ∧ Below w.heap.size w w' := by
  obtain ⟨i0, hi, hi2⟩ := Option.map_eq_some_iff.1 info40
  simp only [Prod.mk.injEq] at hi2
  obtain ⟨hz0, hz1, hz2⟩ := hi2
  have HI : Hid (Tryd.prog.info? 40 = some i0 ∧ i0.zero = some (.agg #[.int .i8 0, .int .u8 0, .int .u8 0, .int .u8 0, .int .i64 0]) ∧ i0.size = 5 ∧ i0.bytes = 16) := ⟨hi, hz0, hz1, hz2⟩
  clear hi hz0 hz1 hz2
  go_enter Tryd.func20, Tryd.ntmps20
  go_wp2_with (first
    | (at_make; refine wpList_make_own _ rfl _ _ 22 rfl w.heap.size 40 i0 (.agg #[.int .i8 0, .int .u8 0, .int .u8 0, .int .u8 0, .int .i64 0]) 5 Tryd.underlying22 HI.out.1 HI.out.2.1 HI.out.2.2.1 .i64 .i64 _ 1 rfl rfl (by omega) (by rw [HI.out.2.2.2]; omega) (by unfold maxLen; omega) (Nat.le_refl _) ?_; intro w1 hown1 hgrow1; have HM : Hid (Mk w w1 0) := ⟨hown1, hgrow1⟩; clear hgrow1 hown1))
  go_ret
  exact ⟨_, _, rfl, HM.out.own, grown_below HM.out.grown (fun b hb => by cases hb)⟩
theorem copiedOps_any (ao : Option Addr) (cap : Nat) (xs : List O) (w : World) (h : OpsAt w ao xs) (hl : xs.length ≤ 8796093021952) :
    Calls Tryd.prog 20 #[.slice ao xs.length cap] w fun e w' => ∃ a c, e = .returned (.slice a xs.length c) ∧ w'.ownsRow w.heap.size 40 5 (.slice a xs.length c) xs.length (ocells xs) ∧ Below w.heap.size w w' := by
  rcases Nat.eq_zero_or_pos xs.length with h0 | h0
  · obtain rfl : xs = [] := List.eq_nil_of_length_eq_zero h0
    cases ao with
    | none => exact copiedOps_none cap w
    | some a => exact copiedOps_some a cap [] w hl fun j u hu => by simp [ocells] at hu
  · obtain ⟨b, f, rfl, _, hx⟩ := h.is h0
    exact copiedOps_some _ cap xs w hl (ocells_at xs hx)
end Go.Proofs.YtccakjijoadjkaaDoor.Op

namespace Go.Proofs.YtccakjijoadjkaaDoor.Op
open Go.ChangeShapes Go.WideShapes Go.ChangeAt Go.RowKit
set_option maxRecDepth 20000

theorem drewN_lk {B : Nat} {a w : World} (h : Below B a w) (n : Nat) : Below B a (w.drewN n) := ⟨h.os, h.tape, h.output, h.size, h.block⟩
set_option maxHeartbeats 1000000 in
theorem likeOps_any (ao bo : Option Addr) (c d : Nat) (xs : List O) (w : World) (h : OpsAt w ao xs) (h' : OpsAt w bo xs) :
    Calls Tryd.prog 26 #[.slice ao xs.length c, .slice bo xs.length d] w fun e w' => e = .returned (.bool true) ∧ Below w.heap.size w w' := by
  have HA : Hid (OpsAt w ao xs) := h
  have HB : Hid (OpsAt w bo xs) := h'
  have hlen := h.len
  clear h h'
  go_enter Tryd.func26, Tryd.ntmps26
  go_wp2
  go_loopw [5] (fun i wr => ∃ k : Nat, k ≤ xs.length ∧ i = .int .i64 k ∧ Below w.heap.size w wr) (fun i _ => xs.length - (intOf i).toNat)
  case atStart => exact ⟨0, by omega, rfl, Below.refl _ _⟩
  case round =>
    rename World => wr
    obtain ⟨k, hk, rfl, hbw⟩ := hrel
    by_cases hlt : k < xs.length
    · obtain ⟨b, f, rfl, hz, hx⟩ := HA.out.is (by omega)
      obtain ⟨b', f', rfl, hz', hx'⟩ := HB.out.is (by omega)
      obtain ⟨c0, c1, c2, c3, c4⟩ := (hx k hlt).below hbw hz
      obtain ⟨d0, d1, d2, d3, d4⟩ := (hx' k hlt).below hbw hz'
      clear hx hx' HA HB
      generalize xs[k] = o at *
      go_wp2
      go_quiet (fail)
      go_wp2
      go_roundw
      case rel => exact ⟨k + 1, by omega, by go_num, drewN_lk hbw nq⟩
      case measure => simp [intOf]; omega
    · obtain rfl : k = xs.length := by omega
      go_wp2
      go_ret
      exact ⟨rfl, hbw⟩
end Go.Proofs.YtccakjijoadjkaaDoor.Op

namespace Go.Proofs.YtccakjijoadjkaaDoor.Dp
open Go.ChangeShapes Go.WideShapes Go.ChangeAt Go.RowKit
open _root_.Go.Proofs.YtccakjijoadjkaaDoor.Op _root_.Go.Proofs.YtccakjijoadjkaaDoor.So
open _root_.Go.Proofs.YtccakjijoadjkaaDoor.Tb (Tab TabAt Bnds)
set_option maxRecDepth 20000

set_option maxHeartbeats 2000000 in
theorem same_any (a1 a2 : Option Addr) (n c1 c2 : Nat) (w : World) (hn : (n : Int) ≤ 100000000) (h : ∀ k, k < n → ∃ b1 b2 v, a1 = some ⟨b1, 0, none⟩ ∧ a2 = some ⟨b2, 0, none⟩ ∧ b1 < w.heap.size ∧ b2 < w.heap.size ∧ w.cell? ⟨b1, k, none⟩ = some (.int .i64 v) ∧ w.cell? ⟨b2, k, none⟩ = some (.int .i64 v)) :
    Calls Tryd.prog 25 #[.slice a1 n c1, .slice a2 n c2] w fun e w' => e = .returned (.bool true) ∧ Below w.heap.size w w' := by
  have HE : Hid (∀ k, k < n → ∃ b1 b2 v, a1 = some ⟨b1, 0, none⟩ ∧ a2 = some ⟨b2, 0, none⟩ ∧ b1 < w.heap.size ∧ b2 < w.heap.size ∧ w.cell? ⟨b1, k, none⟩ = some (.int .i64 v) ∧ w.cell? ⟨b2, k, none⟩ = some (.int .i64 v)) := h
  clear h
  go_enter Tryd.func25, Tryd.ntmps25
  go_wp2_with fail
  go_loopw [5] (fun i wr => ∃ (k q : Nat), k ≤ n ∧ i = .int .i64 k ∧ wr = w.drewN q) (fun i _ => n - (intOf i).toNat)
  case atStart => exact ⟨0, 0, by omega, rfl, rfl⟩
  case round =>
    rename World => wy
    obtain ⟨k, q, hk, rfl, rfl⟩ := hrel
    by_cases hlt : k < n
    · have j0 : (0 : Int) ≤ (k : Int) := by omega
      have j1 : (k : Int) < (n : Int) := by omega
      obtain ⟨b1, b2, v, rfl, rfl, l1, l2, f0, g0⟩ := HE.out k hlt
      clear HE
      have f0 : (w.drewN q).cell? _ = _ := f0
      have g0 : (w.drewN q).cell? _ = _ := g0
      have l1 : b1 < (w.drewN q).heap.size := l1
      have l2 : b2 < (w.drewN q).heap.size := l2
      generalize hWq : w.drewN q = W at *
      go_wp2_with fail
      go_quiet (fail)
      go_wp2_with fail
      go_roundw
      case rel => exact ⟨k + 1, q + nq, by omega, by go_num, by rw [← hWq]; simp⟩
      case measure => simp [intOf]; omega
    · have j1 : ¬ (k : Int) < (n : Int) := by omega
      go_wp2_with fail
      go_ret
      have B0 := Below.refl w.heap.size w
      exact ⟨rfl, B0.os, B0.tape, B0.output, B0.size, B0.block⟩
/-- The lists and the table that the statements wake by. -/
def hl1 : List O := [⟨2, 1, 2, 3, 0⟩, ⟨12, 4, 1, 1, 0⟩, ⟨17, 0, 4, 0, 0⟩]
def hl2 : List O := [⟨2, 1, 2, 3, 0⟩, ⟨15, 4, 5, 0, 0⟩, ⟨17, 0, 4, 0, 0⟩]
def hwt : Tab := ⟨fun _ => 1, fun k => if k = 1 then 3 else if k = 2 then 2 else 1, fun _ => 1, 1⟩
theorem hl1_ok : ∀ o ∈ hl1, o.Ok := fun o h => by
  simp only [hl1, List.mem_cons, List.not_mem_nil, or_false] at h
  rcases h with rfl | rfl | rfl <;> constructor <;> decide
theorem hl2_ok : ∀ o ∈ hl2, o.Ok := fun o h => by
  simp only [hl2, List.mem_cons, List.not_mem_nil, or_false] at h
  rcases h with rfl | rfl | rfl <;> constructor <;> decide
theorem hl1_lis : lisE hwt hl1 = 0 := by decide
theorem hl2_lis : lisE hwt hl2 = 0 := by decide
theorem hl1_h : hts (latN hwt hl1) (ofE hwt hl1) 0 = 6 ∧ hts (latN hwt hl1) (ofE hwt hl1) 1 = 5 ∧ hts (latN hwt hl1) (ofE hwt hl1) 2 = 2 := ⟨by kernel_rfl, by kernel_rfl, by kernel_rfl⟩
theorem hl2_h : hts (latN hwt hl2) (ofE hwt hl2) 0 = 1 ∧ hts (latN hwt hl2) (ofE hwt hl2) 1 = 4 ∧ hts (latN hwt hl2) (ofE hwt hl2) 2 = 2 := ⟨by kernel_rfl, by kernel_rfl, by kernel_rfl⟩
abbrev hl1C : Array Value := #[.int .i8 2, .int .u8 1, .int .u8 2, .int .u8 3, .int .i64 0, .int .i8 12, .int .u8 4, .int .u8 1, .int .u8 1, .int .i64 0, .int .i8 17, .int .u8 0, .int .u8 4, .int .u8 0, .int .i64 0]
abbrev hl2C : Array Value := #[.int .i8 2, .int .u8 1, .int .u8 2, .int .u8 3, .int .i64 0, .int .i8 15, .int .u8 4, .int .u8 5, .int .u8 0, .int .i64 0, .int .i8 17, .int .u8 0, .int .u8 4, .int .u8 0, .int .i64 0]
theorem hl1_at {w : World} {b : Nat} (h : At w b hl1C) : OpsAt w (some ⟨b, 0, none⟩) hl1 := by
  refine ⟨hl1_ok, by decide, fun _ => ⟨b, 0, rfl, h.lt, fun i hi => ?_⟩⟩
  have hi : i < 3 := hi
  match i, hi with
  | 0, _ => exact ⟨h.c 0 _ rfl, h.c 1 _ rfl, h.c 2 _ rfl, h.c 3 _ rfl, h.c 4 _ rfl⟩
  | 1, _ => exact ⟨h.c 5 _ rfl, h.c 6 _ rfl, h.c 7 _ rfl, h.c 8 _ rfl, h.c 9 _ rfl⟩
  | 2, _ => exact ⟨h.c 10 _ rfl, h.c 11 _ rfl, h.c 12 _ rfl, h.c 13 _ rfl, h.c 14 _ rfl⟩
theorem hl2_at {w : World} {b : Nat} (h : At w b hl2C) : OpsAt w (some ⟨b, 0, none⟩) hl2 := by
  refine ⟨hl2_ok, by decide, fun _ => ⟨b, 0, rfl, h.lt, fun i hi => ?_⟩⟩
  have hi : i < 3 := hi
  match i, hi with
  | 0, _ => exact ⟨h.c 0 _ rfl, h.c 1 _ rfl, h.c 2 _ rfl, h.c 3 _ rfl, h.c 4 _ rfl⟩
  | 1, _ => exact ⟨h.c 5 _ rfl, h.c 6 _ rfl, h.c 7 _ rfl, h.c 8 _ rfl, h.c 9 _ rfl⟩
  | 2, _ => exact ⟨h.c 10 _ rfl, h.c 11 _ rfl, h.c 12 _ rfl, h.c 13 _ rfl, h.c 14 _ rfl⟩
theorem ord3 {H g : Nat → Int} (h0 : H 0 = 1) (h1 : H 1 = 4) (h2 : H 2 = 2) (o : OrdF 3 H g) : g 0 = 1 ∧ g 1 = 2 ∧ g 2 = 0 := by
  have r0 := o.rg 0 (by omega)
  have r1 := o.rg 1 (by omega)
  have r2 := o.rg 2 (by omega)
  have s1 := o.st 0 1 (by omega) (by omega)
  have s2 := o.st 1 2 (by omega) (by omega)
  have s3 := o.st 0 2 (by omega) (by omega)
  have c0 : g 0 = 0 ∨ g 0 = 1 ∨ g 0 = 2 := by omega
  have c1 : g 1 = 0 ∨ g 1 = 1 ∨ g 1 = 2 := by omega
  have c2 : g 2 = 0 ∨ g 2 = 1 ∨ g 2 = 2 := by omega
  clear r0 r1 r2 o
  rcases c0 with e | e | e <;> rcases c1 with f | f | f <;> rcases c2 with k | k | k <;> first
    | exact ⟨e, f, k⟩
    | (exfalso; simp [Ahd, e, f, k, h0, h1, h2] at s1 s2 s3)
/-- Three numbers at the beginning of a block. -/
def R3 (W : World) (b : Nat) (x y z : Int) : Prop := b < W.heap.size ∧ W.cell? ⟨b, 0, none⟩ = some (.int .i64 x) ∧ W.cell? ⟨b, 1, none⟩ = some (.int .i64 y) ∧ W.cell? ⟨b, 2, none⟩ = some (.int .i64 z)
theorem R3.up {W W' : World} {b : Nat} {x y z : Int} (h : R3 W b x y z) (g : Below W.heap.size W W') : R3 W' b x y z :=
  ⟨Nat.lt_of_lt_of_le h.1 g.size, by rw [(bcell g).1 _ _ h.1]; exact h.2.1, by rw [(bcell g).1 _ _ h.1]; exact h.2.2.1, by rw [(bcell g).1 _ _ h.1]; exact h.2.2.2⟩
theorem same3 (W : World) (b : Nat) (x y z : Int) (t : TypeId) (h : R3 W b x y z) : Calls Tryd.prog 25 #[.slice (some ⟨b, 0, none⟩) 3 3, .slice (some ⟨W.heap.size, 0, none⟩) 3 3] (W.alloc (.cells #[.int .i64 x, .int .i64 y, .int .i64 z] t)) fun e w' => e = .returned (.bool true) ∧ Below W.heap.size W w' := by
  have g : Below W.heap.size W (W.alloc (.cells #[.int .i64 x, .int .i64 y, .int .i64 z] t)) := (Below.refl _ _).alloc (Nat.le_refl _) _
  have a := At.new W #[.int .i64 x, .int .i64 y, .int .i64 z] t
  obtain ⟨h1, h2, h3, h4⟩ := h.up g
  refine (same_any _ _ 3 3 3 _ (by omega) fun k hk => ?_).mono fun e w' h' => ⟨h'.1, g.trans (h'.2.mono g.size)⟩
  match k, hk with
  | 0, _ => exact ⟨b, W.heap.size, x, rfl, rfl, h1, a.lt, h2, a.c 0 _ rfl⟩
  | 1, _ => exact ⟨b, W.heap.size, y, rfl, rfl, h1, a.lt, h3, a.c 1 _ rfl⟩
  | 2, _ => exact ⟨b, W.heap.size, z, rfl, rfl, h1, a.lt, h4, a.c 2 _ rfl⟩
abbrev hwV : Value := .agg #[.int .i64 1, .int .i64 1, .int .i64 1, .int .i64 1, .int .i64 1, .int .i64 3, .int .i64 2, .int .i64 1, .int .i64 1, .int .i64 1, .int .i64 1, .int .i64 1, .int .i64 1]
abbrev hwC : Array Value := #[.int .i64 1, .int .i64 1, .int .i64 1, .int .i64 1, .int .i64 1, .int .i64 3, .int .i64 2, .int .i64 1, .int .i64 1, .int .i64 1, .int .i64 1, .int .i64 1, .int .i64 1]
theorem h_three (w : World) (b : Nat) (h : At w b hl1C) (hG : Bnds w) : Calls Tryd.prog 21 #[.slice (some ⟨b, 0, none⟩) 3 3, hwV] w fun e w' => ∃ hb, e = .returned (.tuple #[.slice (some ⟨hb, 0, none⟩) 3 3, .int .i64 0]) ∧ R3 w' hb 6 5 2 ∧ Below w.heap.size w w' := by
  refine (hof_ok (some ⟨b, 0, none⟩) 3 hl1 hwt w (hl1_at h) (by decide) hG hl1_lis).mono ?_
  rintro e w' ⟨hb, rfl, hi, -, hu⟩
  obtain ⟨h0, h1, h2⟩ := hl1_h
  exact ⟨hb, rfl, ⟨hi.lt, by rw [hi.c 0 (by decide), h0], by rw [hi.c 1 (by decide), h1], by rw [hi.c 2 (by decide), h2]⟩, hu⟩
theorem o_three (w : World) (b : Nat) (h : At w b hl2C) (hG : Bnds w) : Calls Tryd.prog 23 #[.slice (some ⟨b, 0, none⟩) 3 3, hwV] w fun e w' => ∃ hb, e = .returned (.tuple #[.slice (some ⟨hb, 0, none⟩) 3 3, .int .i64 0]) ∧ R3 w' hb 1 2 0 ∧ Below w.heap.size w w' := by
  refine (hord_ok (some ⟨b, 0, none⟩) 3 3 hwt (hts (latN hwt hl2) (ofE hwt hl2)) w (by decide) fun W hW => hof_ok (some ⟨b, 0, none⟩) 3 hl2 hwt W ((hl2_at h).below hW) (by decide) (hG.below hW hG.big) hl2_lis).mono ?_
  rintro e w' ⟨nb, g, rfl, hi, ho, -, hu⟩
  obtain ⟨h0, h1, h2⟩ := hl2_h
  obtain ⟨g0, g1, g2⟩ := ord3 h0 h1 h2 ho
  exact ⟨nb, rfl, ⟨hi.lt, by rw [hi.c 0 (by decide), g0], by rw [hi.c 1 (by decide), g1], by rw [hi.c 2 (by decide), g2]⟩, hu⟩
set_option maxHeartbeats 8000000 in
theorem wakes12_any (w : World) (hG : Bnds w) : Calls Tryd.prog 19 #[] w fun e w' => e = .returned (.bool true) ∧ Below w.heap.size w w' := by
  have HGi : Hid (Bnds w) := hG
  have HF : Hid (∀ W b, Below w.heap.size w W → At W b hl1C → Calls Tryd.prog 21 #[.slice (some ⟨b, 0, none⟩) 3 3, hwV] W fun e w' => ∃ hb, e = .returned (.tuple #[.slice (some ⟨hb, 0, none⟩) 3 3, .int .i64 0]) ∧ R3 w' hb 6 5 2 ∧ Below W.heap.size W w') := fun W b hb h => h_three W b h (HGi.out.below hb HGi.out.big)
  have HO : Hid (∀ W b, Below w.heap.size w W → At W b hl2C → Calls Tryd.prog 23 #[.slice (some ⟨b, 0, none⟩) 3 3, hwV] W fun e w' => ∃ hb, e = .returned (.tuple #[.slice (some ⟨hb, 0, none⟩) 3 3, .int .i64 0]) ∧ R3 w' hb 1 2 0 ∧ Below W.heap.size W w') := fun W b hb h => o_three W b h (HGi.out.below hb HGi.out.big)
  have HSm : Hid (∀ W b x y z, R3 W b x y z → Calls Tryd.prog 25 #[.slice (some ⟨b, 0, none⟩) 3 3, .slice (some ⟨W.heap.size, 0, none⟩) 3 3] (W.alloc (.cells #[.int .i64 x, .int .i64 y, .int .i64 z] 3)) fun e w' => e = .returned (.bool true) ∧ Below W.heap.size W w') := fun W b x y z h => same3 W b x y z 3 h
  clear hG HGi
  go_enter Tryd.func19, Tryd.ntmps19
  have HB0 : Hid (At ((w.alloc (.cells hwC 25)).alloc (.cells hl1C 40)) (w.heap.size + 1) hl1C ∧ At ((w.alloc (.cells hwC 25)).alloc (.cells hl1C 40)) w.heap.size hwC ∧ Below w.heap.size w ((w.alloc (.cells hwC 25)).alloc (.cells hl1C 40))) := by
    have a1 := At.new w hwC 25
    have a2 := At.new (w.alloc (.cells hwC 25)) hl1C 40
    rw [show (w.alloc (.cells hwC 25)).heap.size = w.heap.size + 1 by simp] at a2
    exact ⟨a2, a1.below ((Below.refl _ _).alloc (Nat.le_refl _) _) a1.lt, by go_grown⟩
  go_upto_region 3 with fail
  generalize (w.alloc (.cells hwC 25)).alloc (.cells hl1C 40) = W0 at *
  have tf := HB0.out.2.1
  have tf0 := tf.c 0 _ rfl; have tf1 := tf.c 1 _ rfl; have tf2 := tf.c 2 _ rfl; have tf3 := tf.c 3 _ rfl; have tf4 := tf.c 4 _ rfl; have tf5 := tf.c 5 _ rfl; have tf6 := tf.c 6 _ rfl; have tf7 := tf.c 7 _ rfl; have tf8 := tf.c 8 _ rfl; have tf9 := tf.c 9 _ rfl; have tf10 := tf.c 10 _ rfl; have tf11 := tf.c 11 _ rfl; have tf12 := tf.c 12 _ rfl; have tfl := tf.lt
  clear tf
  go_upto_region 4 with (first
    | (go_at_call 21; refine Calls.mono (HF.out _ _ HB0.out.2.2 HB0.out.1) ?_; rintro e w1 ⟨hb, rfl, hr, b1⟩; have HB1 : Hid (At w1 (w.heap.size + 1) hl1C ∧ At w1 w.heap.size hwC ∧ Below w.heap.size w w1 ∧ R3 w1 hb 6 5 2) := ⟨HB0.out.1.below b1 HB0.out.1.lt, HB0.out.2.1.below b1 HB0.out.2.1.lt, HB0.out.2.2.trans (b1.mono HB0.out.2.2.size), hr⟩; clear b1 hr HB0 HF tf0 tf1 tf2 tf3 tf4 tf5 tf6 tf7 tf8 tf9 tf10 tf11 tf12 tfl))
  have tf := HB1.out.2.1
  have tf0 := tf.c 0 _ rfl; have tf1 := tf.c 1 _ rfl; have tf2 := tf.c 2 _ rfl; have tf3 := tf.c 3 _ rfl; have tf4 := tf.c 4 _ rfl; have tf5 := tf.c 5 _ rfl; have tf6 := tf.c 6 _ rfl; have tf7 := tf.c 7 _ rfl; have tf8 := tf.c 8 _ rfl; have tf9 := tf.c 9 _ rfl; have tf10 := tf.c 10 _ rfl; have tf11 := tf.c 11 _ rfl; have tf12 := tf.c 12 _ rfl; have tfl := tf.lt
  have lf := HB1.out.1
  have lf0 := lf.c 0 _ rfl; have lf1 := lf.c 1 _ rfl; have lf2 := lf.c 2 _ rfl; have lf3 := lf.c 3 _ rfl; have lf4 := lf.c 4 _ rfl; have lf10 := lf.c 10 _ rfl; have lf11 := lf.c 11 _ rfl; have lf12 := lf.c 12 _ rfl; have lf13 := lf.c 13 _ rfl; have lf14 := lf.c 14 _ rfl; have lfl := lf.lt
  clear tf lf
  go_cut [5, 6] (fun s5 s6 wc => ∃ nb, s5 = .slice (some ⟨nb, 0, none⟩) 3 3 ∧ s6 = .int .i64 0 ∧ R3 wc hb 6 5 2 ∧ R3 wc nb 1 2 0 ∧ Below w.heap.size w wc)
  case first =>
    have HX : Hid (∀ w', Below w1.heap.size w1 w' → w'.cell? ⟨w.heap.size + 1, 0, none⟩ = some (.int .i8 2) ∧ w'.cell? ⟨w.heap.size + 1, 1, none⟩ = some (.int .u8 1) ∧ w'.cell? ⟨w.heap.size + 1, 2, none⟩ = some (.int .u8 2) ∧ w'.cell? ⟨w.heap.size + 1, 3, none⟩ = some (.int .u8 3) ∧ w'.cell? ⟨w.heap.size + 1, 4, none⟩ = some (.int .i64 0) ∧ w'.cell? ⟨w.heap.size + 1, 10, none⟩ = some (.int .i8 17) ∧ w'.cell? ⟨w.heap.size + 1, 11, none⟩ = some (.int .u8 0) ∧ w'.cell? ⟨w.heap.size + 1, 12, none⟩ = some (.int .u8 4) ∧ w'.cell? ⟨w.heap.size + 1, 13, none⟩ = some (.int .u8 0) ∧ w'.cell? ⟨w.heap.size + 1, 14, none⟩ = some (.int .i64 0) ∧ w'.cell? ⟨w.heap.size, 0, none⟩ = some (.int .i64 1) ∧ w'.cell? ⟨w.heap.size, 1, none⟩ = some (.int .i64 1) ∧ w'.cell? ⟨w.heap.size, 2, none⟩ = some (.int .i64 1) ∧ w'.cell? ⟨w.heap.size, 3, none⟩ = some (.int .i64 1) ∧ w'.cell? ⟨w.heap.size, 4, none⟩ = some (.int .i64 1) ∧ w'.cell? ⟨w.heap.size, 5, none⟩ = some (.int .i64 3) ∧ w'.cell? ⟨w.heap.size, 6, none⟩ = some (.int .i64 2) ∧ w'.cell? ⟨w.heap.size, 7, none⟩ = some (.int .i64 1) ∧ w'.cell? ⟨w.heap.size, 8, none⟩ = some (.int .i64 1) ∧ w'.cell? ⟨w.heap.size, 9, none⟩ = some (.int .i64 1) ∧ w'.cell? ⟨w.heap.size, 10, none⟩ = some (.int .i64 1) ∧ w'.cell? ⟨w.heap.size, 11, none⟩ = some (.int .i64 1) ∧ w'.cell? ⟨w.heap.size, 12, none⟩ = some (.int .i64 1)) := fun w' g => by
      have a := HB1.out.1.below g HB1.out.1.lt
      have b := HB1.out.2.1.below g HB1.out.2.1.lt
      exact ⟨a.c 0 _ rfl, a.c 1 _ rfl, a.c 2 _ rfl, a.c 3 _ rfl, a.c 4 _ rfl, a.c 10 _ rfl, a.c 11 _ rfl, a.c 12 _ rfl, a.c 13 _ rfl, a.c 14 _ rfl, b.c 0 _ rfl, b.c 1 _ rfl, b.c 2 _ rfl, b.c 3 _ rfl, b.c 4 _ rfl, b.c 5 _ rfl, b.c 6 _ rfl, b.c 7 _ rfl, b.c 8 _ rfl, b.c 9 _ rfl, b.c 10 _ rfl, b.c 11 _ rfl, b.c 12 _ rfl⟩
    have HO1 : Hid (Calls Tryd.prog 23 #[.slice (some ⟨w1.heap.size, 0, none⟩) 3 3, hwV] (w1.alloc (.cells hl2C 40)).drew fun e w' => ∃ nb, e = .returned (.tuple #[.slice (some ⟨nb, 0, none⟩) 3 3, .int .i64 0]) ∧ R3 w' hb 6 5 2 ∧ R3 w' nb 1 2 0 ∧ Below w.heap.size w w' ∧ Below w1.heap.size w1 w') := by
      have g : Below w1.heap.size w1 (w1.alloc (.cells hl2C 40)).drew := ((Below.refl _ _).alloc (Nat.le_refl _) _).drew
      have a := At.new w1 hl2C 40
      refine (HO.out _ w1.heap.size (HB1.out.2.2.1.trans (g.mono HB1.out.2.2.1.size)) ⟨a.c, a.f, a.lt⟩).mono ?_
      rintro e w' ⟨nb, rfl, hr, b2⟩
      have g2 := g.trans (b2.mono g.size)
      exact ⟨nb, rfl, HB1.out.2.2.2.up g2, hr, HB1.out.2.2.1.trans (g2.mono HB1.out.2.2.1.size), g2⟩
    clear HO
    go_region_held3 (fun w' => w'.cell? ⟨w.heap.size + 1, 0, none⟩ = some (.int .i8 2) ∧ w'.cell? ⟨w.heap.size + 1, 1, none⟩ = some (.int .u8 1) ∧ w'.cell? ⟨w.heap.size + 1, 2, none⟩ = some (.int .u8 2) ∧ w'.cell? ⟨w.heap.size + 1, 3, none⟩ = some (.int .u8 3) ∧ w'.cell? ⟨w.heap.size + 1, 4, none⟩ = some (.int .i64 0) ∧ w'.cell? ⟨w.heap.size + 1, 10, none⟩ = some (.int .i8 17) ∧ w'.cell? ⟨w.heap.size + 1, 11, none⟩ = some (.int .u8 0) ∧ w'.cell? ⟨w.heap.size + 1, 12, none⟩ = some (.int .u8 4) ∧ w'.cell? ⟨w.heap.size + 1, 13, none⟩ = some (.int .u8 0) ∧ w'.cell? ⟨w.heap.size + 1, 14, none⟩ = some (.int .i64 0) ∧ w'.cell? ⟨w.heap.size, 0, none⟩ = some (.int .i64 1) ∧ w'.cell? ⟨w.heap.size, 1, none⟩ = some (.int .i64 1) ∧ w'.cell? ⟨w.heap.size, 2, none⟩ = some (.int .i64 1) ∧ w'.cell? ⟨w.heap.size, 3, none⟩ = some (.int .i64 1) ∧ w'.cell? ⟨w.heap.size, 4, none⟩ = some (.int .i64 1) ∧ w'.cell? ⟨w.heap.size, 5, none⟩ = some (.int .i64 3) ∧ w'.cell? ⟨w.heap.size, 6, none⟩ = some (.int .i64 2) ∧ w'.cell? ⟨w.heap.size, 7, none⟩ = some (.int .i64 1) ∧ w'.cell? ⟨w.heap.size, 8, none⟩ = some (.int .i64 1) ∧ w'.cell? ⟨w.heap.size, 9, none⟩ = some (.int .i64 1) ∧ w'.cell? ⟨w.heap.size, 10, none⟩ = some (.int .i64 1) ∧ w'.cell? ⟨w.heap.size, 11, none⟩ = some (.int .i64 1) ∧ w'.cell? ⟨w.heap.size, 12, none⟩ = some (.int .i64 1))
      (first | exact HX.out _ HB2.out.2.2.2 | (refine HX.out _ ?_; go_grown; done) | go_keep)
      (first | (go_at_call 23; refine Calls.mono HO1.out ?_; rintro e w2 ⟨nb, rfl, hr1, hr2, hr3, hr4⟩; have HB2 : Hid (R3 w2 hb 6 5 2 ∧ R3 w2 nb 1 2 0 ∧ Below w.heap.size w w2 ∧ Below w1.heap.size w1 w2) := ⟨hr1, hr2, hr3, hr4⟩; clear hr1 hr2 hr3 hr4 HO1))
    all_goals
      go_wp2_with fail
      go_meet
      case rel => exact ⟨nb, rfl, rfl, HB2.out.1, HB2.out.2.1, HB2.out.2.2.1⟩
  case rest =>
    obtain ⟨nb, rfl, rfl, h1, h2, h3⟩ := hcut
    have HR : Hid (R3 wc hb 6 5 2 ∧ R3 wc nb 1 2 0 ∧ Below w.heap.size w wc) := ⟨h1, h2, h3⟩
    clear h1 h2 h3 HB1 HO lf0 lf1 lf2 lf3 lf4 lf10 lf11 lf12 lf13 lf14 lfl tf0 tf1 tf2 tf3 tf4 tf5 tf6 tf7 tf8 tf9 tf10 tf11 tf12 tfl
    have HS1 : Hid (Calls Tryd.prog 25 #[.slice (some ⟨hb, 0, none⟩) 3 3, .slice (some ⟨wc.heap.size, 0, none⟩) 3 3] (wc.alloc (.cells #[.int .i64 6, .int .i64 5, .int .i64 2] 3)) fun e w' => e = .returned (.bool true) ∧ R3 w' nb 1 2 0 ∧ Below w.heap.size w w') := (HSm.out wc hb 6 5 2 HR.out.1).mono fun e w' h => ⟨h.1, HR.out.2.1.up h.2, HR.out.2.2.trans (h.2.mono HR.out.2.2.size)⟩
    have HS2 : Hid (∀ W, R3 W nb 1 2 0 → Calls Tryd.prog 25 #[.slice (some ⟨nb, 0, none⟩) 3 3, .slice (some ⟨W.heap.size, 0, none⟩) 3 3] (W.alloc (.cells #[.int .i64 1, .int .i64 2, .int .i64 0] 3)) fun e w' => e = .returned (.bool true) ∧ Below W.heap.size W w') := fun W h => HSm.out W nb 1 2 0 h
    clear HSm HR
    go_wp2_with (first
      | (go_at_call 25; refine Calls.mono HS1.out ?_; rintro e w3 ⟨rfl, h1, h2⟩; have HR2 : Hid (R3 w3 nb 1 2 0 ∧ Below w.heap.size w w3) := ⟨h1, h2⟩; clear h1 h2 HS1)
      | (go_at_call 25; refine Calls.mono (HS2.out w3 HR2.out.1) ?_; rintro e w4 ⟨rfl, b4⟩; have HR3 : Hid (Below w.heap.size w w4) := HR2.out.2.trans (b4.mono HR2.out.2.size); clear b4 HR2))
    go_ret
    exact ⟨rfl, HR3.out⟩
end Go.Proofs.YtccakjijoadjkaaDoor.Dp

namespace Go.Proofs.YtccakjijoadjkaaDoor.Dp
open Go.ChangeShapes Go.WideShapes Go.ChangeAt Go.RowKit
open _root_.Go.Proofs.YtccakjijoadjkaaDoor.Op _root_.Go.Proofs.YtccakjijoadjkaaDoor.So
open _root_.Go.Proofs.YtccakjijoadjkaaDoor.Tb (Tab TabAt Bnds)
set_option maxRecDepth 20000

theorem clV_lat : ∀ d : Nat, 1 ≤ d → d ≤ 17 → (clV (d : Int)).toNat = if 15 ≤ (d : Int) then 2 else if 12 ≤ (d : Int) then 1 else 0
  | 0, h, _ => absurd h (by decide)
  | 1, _, _ => by decide
  | 2, _, _ => by decide
  | 3, _, _ => by decide
  | 4, _, _ => by decide
  | 5, _, _ => by decide
  | 6, _, _ => by decide
  | 7, _, _ => by decide
  | 8, _, _ => by decide
  | 9, _, _ => by decide
  | 10, _, _ => by decide
  | 11, _, _ => by decide
  | 12, _, _ => by decide
  | 13, _, _ => by decide
  | 14, _, _ => by decide
  | 15, _, _ => by decide
  | 16, _, _ => by decide
  | 17, _, _ => by decide
  | _ + 18, _, h => absurd h (by omega)
theorem updI_twice (L : Nat → Int) (k : Nat) (v u : Int) : updI (updI L k v) k u = updI L k u := by
  funext j
  unfold updI
  split <;> rfl
theorem latO_V (t : Tab) {o : O} (h : okL o = true) : t.l (clV o.op).toNat = latV t o.op := by
  unfold okL at h
  simp only [Bool.and_eq_true, decide_eq_true_eq] at h
  obtain ⟨d, hd⟩ : ∃ d : Nat, o.op = d := ⟨o.op.toNat, by omega⟩
  unfold latV
  rw [hd, clV_lat d (by omega) (by omega)]
theorem ofRefN {ao : Option Addr} {cap : Nat} {xs : List O} {t : Tab} {w : World} (h : OpsAt w ao xs) (hq : lisE t xs = 0 → xs.length ≤ 200) : ∀ W, Below w.heap.size w W → Calls Tryd.prog 10 #[.slice ao xs.length cap, t.val] W (EdOut W (lisE t xs) (erE t xs (ofE t xs))) := fun W hb => by
  have e1 : erE t xs (ofE t xs) = erE t xs (ofD t xs xs.length) := by
    unfold erE
    by_cases he : lisE t xs = 0
    · obtain ⟨-, -, hok⟩ := lis_all he
      rw [if_pos he, if_pos he, ofD_eq t fun o ho => ⟨h.ok o ho, hok o ho⟩]
    · rw [if_neg he, if_neg he]
  rw [e1]
  exact refOf_any ao cap xs t W (h.below hb) hq
set_option maxHeartbeats 4000000 in
theorem refHof_no (ao : Option Addr) (cap : Nat) (xs : List O) (t : Tab) (w : World) (h : OpsAt w ao xs) (he : ¬ lisE t xs = 0) :
    Calls Tryd.prog 22 #[.slice ao xs.length cap, t.val] w fun e w' => e = .returned (.tuple #[.slice none 0 0, .int .i64 (lisE t xs)]) ∧ Below w.heap.size w w' := by
  have HOf : Hid (∀ W, Below w.heap.size w W → Calls Tryd.prog 10 #[.slice ao xs.length cap, t.val] W (EdOut W (lisE t xs) (erE t xs (ofE t xs)))) := ofRefN h fun e => absurd e he
  generalize erE t xs (ofE t xs) = es at *
  generalize lisE t xs = er at *
  clear h
  unfold Tab.val at *
  go_enter Tryd.func22, Tryd.ntmps22
  go_wp2_with (first
    | (go_at_call 10; refine Calls.mono (HOf.out _ (by go_grown)) ?_; rintro e w1 ⟨a1, c1, rfl, o1, b1⟩; have HT : Hid (Tc w w1 t) := Tc.start w t rfl b1; clear o1 b1 HOf))
  go_ret2
  exact ⟨rfl, HT.out.up⟩
set_option maxHeartbeats 8000000 in
theorem refHof_ok (ao : Option Addr) (cap : Nat) (xs : List O) (t : Tab) (w : World) (h : OpsAt w ao xs) (hq : xs.length ≤ 200) (he : lisE t xs = 0) :
    Calls Tryd.prog 22 #[.slice ao xs.length cap, t.val] w (HtOut w xs.length (hts (latN t xs) (ofE t xs))) := by
  have HOf : Hid (∀ W, Below w.heap.size w W → Calls Tryd.prog 10 #[.slice ao xs.length cap, t.val] W (EdOut W 0 (ofE t xs))) := fun W hb => by
    have := ofRefN (cap := cap) (t := t) h (fun _ => hq) W hb
    unfold erE at this
    rw [if_pos he, he] at this
    exact this
  obtain ⟨ht, hn, hok⟩ := lis_all he
  have HEO : Hid (EOk xs.length (ofE t xs)) := ofE_ok t xs (pts_ok t xs (fun o ho => ⟨h.ok o ho, okL_okO (hok o ho)⟩) ht)
  have HLn : Hid ((ofE t xs).length ≤ 100000000) := Nat.le_trans (withinE_len _ _ _ hn) (by omega)
  have HCl : Hid (∀ d W, Calls Tryd.prog 46 #[.int .i8 d] W fun e w' => e = .returned (.tuple #[.int .i64 (clV d), .bool (clB d)]) ∧ Below W.heap.size W w') := fun d W => refClass_any d W
  have HLi : Hid (∀ i, i < xs.length → 1 ≤ latN t xs i ∧ latN t xs i ≤ 8) := fun i hi => by rw [latN_at t hi]; exact latV_in ht _
  have HLv : Hid (∀ i (hi : i < xs.length), t.l (clV xs[i].op).toNat = latN t xs i) := fun i hi => by rw [latN_at t hi]; exact latO_V t (hok _ (List.getElem_mem hi))
  have HO : Hid (OpsAt w ao xs) := h
  have hn' : (xs.length : Int) ≤ 200 := by omega
  clear h hok he ht hn
  obtain ⟨es, hes⟩ : ∃ es, ofE t xs = es := ⟨_, rfl⟩
  rw [hes] at HOf HEO HLn ⊢
  clear hes
  obtain ⟨lat, hlat⟩ : ∃ lat, latN t xs = lat := ⟨_, rfl⟩
  rw [hlat] at HLi HLv ⊢
  clear hlat
  obtain ⟨N, hN⟩ : ∃ N, es.length = N := ⟨_, rfl⟩
  have HNl : Hid (es.length = N) := hN
  have hNb : (N : Int) ≤ 100000000 := by have := HLn.out; omega
  clear HLn hN
  have HOf2 : Hid (∀ W, Below w.heap.size w W → Calls Tryd.prog 10 #[.slice ao xs.length cap, t.val] W fun e w' => ∃ a c, e = .returned (.tuple #[.slice a N c, .int .i64 0]) ∧ EOwn W.heap.size w' a c es ∧ Below W.heap.size W w') := fun W hb => by
    have := HOf.out W hb
    rw [← HNl.out]; exact this
  clear HOf
  obtain ⟨i0, hi, hi2⟩ := Option.map_eq_some_iff.1 info3
  simp only [Prod.mk.injEq] at hi2
  obtain ⟨hz0, hz1, hz2⟩ := hi2
  have HI : Hid (Tryd.prog.info? 3 = some i0 ∧ i0.zero = some (.int .i64 0) ∧ i0.size = 1 ∧ i0.bytes = 8) := ⟨hi, hz0, hz1, hz2⟩
  clear hi hz0 hz1 hz2
  unfold Tab.val at *
  go_enter Tryd.func22, Tryd.ntmps22
  go_upto_region 5 with (first
    | (go_at_call 10; refine Calls.mono (HOf2.out _ (by go_grown)) ?_; rintro e w1 ⟨a1, cq, rfl, o1, b1⟩; have HT : Hid (Tc w w1 t ∧ EOwn (w.heap.size + 1) w1 a1 cq es ∧ w.heap.size < w1.heap.size) := ⟨Tc.start w t rfl b1, (by have := o1; simpa using this), (by have := b1.size; simp at this; omega)⟩; clear o1 b1 HOf2)
    | (at_make; refine wpList_make_row _ rfl _ _ 57 rfl 3 i0 (.int .i64 0) Tryd.underlying57 HI.out.1 HI.out.2.1 HI.out.2.2.1 rfl .i64 .i64 xs.length rfl rfl (by rw [HI.out.2.2.2]; omega) (by omega) ?_))
  have HS : Hid (Hs w (w1.alloc (.cells (madeCells #[.int .i64 0] xs.length) 3)) t w1.heap.size xs.length (fun _ => 0) a1 cq es) := hs_start HT.out.1 HT.out.2.1 HT.out.2.2
  generalize w1.alloc (.cells (madeCells #[.int .i64 0] xs.length) 3) = W0 at *
  generalize w1.heap.size = hb at *
  clear HT
  go_wp2_with fail
  go_loopw [9] (fun v wr => ∃ m : Nat, m ≤ xs.length ∧ v = .int .i64 ((m : Int) - 1) ∧ Hs w wr t hb xs.length (dh lat es xs.length (xs.length - m)) a1 cq es) (fun v _ => ((intOf v) + 1).toNat)
  case atStart => exact ⟨xs.length, Nat.le_refl _, by first | rfl | go_num, by rw [Nat.sub_self]; exact HS.out⟩
  case round =>
    rename World => wr
    obtain ⟨m, hm, rfl, hs⟩ := hrel
    have HQ : Hid (Hs w wr t hb xs.length (dh lat es xs.length (xs.length - m)) a1 cq es) := hs
    clear hs HS
    by_cases hm0 : m = 0
    · subst hm0
      have k1 : ¬ (0 : Int) ≤ ((0 : Nat) : Int) - 1 := by omega
      go_wp2_with fail
      go_ret2
      refine ⟨hb, rfl, HQ.out.ir.same fun i hi => ?_, Nat.le_of_lt HQ.out.hw, HQ.out.up⟩
      rw [Nat.sub_zero]
      exact dh_eq HEO.out i hi
    · obtain ⟨j, rfl⟩ : ∃ j, m = j + 1 := ⟨m - 1, by omega⟩
      have ej : ((j + 1 : Nat) : Int) - 1 = (j : Int) := by omega
      rw [ej]
      have j0 : (0 : Int) ≤ (j : Int) := by omega
      have j1 : (j : Int) < (xs.length : Int) := by omega
      have hlt : j < xs.length := by omega
      have HEnd : Hid (dh lat es xs.length (xs.length - j) = updI (dh lat es xs.length (xs.length - (j + 1))) j (dIn j (dh lat es xs.length (xs.length - (j + 1))) es (lat j))) := by
        show dh lat es xs.length (xs.length - j) = _
        have e1 : xs.length - j = (xs.length - (j + 1)) + 1 := by omega
        have e2 : xs.length - 1 - (xs.length - (j + 1)) = j := by omega
        rw [e1]
        show updI _ (xs.length - 1 - (xs.length - (j + 1))) _ = _
        rw [e2]
      have HDl : Hid (∀ i, j < i → i < xs.length → 1 ≤ dh lat es xs.length (xs.length - (j + 1)) i ∧ dh lat es xs.length (xs.length - (j + 1)) i ≤ 8 * (xs.length - i : Nat)) := fun i h1 h2 => dh_le HEO.out HLi.out (by omega) i (by omega) h2
      obtain ⟨D, hD⟩ : ∃ D, dh lat es xs.length (xs.length - (j + 1)) = D := ⟨_, rfl⟩
      rw [hD] at HEnd HDl HQ
      clear hD ej hm0
      have HIn : Hid (∀ k, 1 ≤ dIn j D (es.take k) (lat j) ∧ dIn j D (es.take k) (lat j) ≤ 1600) := fun k => by
        have h1 := HLi.out j hlt
        have h2 := dIn_ge j D (es.take k) (lat j)
        refine ⟨by omega, ?_⟩
        rcases dIn_ex j D (es.take k) (lat j) with h3 | ⟨e, he, hf, h3⟩
        · omega
        · have hm := List.mem_of_mem_take he
          have g2 := HEO.out.ft _ hm
          have g3 := HEO.out.tn _ hm
          obtain ⟨g4, g5⟩ := HEO.out.l0 _ hm
          have g6 := HDl.out e.t.toNat (by omega) (by omega)
          omega
      obtain ⟨b, f, rfl, hz2, hx⟩ := (HO.out.below HQ.out.up).is (by omega)
      obtain ⟨q0, q1, q2, q3, q4⟩ := hx j hlt
      have HLj : Hid (t.l (clV xs[j].op).toNat = lat j) := HLv.out j hlt
      have hc := clV_in xs[j].op
      have HC1 : Hid (∀ W, Calls Tryd.prog 46 #[.int .i8 xs[j].op] W fun e w' => e = .returned (.tuple #[.int .i64 (clV xs[j].op), .bool (clB xs[j].op)]) ∧ Below W.heap.size W w') := fun W => HCl.out _ W
      clear hx
      generalize clB xs[j].op = cb at *
      obtain ⟨c, hcn⟩ : ∃ n : Nat, clV xs[j].op = n := ⟨(clV xs[j].op).toNat, by omega⟩
      rw [hcn] at HC1 HLj hc
      have HLj : Hid (t.l c = lat j) := by have := HLj.out; rw [Int.toNat_natCast] at this; exact this
      clear hcn
      have c0 : (0 : Int) ≤ (c : Int) := by omega
      have c1 : (c : Int) < 4 := by omega
      have c2 : c < 4 := by omega
      clear hc
      generalize xs[j] = o at *
      go_upto_region 9 with (first
        | (go_at_call 46; refine Calls.mono (HC1.out _) ?_; rintro e w2 ⟨rfl, hb2⟩; have HQ2 : Hid (Hs w w2 t hb xs.length D a1 cq es) := HQ.out.next hb2; clear hb2 HC1 HQ q0 q1 q2 q3 q4 hz2))
      have tl := HQ2.out.t.cl c c2
      have tz := HQ2.out.t.lt
      have hcj := HQ2.out.ir.c j hlt
      have hfj := HQ2.out.ir.f j
      have hl := HQ2.out.ir.lt
      rw [HLj.out] at tl
      have HSt : Hid (Hs w (w2.setCell ⟨hb, j, none⟩ (.int .i64 (lat j))) t hb xs.length (updI D j (lat j)) a1 cq es) := HQ2.out.set hlt (lat j)
      go_upto_region 10 with fail
      generalize w2.setCell ⟨hb, j, none⟩ (.int .i64 (lat j)) = W2 at *
      clear HQ2 tl tz hcj hfj hl
      go_wp2_with fail
      go_loopw [12] (fun v wz => ∃ k : Nat, k ≤ N ∧ v = .int .i64 k ∧ Hs w wz t hb xs.length (updI D j (dIn j D (es.take k) (lat j))) a1 cq es) (fun v _ => N - (intOf v).toNat)
      case atStart => exact ⟨0, by omega, rfl, HSt.out⟩
      case round =>
        rename World => wz
        obtain ⟨k, hk, rfl, hs⟩ := hrel
        have HZ : Hid (Hs w wz t hb xs.length (updI D j (dIn j D (es.take k) (lat j))) a1 cq es) := hs
        clear hs HSt
        by_cases hlt2 : k < N
        · have k0 : (0 : Int) ≤ (k : Int) := by omega
          have k1 : (k : Int) < (N : Int) := by omega
          have hke : k < es.length := by rw [HNl.out]; omega
          obtain ⟨eb, rfl, l1, lb1, f0, f1, f2, f3, f4⟩ := eOwn_at HZ.out.es hke
          have HNx := dIn_take j D (lat j) es k hke
          have hm := List.getElem_mem hke
          have g1 := HEO.out.f0 _ hm
          have g2 := HEO.out.ft _ hm
          have g3 := HEO.out.tn _ hm
          obtain ⟨g4, g5⟩ := HEO.out.l0 _ hm
          obtain ⟨n1, n2⟩ := HIn.out k
          have HNx : Hid _ := HNx
          obtain ⟨mv, hmv⟩ : ∃ mv, dIn j D (es.take k) (lat j) = mv := ⟨_, rfl⟩
          rw [hmv] at HNx HZ n1 n2
          clear hm hmv
          generalize es[k] = x at *
          obtain ⟨xf, xt, xl, xd, xy⟩ := x
          by_cases hf : xf = (j : Int)
          · subst hf
            have g2 : (j : Int) < xt := g2
            have g3 : xt < (xs.length : Int) := g3
            have g4 : 0 ≤ xl := g4
            have g5 : xl ≤ 8 := g5
            obtain ⟨ti, rfl⟩ : ∃ ti : Nat, xt = ti := ⟨xt.toNat, by omega⟩
            have HNx : Hid (dIn j D (es.take (k + 1)) (lat j) = max mv (xl + D ti)) := by
              have h1 := HNx.out
              rw [if_pos rfl] at h1
              exact h1
            have t0 : (0 : Int) ≤ (ti : Int) := by omega
            have h34 := HDl.out ti (by omega) (by omega)
            have cf := HZ.out.ir.c j hlt
            have ct := HZ.out.ir.c ti (by omega)
            rw [updI_same] at cf
            rw [updI_other _ _ (by omega)] at ct
            have zf := HZ.out.ir.f j
            have hl := HZ.out.ir.lt
            have hneb : ¬ eb = hb := HZ.out.ne _ rfl
            have hG2 : D ti ≤ 1600 ∧ 1 ≤ D ti := by omega
            clear h34 g1
            have HSet : Hid (∀ v, Hs w (wz.setCell ⟨hb, j, none⟩ (.int .i64 v)).drew t hb xs.length (updI D j v) (some ⟨eb, 0, none⟩) cq es) := fun v => by
              have := (HZ.out.set hlt v).next ((Below.refl _ _).drew)
              rw [updI_twice] at this
              exact this
            obtain ⟨hG3, hG4⟩ := hG2
            go_upto_region 14 with fail
            by_cases hmx : mv < xl + D ti
            · have HV : Hid (max mv (xl + D ti) = xl + D ti) := by show max mv (xl + D ti) = xl + D ti; omega
              generalize hgt : D ti = gt at *
              go_region
              all_goals
                go_wp2_with fail
                go_roundw
                case rel => exact ⟨k + 1, by omega, by go_num, by rw [HNx.out, HV.out]; exact HSet.out _⟩
                case measure => simp [intOf]; omega
            · have HV : Hid (max mv (xl + D ti) = mv) := by show max mv (xl + D ti) = mv; omega
              generalize hgt : D ti = gt at *
              go_region
              all_goals
                go_wp2_with fail
                go_roundw
                case rel => exact ⟨k + 1, by omega, by go_num, by rw [HNx.out, HV.out]; exact HSet.out _⟩
                case measure => simp [intOf]; omega
          · have g1 : 0 ≤ xf := g1
            have HNx : Hid (dIn j D (es.take (k + 1)) (lat j) = mv) := by
              have h1 := HNx.out
              rw [if_neg hf] at h1
              exact h1
            have hfb : (xf == (j : Int)) = false := by simpa using hf
            go_wp2_with fail
            go_roundw
            case rel => exact ⟨k + 1, by omega, by go_num, by rw [HNx.out]; exact HZ.out⟩
            case measure => simp [intOf]; omega
        · obtain rfl : k = N := by omega
          have k1 : ¬ (k : Int) < (k : Int) := by omega
          have HFin : Hid (Hs w wz t hb xs.length (dh lat es xs.length (xs.length - j)) a1 cq es) := by
            show Hs w wz t hb xs.length (dh lat es xs.length (xs.length - j)) a1 cq es
            rw [HEnd.out]
            have := HZ.out
            rw [List.take_of_length_le (by rw [HNl.out]; omega)] at this
            exact this
          clear HZ
          go_wp2_with fail
          go_roundw
          case rel => exact ⟨j, by omega, by first | rfl | go_num, HFin.out⟩
          case measure => first | (simp [intOf]; done) | (simp [intOf]; omega)
end Go.Proofs.YtccakjijoadjkaaDoor.Dp

namespace Go.Proofs.YtccakjijoadjkaaDoor.Dp
open Go.ChangeShapes Go.WideShapes Go.ChangeAt Go.RowKit
open _root_.Go.Proofs.YtccakjijoadjkaaDoor.Op _root_.Go.Proofs.YtccakjijoadjkaaDoor.So
open _root_.Go.Proofs.YtccakjijoadjkaaDoor.Tb (Tab TabAt Bnds)
set_option maxRecDepth 20000

theorem rowBase {W : World} {B B' e s n : Nat} {v : Value} {xs : List Value} (h : W.ownsRow B e s v n xs) (hB : B' ≤ B) : W.ownsRow B' e s v n xs := by
  obtain ⟨h1, h2⟩ := h
  rcases h2 with h0 | ⟨g, cap, cur, e1, e2, e3⟩
  · exact ⟨h1, .inl h0⟩
  · exact ⟨h1, .inr ⟨g, cap, cur, e1, by omega, e3⟩⟩
theorem levN_len (H : Nat → Int) (x : Int) : ∀ n, (lev H x n).length ≤ n
  | 0 => Nat.le_refl _
  | n + 1 => by
    unfold lev
    rw [List.length_append]
    have := levN_len H x n
    split <;> simp <;> omega
theorem dOrd_len (H : Nat → Int) (n : Nat) (most : Int) : ∀ k, (dOrd H n most k).length ≤ k * n
  | 0 => by simp [dOrd]
  | k + 1 => by
    unfold dOrd
    rw [List.length_append, Nat.add_mul, Nat.one_mul]
    have := dOrd_len H n most k
    have := levN_len H (most - k) n
    omega
theorem ordLen (H : Nat → Int) (n : Nat) (mo : Int) (k j : Nat) (hn : n ≤ 200) (hk : k ≤ 1601) : (dOrd H n mo k ++ lev H (mo - k) j).length ≤ 320200 + j := by
  rw [List.length_append]
  have h1 := dOrd_len H n mo k
  have h2 := levN_len H (mo - k) j
  have h3 : k * n ≤ 1601 * 200 := Nat.mul_le_mul hk hn
  omega
/-- Numbers put down so far, in a row of their own. -/
structure Lw (w1 W : World) (a : Option Addr) (c : Nat) (L : List Int) : Prop where
  row : W.ownsRow w1.heap.size 3 1 (.slice a L.length c) L.length (L.map (Value.int .i64))
  up : Below w1.heap.size w1 W
theorem Lw.next {w1 W W' : World} {a : Option Addr} {c : Nat} {L : List Int} (s : Lw w1 W a c L) (g : Below W.heap.size W W') : Lw w1 W' a c L := ⟨row_up s.row g, s.up.trans (g.mono s.up.size)⟩
theorem Lw.add {w1 W X w4 : World} {a : Option Addr} {c g cap : Nat} {L : List Int} {e : Int} (s : Lw w1 W a c L) (g0 : Below W.heap.size W X) (hgrow : X.grownBy w4 (Value.slice a L.length c).ownBlock) (hown : w4.ownsRow w1.heap.size 3 1 (.slice (some ⟨g, 0, none⟩) (L.length + 1) cap) (L.length + 1) (L.map (Value.int .i64) ++ [.int .i64 e])) : Lw w1 w4 (some ⟨g, 0, none⟩) cap (L ++ [e]) := by
  have s2 := s.next g0
  have hl := s2.up.size
  have B : Below w1.heap.size X w4 := (grown_fr hgrow).below (by omega) fun k hk e => by
    have := (s2.row.lt k e).1
    omega
  refine ⟨?_, s2.up.trans B⟩
  rw [List.map_append, List.length_append]
  exact hown
/-- The document's order is the program's. -/
theorem ord_same {n : Nat} {H g : Nat → Int} {most : Int} {k : Nat} (ho : OrdF n H g) (hk : most - k < 0) (hH : ∀ i, i < n → 0 ≤ H i ∧ H i ≤ most) : (List.range n).map g = dOrd H n most k := by
  refine pw_uniq (ahd_asym H) _ _ ?_ (dOrd_pw H n most k) fun x => ?_
  · rw [List.pairwise_map]
    rw [List.pairwise_iff_getElem]
    intro i j hi hj hij
    simp only [List.getElem_range, List.length_range] at hi hj ⊢
    exact ho.st i j hij hj
  · rw [dOrd_mem, List.mem_map]
    constructor
    · rintro ⟨i, hi, rfl⟩
      have hi := List.mem_range.1 hi
      obtain ⟨h1, h2⟩ := ho.rg i hi
      have h3 := hH (g i).toNat (by omega)
      exact ⟨(g i).toNat, by omega, by omega, by omega, h3.2⟩
    · rintro ⟨j, hj, rfl, -, -⟩
      obtain ⟨i, hi, e⟩ := ho.all j hj
      exact ⟨i, List.mem_range.2 hi, e⟩
theorem refOrd_no (ao : Option Addr) (cap : Nat) (n : Nat) (t : Tab) (er : Int) (w : World) (he : ¬ er = 0) (h22 : ∀ W, Below w.heap.size w W → Calls Tryd.prog 22 #[.slice ao n cap, t.val] W fun e w' => e = .returned (.tuple #[.slice none 0 0, .int .i64 er]) ∧ Below W.heap.size W w') :
    Calls Tryd.prog 24 #[.slice ao n cap, t.val] w fun e w' => e = .returned (.tuple #[.slice none 0 0, .int .i64 er]) ∧ Below w.heap.size w w' := by
  have HOf : Hid _ := h22
  clear h22
  unfold Tab.val at *
  go_enter Tryd.func24, Tryd.ntmps24
  go_wp2_with (first
    | (go_at_call 22; refine Calls.mono (HOf.out _ (by go_grown)) ?_; rintro e w1 ⟨rfl, b1⟩; have HT : Hid (Below w.heap.size w w1) := Below.trans (by go_grown) (b1.mono (by simp)); clear b1 HOf))
  go_ret2
  exact ⟨rfl, HT.out⟩
/-- What the document's order hands back. -/
def DoOut (w : World) (n : Nat) (H : Nat → Int) (e : Ending) (w' : World) : Prop := ∃ a c L, e = .returned (.tuple #[.slice a L.length c, .int .i64 0]) ∧ w'.ownsRow w.heap.size 3 1 (.slice a L.length c) L.length (L.map (Value.int .i64)) ∧ (∃ (most : Int) (k : Nat), L = dOrd H n most k ∧ most - k < 0 ∧ ∀ i, i < n → 0 ≤ H i ∧ H i ≤ most) ∧ Below w.heap.size w w'
set_option maxHeartbeats 8000000 in
theorem refOrd_ok (ao : Option Addr) (cap n : Nat) (t : Tab) (H : Nat → Int) (w : World) (hn : n ≤ 200) (hH : ∀ i, i < n → 1 ≤ H i ∧ H i ≤ 1600) (h22 : ∀ W, Below w.heap.size w W → Calls Tryd.prog 22 #[.slice ao n cap, t.val] W (HtOut W n H)) :
    Calls Tryd.prog 24 #[.slice ao n cap, t.val] w (DoOut w n H) := by
  have HOf : Hid (∀ W, Below w.heap.size w W → Calls Tryd.prog 22 #[.slice ao n cap, t.val] W fun e w' => ∃ hb, e = .returned (.tuple #[.slice (some ⟨hb, 0, none⟩) n n, .int .i64 0]) ∧ Ir w' hb n H ∧ W.heap.size ≤ hb ∧ Below W.heap.size W w') := h22
  have HH : Hid (∀ i, i < n → 1 ≤ H i ∧ H i ≤ 1600) := hH
  have hn' : (n : Int) ≤ 200 := by omega
  clear h22 hH
  obtain ⟨i0, hi, hi2⟩ := Option.map_eq_some_iff.1 info3
  simp only [Prod.mk.injEq] at hi2
  obtain ⟨hz0, hz1, hz2⟩ := hi2
  have HI : Hid (Tryd.prog.info? 3 = some i0 ∧ i0.zero = some (.int .i64 0) ∧ i0.size = 1 ∧ i0.bytes = 8) := ⟨hi, hz0, hz1, hz2⟩
  clear hi hz0 hz1 hz2
  unfold Tab.val at *
  go_enter Tryd.func24, Tryd.ntmps24
  go_wp2_with (first
    | (go_at_call 22; refine Calls.mono (HOf.out _ (by go_grown)) ?_; rintro e w1 ⟨hb, rfl, i1, -, b1⟩; have HR : Hid (Ir w1 hb n H ∧ Below w.heap.size w w1) := ⟨i1, Below.trans (by go_grown) (b1.mono (by simp))⟩; clear i1 b1 HOf))
  go_loop [9, 10] (fun m v => ∃ (i : Nat) (most : Int), i ≤ n ∧ m = .int .i64 most ∧ v = .int .i64 i ∧ 0 ≤ most ∧ most ≤ 1600 ∧ ∀ k, k < i → H k ≤ most) (fun _ v => n - (intOf v).toNat)
  case atStart => exact ⟨0, 0, by omega, rfl, rfl, by omega, by omega, fun k hk => by omega⟩
  case round =>
    obtain ⟨i, most, hi, rfl, rfl, m0, m1, hmost⟩ := hrel
    have HMs : Hid (∀ k, k < i → H k ≤ most) := hmost
    clear hmost
    by_cases hlt : i < n
    · have j0 : (0 : Int) ≤ (i : Int) := by omega
      have j1 : (i : Int) < (n : Int) := by omega
      have hc := HR.out.1.c i hlt
      have hl := HR.out.1.lt
      obtain ⟨h1, h2⟩ := HH.out i hlt
      by_cases hmx : most < H i
      · have HNx : Hid (∀ k, k < i + 1 → H k ≤ H i) := fun k hk => by
          by_cases e : k = i
          · subst e; exact Int.le_refl _
          · have := HMs.out k (by omega); omega
        generalize hx : H i = x at *
        clear hx
        go_wp2_with fail
        go_round
        case rel => exact ⟨i + 1, x, by omega, by first | rfl | (congr 1; omega) | simp, by go_num, by omega, by omega, HNx.out⟩
        case measure => simp [intOf]; omega
      · have HNx : Hid (∀ k, k < i + 1 → H k ≤ most) := fun k hk => by
          by_cases e : k = i
          · subst e; omega
          · exact HMs.out k (by omega)
        generalize hx : H i = x at *
        clear hx
        go_wp2_with fail
        go_round
        case rel => exact ⟨i + 1, most, by omega, by first | rfl | (congr 1; omega) | simp, by go_num, by omega, by omega, HNx.out⟩
        case measure => simp [intOf]; omega
    · obtain rfl : i = n := by omega
      have j1 : ¬ (i : Int) < (i : Int) := by omega
      obtain ⟨mo, rfl⟩ : ∃ mo : Nat, most = mo := ⟨most.toNat, by omega⟩
      have HL0 : Hid (Lw w1 w1 none 0 []) := ⟨World.ownsRow_nil _ _ _ _, Below.refl _ _⟩
      go_upto_region 11 with fail
      go_loopw [8, 11] (fun l v wr => ∃ (k : Nat) (a : Option Addr) (c : Nat), k ≤ mo + 1 ∧ l = .slice a (dOrd H i mo k).length c ∧ v = .int .i64 ((mo : Int) - k) ∧ Lw w1 wr a c (dOrd H i mo k)) (fun _ v _ => ((intOf v) + 1).toNat)
      case atStart => exact ⟨0, none, 0, by omega, rfl, by first | rfl | simp, HL0.out⟩
      case round =>
        rename World => wr
        obtain ⟨k, a, c, hk, rfl, rfl, hs⟩ := hrel
        have HQ : Hid (Lw w1 wr a c (dOrd H i mo k)) := hs
        clear hs HL0
        by_cases hlt2 : k < mo + 1
        · have x0 : (0 : Int) ≤ (mo : Int) - k := by omega
          have HEnd : Hid (dOrd H i mo (k + 1) = dOrd H i mo k ++ lev H ((mo : Int) - k) i) := rfl
          have HLn : Hid (∀ j, j ≤ i → (dOrd H i mo k ++ lev H ((mo : Int) - k) j).length ≤ 1000000) := fun j hj => Nat.le_trans (ordLen H i mo k j (by omega) (by omega)) (by omega)
          obtain ⟨D, hD⟩ : ∃ D, dOrd H i mo k = D := ⟨_, rfl⟩
          rw [hD] at HEnd HLn HQ ⊢
          clear hD
          obtain ⟨x, hx⟩ : ∃ x : Int, (mo : Int) - k = x := ⟨_, rfl⟩
          have HX : Hid ((mo : Int) - k = x) := hx
          rw [hx] at HEnd HLn x0 ⊢
          clear hx
          go_wp2_with fail
          go_loopw [8, 12] (fun l v wz => ∃ (j : Nat) (a : Option Addr) (c : Nat), j ≤ i ∧ l = .slice a (D ++ lev H x j).length c ∧ v = .int .i64 j ∧ Lw w1 wz a c (D ++ lev H x j)) (fun _ v _ => i - (intOf v).toNat)
          case atStart => exact ⟨0, a, c, by omega, by simp [lev], rfl, by simpa [lev] using HQ.out⟩
          case round =>
            rename World => wz
            obtain ⟨j, a2, c2, hj, rfl, rfl, hs⟩ := hrel
            have HZ : Hid (Lw w1 wz a2 c2 (D ++ lev H x j)) := hs
            clear hs HQ
            by_cases hlt3 : j < i
            · have j0 : (0 : Int) ≤ (j : Int) := by omega
              have j3 : (j : Int) < (i : Int) := by omega
              have hir := HR.out.1.up HZ.out.up
              have hc := hir.c j hlt3
              have hl := hir.lt
              have hlen := HLn.out j (by omega)
              have HNx : Hid (lev H x (j + 1) = lev H x j ++ (if H j = x then [(j : Int)] else [])) := rfl
              clear hir
              obtain ⟨E, hE⟩ : ∃ E, D ++ lev H x j = E := ⟨_, rfl⟩
              have HE : Hid (D ++ lev H x j = E) := hE
              rw [hE] at HZ hlen ⊢
              clear hE
              by_cases hx : H j = x
              · rw [if_pos hx] at HNx
                have hxb : (H j == x) = true := by simpa using hx
                subst hx
                generalize H j = y at *
                go_wp2_with (first | (at_builtin; refine wpList_append_lies _ rfl _ _ 57 rfl w1.heap.size 3 i0 (.int .i64 0) 1 8 Tryd.underlying57 HI.out.1 HI.out.2.1 HI.out.2.2.1 HI.out.2.2.2 rfl (by decide) (.slice a2 E.length c2) E.length (E.map (Value.int .i64)) rfl (World.ownsRow.alloc HZ.out.row _) ⟨wz.heap.size, 0, none⟩ 1 1 [.int .i64 (j : Int)] rfl rfl (World.news_of_block (heap_alloc_new wz _)) (by simp [Value.oneCell']) (by decide) (by unfold maxLen; omega) (by omega) (by have h5 := HZ.out.up.size; simp; omega) (wz.heap.size + 1) (by simp) ?_; intro g cp w4 hown hgrow hat hlt4; have HZ2 : Hid (Lw w1 w4 (some ⟨g, 0, none⟩) cp (E ++ [(j : Int)])) := HZ.out.add ((Below.refl _ _).alloc (Nat.le_refl _) _) hgrow hown; clear hown hgrow hat hlt4))
                go_roundw
                case rel => exact ⟨j + 1, some ⟨g, 0, none⟩, cp, by omega, by rw [HNx.out, ← List.append_assoc, HE.out]; simp, by go_num, by rw [HNx.out, ← List.append_assoc, HE.out]; exact HZ2.out⟩
                case measure => simp [intOf]; omega
              · rw [if_neg hx] at HNx
                have hxb : (H j == x) = false := by simpa using hx
                generalize H j = y at *
                go_wp2_with fail
                go_roundw
                case rel => exact ⟨j + 1, a2, c2, by omega, by rw [HNx.out, List.append_nil, HE.out], by go_num, by rw [HNx.out, List.append_nil, HE.out]; exact HZ.out⟩
                case measure => simp [intOf]; omega
            · obtain rfl : j = i := by omega
              have j3 : ¬ (j : Int) < (j : Int) := by omega
              have h64 : -1 ≤ x - 1 := by omega
              have h65 : x ≤ 1600 := by have := HX.out; omega
              go_wp2_with fail
              go_roundw
              case rel => exact ⟨k + 1, a2, c2, by omega, by rw [HEnd.out], by have := HX.out; first | (congr 1; omega) | (rw [show ((k + 1 : Nat) : Int) = (k : Int) + 1 by omega]; congr 1; omega), by rw [HEnd.out]; exact HZ.out⟩
              case measure => simp [intOf]; omega
        · obtain rfl : k = mo + 1 := by omega
          have x0 : ¬ (0 : Int) ≤ (mo : Int) - ((mo + 1 : Nat) : Int) := by omega
          have HL : Hid (∀ q, q < i → 0 ≤ H q ∧ H q ≤ (mo : Int)) := fun q hq => ⟨by have := HH.out q hq; omega, HMs.out q hq⟩
          obtain ⟨D, hD⟩ : ∃ D, dOrd H i mo (mo + 1) = D := ⟨_, rfl⟩
          have HD : Hid (dOrd H i mo (mo + 1) = D) := hD
          rw [hD] at HQ ⊢
          clear hD
          go_wp2_with fail
          go_ret2
          refine ⟨a, c, D, rfl, ?_, ⟨(mo : Int), mo + 1, HD.out.symm, by omega, HL.out⟩, HR.out.2.trans (HQ.out.up.mono HR.out.2.size)⟩
          exact rowBase HQ.out.row HR.out.2.size
end Go.Proofs.YtccakjijoadjkaaDoor.Dp

namespace Go.Proofs.YtccakjijoadjkaaDoor.Dp
open Go.ChangeShapes Go.WideShapes Go.ChangeAt Go.RowKit
open _root_.Go.Proofs.YtccakjijoadjkaaDoor.Op _root_.Go.Proofs.YtccakjijoadjkaaDoor.So
open _root_.Go.Proofs.YtccakjijoadjkaaDoor.Tb (Tab TabAt Bnds)
set_option maxRecDepth 20000

theorem own_cap {w : World} {B c n : Nat} {a : Option Addr} {xs : List Value} (h : w.ownsRow B 40 5 (.slice a n c) n xs) : n ≤ c := by
  rcases h.2 with ⟨e, e0⟩ | ⟨g, cap, cur, e, -, -, hc, -⟩
  · rw [e0]; exact Nat.zero_le _
  · injection e with _ _ e3
    rw [e3]; exact hc
/-- A list of numbers in memory. -/
def Lr (W : World) (a : Option Addr) (n : Nat) (g : Nat → Int) : Prop := ∀ k, k < n → ∃ b, a = some ⟨b, 0, none⟩ ∧ b < W.heap.size ∧ W.cell? ⟨b, k, none⟩ = some (.int .i64 (g k))
theorem Lr.up {W W' : World} {a : Option Addr} {n : Nat} {g : Nat → Int} (h : Lr W a n g) (hb : Below W.heap.size W W') : Lr W' a n g := fun k hk => by
  obtain ⟨b, e, h1, h2⟩ := h k hk
  exact ⟨b, e, Nat.lt_of_lt_of_le h1 hb.size, by rw [(bcell hb).1 _ _ h1]; exact h2⟩
theorem same_lr {W : World} {nb n : Nat} {a : Option Addr} {g : Nat → Int} (c : Nat) (hn : (n : Int) ≤ 100000000) (h1 : Ir W nb n g) (h2 : Lr W a n g) : Calls Tryd.prog 25 #[.slice (some ⟨nb, 0, none⟩) n n, .slice a n c] W fun e w' => e = .returned (.bool true) ∧ Below W.heap.size W w' :=
  same_any _ _ n n c W hn fun k hk => by
    obtain ⟨b, e, h3, h4⟩ := h2 k hk
    exact ⟨nb, b, g k, rfl, e, h1.lt, h3, h1.c k hk, h4⟩
theorem same_ir {W : World} {n1 n2 n : Nat} {g : Nat → Int} (hn : (n : Int) ≤ 100000000) (h1 : Ir W n1 n g) (h2 : Ir W n2 n g) : Calls Tryd.prog 25 #[.slice (some ⟨n1, 0, none⟩) n n, .slice (some ⟨n2, 0, none⟩) n n] W fun e w' => e = .returned (.bool true) ∧ Below W.heap.size W w' :=
  same_lr n hn h1 fun k hk => ⟨n2, rfl, h2.lt, h2.c k hk⟩
/-- The document's order beside the program's. -/
theorem refOrd_with (ao : Option Addr) (cap : Nat) (xs : List O) (t : Tab) (w : World) (h : OpsAt w ao xs) (hq : xs.length ≤ 120) (he : lisE t xs = 0) (g : Nat → Int) (ho : OrdF xs.length (hts (latN t xs) (ofE t xs)) g) :
    Calls Tryd.prog 24 #[.slice ao xs.length cap, t.val] w fun e w' => ∃ a c, e = .returned (.tuple #[.slice a xs.length c, .int .i64 0]) ∧ Lr w' a xs.length g ∧ Below w.heap.size w w' := by
  obtain ⟨ht, hn, hok⟩ := lis_all he
  have hEO : EOk xs.length (ofE t xs) := ofE_ok t xs (pts_ok t xs (fun o ho => ⟨h.ok o ho, okL_okO (hok o ho)⟩) ht)
  have hle := (hts_is (lat := latN t xs) hEO).le hEO (fun i hi => by rw [latN_at t hi]; exact latV_in ht _)
  refine (refOrd_ok ao cap xs.length t _ w (by omega) (fun i hi => ?_) fun W hb => refHof_ok ao cap xs t W (h.below hb) (by omega) he).mono fun e w' h' => ?_
  · have := hle i hi
    omega
  · obtain ⟨a, c, L, rfl, hrow, ⟨most, k, hL, hk, hH⟩, hb⟩ := h'
    have hLg := ord_same ho hk hH
    rw [← hL] at hLg
    subst hLg
    have hlen : ((List.range xs.length).map g).length = xs.length := by simp
    rw [hlen] at hrow ⊢
    refine ⟨a, c, rfl, fun j hj => ?_, hb⟩
    rcases hrow.2 with ⟨-, e0⟩ | ⟨b, cap2, cur, e, -⟩
    · omega
    · injection e with e1 _ _
      subst e1
      refine ⟨b, rfl, (hrow.lt b rfl).2, ?_⟩
      rw [hrow.cellAt j (by omega)]
      simp [hj]
set_option maxHeartbeats 16000000 in
theorem tells_main (ao : Option Addr) (cap : Nat) (xs : List O) (t : Tab) (w : World) (h : OpsAt w ao xs) (hl : xs.length ≤ 8796093021952) (hG : Bnds w) (hi : xs.length ≤ 120 ∨ 1024 < xs.length)
    (hg1 : decide (120 < (xs.length : Int)) = false ∨ (decide (120 < (xs.length : Int)) = true ∧ decide ((xs.length : Int) ≤ 1024) = false)) :
    Calls Tryd.prog 6 #[.slice ao xs.length cap, t.val] w fun e w' => e = .returned (.bool true) ∧ Below w.heap.size w w' := by
  have HW : Hid (∀ W, Below w.heap.size w W → Calls Tryd.prog 19 #[] W fun e w' => e = .returned (.bool true) ∧ Below W.heap.size W w') := fun W hb => wakes12_any W (hG.below hb hG.big)
  have HC1 : Hid (∀ W, Below w.heap.size w W → Calls Tryd.prog 20 #[.slice ao xs.length cap] W fun e w' => ∃ a c, e = .returned (.slice a xs.length c) ∧ w'.ownsRow W.heap.size 40 5 (.slice a xs.length c) xs.length (ocells xs) ∧ Below W.heap.size W w') := fun W hb => copiedOps_any ao cap xs W (h.below hb) hl
  have HOp : Hid (OpsAt w ao xs) := h
  have HL : Hid (xs.length ≤ 8796093021952) := hl
  have HG : Hid (Bnds w) := hG
  have hlz : (xs.length : Int) ≤ 8796093021952 := by omega
  by_cases he : lisE t xs = 0
  · have hi2 : ¬ (120 : Int) < (xs.length : Int) := by have := (lis_all he).2.1; omega
    clear hg1
    obtain ⟨H, hH⟩ : ∃ H, hts (latN t xs) (ofE t xs) = H := ⟨_, rfl⟩
    have hn3 := (lis_all he).2.1
    have h120 : xs.length ≤ 120 := by omega
    have HHf : Hid (∀ am cm W, OpsAt W am xs → xs.length ≤ cm → Bnds W → Calls Tryd.prog 21 #[.slice am xs.length cm, t.val] W (HtOut W xs.length H)) := fun am cm W h1 h2 h3 => by rw [← hH]; exact hof_ok am cm xs t W h1 h2 h3 he
    have HHo : Hid (∀ am cm W, OpsAt W am xs → xs.length ≤ cm → Bnds W → Calls Tryd.prog 23 #[.slice am xs.length cm, t.val] W (OrOut W xs.length H)) := fun am cm W h1 h2 h3 => hord_ok am cm xs.length t H W hn3 fun W' hb => by rw [← hH]; exact hof_ok am cm xs t W' (h1.below hb) h2 (h3.below hb h3.big) he
    have HC3 : Hid (∀ W, Below w.heap.size w W → Calls Tryd.prog 22 #[.slice ao xs.length cap, t.val] W (HtOut W xs.length H)) := fun W hb => by rw [← hH]; exact refHof_ok ao cap xs t W (h.below hb) (by omega) he
    have HC5 : Hid (∀ W g, Below w.heap.size w W → OrdF xs.length H g → Calls Tryd.prog 24 #[.slice ao xs.length cap, t.val] W fun e w' => ∃ a c, e = .returned (.tuple #[.slice a xs.length c, .int .i64 0]) ∧ Lr w' a xs.length g ∧ Below W.heap.size W w') := fun W g hb ho => refOrd_with ao cap xs t W (h.below hb) h120 he g (by rw [hH]; exact ho)
    have HNb : Hid ((xs.length : Int) ≤ 100000000) := by show (xs.length : Int) ≤ 100000000; omega
    clear hH
    unfold HtOut at HHf HC3
    unfold HtOut OrOut at *
    clear h hG hl
    unfold Tab.val at *
    go_enter Tryd.func6, Tryd.ntmps6
    go_wp2_with (first
      | (go_at_call 20; refine Calls.mono (HC1.out _ (by go_grown)) ?_; rintro e w1 ⟨am, cm, rfl, o1, b1⟩; have HT : Hid (TabAt w1 w.heap.size t ∧ Below w.heap.size w w1) := tab_next ⟨Tb.tabAt_new w t 25, by go_grown⟩ b1; have HM : Hid (OpsAt w1 am xs ∧ xs.length ≤ cm ∧ Bnds w1) := ⟨opsAt_row o1 HOp.out.ok HL.out, own_cap o1, HG.out.below (HT.out.2) HG.out.big⟩; have HB : Hid (Below w1.heap.size w1 w1) := Below.refl _ _; have HC2 : Hid (∀ W, Below w1.heap.size w1 W → Calls Tryd.prog 21 #[.slice am xs.length cm, .agg #[.int .i64 (t.u 0), .int .i64 (t.u 1), .int .i64 (t.u 2), .int .i64 (t.u 3), .int .i64 (t.l 0), .int .i64 (t.l 1), .int .i64 (t.l 2), .int .i64 (t.l 3), .int .i64 (t.b 0), .int .i64 (t.b 1), .int .i64 (t.b 2), .int .i64 (t.b 3), .int .i64 t.d]] W fun e w' => ∃ hb, e = .returned (.tuple #[.slice (some ⟨hb, 0, none⟩) xs.length xs.length, .int .i64 0]) ∧ Ir w' hb xs.length H ∧ W.heap.size ≤ hb ∧ Below W.heap.size W w') := fun W hb => HHf.out am cm W (HM.out.1.below hb) HM.out.2.1 (HM.out.2.2.below hb HM.out.2.2.big); have HC4 : Hid (∀ W, Below w1.heap.size w1 W → Calls Tryd.prog 23 #[.slice am xs.length cm, .agg #[.int .i64 (t.u 0), .int .i64 (t.u 1), .int .i64 (t.u 2), .int .i64 (t.u 3), .int .i64 (t.l 0), .int .i64 (t.l 1), .int .i64 (t.l 2), .int .i64 (t.l 3), .int .i64 (t.b 0), .int .i64 (t.b 1), .int .i64 (t.b 2), .int .i64 (t.b 3), .int .i64 t.d]] W fun e w' => ∃ nb g, e = .returned (.tuple #[.slice (some ⟨nb, 0, none⟩) xs.length xs.length, .int .i64 0]) ∧ Ir w' nb xs.length g ∧ OrdF xs.length H g ∧ W.heap.size ≤ nb ∧ Below W.heap.size W w') := fun W hb => HHo.out am cm W (HM.out.1.below hb) HM.out.2.1 (HM.out.2.2.below hb HM.out.2.2.big); clear o1 b1 HC1 HHf HHo; have k2 := HT.out.1; have qu0 := k2.cu 0 (by decide); have qu1 := k2.cu 1 (by decide); have qu2 := k2.cu 2 (by decide); have qu3 := k2.cu 3 (by decide); have ql0 := k2.cl 0 (by decide); have ql1 := k2.cl 1 (by decide); have ql2 := k2.cl 2 (by decide); have ql3 := k2.cl 3 (by decide); have qb0 := k2.cb 0 (by decide); have qb1 := k2.cb 1 (by decide); have qb2 := k2.cb 2 (by decide); have qb3 := k2.cb 3 (by decide); have qd := k2.cd; have qz := k2.lt; clear k2)
      | (go_at_call 21; refine Calls.mono (HC2.out _ HB.out) ?_; rintro e w2 ⟨h1, rfl, i1, -, b2⟩; have HT : Hid (TabAt w2 w.heap.size t ∧ Below w.heap.size w w2) := tab_next HT.out b2; have HB : Hid (Below w1.heap.size w1 w2) := HB.out.trans (b2.mono HB.out.size); have HI1 : Hid (Ir w2 h1 xs.length H) := i1; clear i1 b2 HC2 qu0 qu1 qu2 qu3 ql0 ql1 ql2 ql3 qb0 qb1 qb2 qb3 qd qz; have k2 := HT.out.1; have qu0 := k2.cu 0 (by decide); have qu1 := k2.cu 1 (by decide); have qu2 := k2.cu 2 (by decide); have qu3 := k2.cu 3 (by decide); have ql0 := k2.cl 0 (by decide); have ql1 := k2.cl 1 (by decide); have ql2 := k2.cl 2 (by decide); have ql3 := k2.cl 3 (by decide); have qb0 := k2.cb 0 (by decide); have qb1 := k2.cb 1 (by decide); have qb2 := k2.cb 2 (by decide); have qb3 := k2.cb 3 (by decide); have qd := k2.cd; have qz := k2.lt; clear k2)
      | (go_at_call 22; refine Calls.mono (HC3.out _ HT.out.2) ?_; rintro e w3 ⟨h2, rfl, i2, -, b3⟩; have HT : Hid (TabAt w3 w.heap.size t ∧ Below w.heap.size w w3) := tab_next HT.out b3; have HB : Hid (Below w1.heap.size w1 w3) := HB.out.trans (b3.mono HB.out.size); have HI1 : Hid (Ir w3 h1 xs.length H) := HI1.out.up b3; have HI2 : Hid (Ir w3 h2 xs.length H) := i2; clear i2 b3 HC3 qu0 qu1 qu2 qu3 ql0 ql1 ql2 ql3 qb0 qb1 qb2 qb3 qd qz; have k2 := HT.out.1; have qu0 := k2.cu 0 (by decide); have qu1 := k2.cu 1 (by decide); have qu2 := k2.cu 2 (by decide); have qu3 := k2.cu 3 (by decide); have ql0 := k2.cl 0 (by decide); have ql1 := k2.cl 1 (by decide); have ql2 := k2.cl 2 (by decide); have ql3 := k2.cl 3 (by decide); have qb0 := k2.cb 0 (by decide); have qb1 := k2.cb 1 (by decide); have qb2 := k2.cb 2 (by decide); have qb3 := k2.cb 3 (by decide); have qd := k2.cd; have qz := k2.lt; clear k2)
      | (go_at_call 23; refine Calls.mono (HC4.out _ HB.out) ?_; rintro e w4 ⟨nb, g, rfl, i3, og, -, b4⟩; have HT : Hid (TabAt w4 w.heap.size t ∧ Below w.heap.size w w4) := tab_next HT.out b4; have HB : Hid (Below w1.heap.size w1 w4) := HB.out.trans (b4.mono HB.out.size); have HI1 : Hid (Ir w4 h1 xs.length H) := HI1.out.up b4; have HI2 : Hid (Ir w4 h2 xs.length H) := HI2.out.up b4; have HI3 : Hid (Ir w4 nb xs.length g ∧ OrdF xs.length H g) := ⟨i3, og⟩; clear i3 og b4 HC4 qu0 qu1 qu2 qu3 ql0 ql1 ql2 ql3 qb0 qb1 qb2 qb3 qd qz; have k2 := HT.out.1; have qu0 := k2.cu 0 (by decide); have qu1 := k2.cu 1 (by decide); have qu2 := k2.cu 2 (by decide); have qu3 := k2.cu 3 (by decide); have ql0 := k2.cl 0 (by decide); have ql1 := k2.cl 1 (by decide); have ql2 := k2.cl 2 (by decide); have ql3 := k2.cl 3 (by decide); have qb0 := k2.cb 0 (by decide); have qb1 := k2.cb 1 (by decide); have qb2 := k2.cb 2 (by decide); have qb3 := k2.cb 3 (by decide); have qd := k2.cd; have qz := k2.lt; clear k2)
      | (go_at_call 24; refine Calls.mono (HC5.out _ g HT.out.2 HI3.out.2) ?_; rintro e w5 ⟨a5, c5, rfl, o5, b5⟩; have HT : Hid (TabAt w5 w.heap.size t ∧ Below w.heap.size w w5) := tab_next HT.out b5; have HB : Hid (Below w1.heap.size w1 w5) := HB.out.trans (b5.mono HB.out.size); have HI1 : Hid (Ir w5 h1 xs.length H) := HI1.out.up b5; have HI2 : Hid (Ir w5 h2 xs.length H) := HI2.out.up b5; have HI4 : Hid (Ir w5 nb xs.length g) := HI3.out.1.up b5; have HI5 : Hid (Lr w5 a5 xs.length g) := o5; clear o5 b5 HC5 HI3 qu0 qu1 qu2 qu3 ql0 ql1 ql2 ql3 qb0 qb1 qb2 qb3 qd qz)
      | (go_at_call_of 25 (Value.slice (some ⟨h1, 0, none⟩) xs.length xs.length); refine Calls.mono (same_ir HNb.out HI1.out HI2.out) ?_; rintro e w6 ⟨rfl, b6⟩; have HT : Hid (TabAt w6 w.heap.size t ∧ Below w.heap.size w w6) := tab_next HT.out b6; have HB : Hid (Below w1.heap.size w1 w6) := HB.out.trans (b6.mono HB.out.size); have HI4 : Hid (Ir w6 nb xs.length g) := HI4.out.up b6; have HI5 : Hid (Lr w6 a5 xs.length g) := HI5.out.up b6; clear b6 HI1 HI2)
      | (go_at_call_of 25 (Value.slice (some ⟨nb, 0, none⟩) xs.length xs.length); refine Calls.mono (same_lr c5 HNb.out HI4.out HI5.out) ?_; rintro e w7 ⟨rfl, b7⟩; have HT : Hid (TabAt w7 w.heap.size t ∧ Below w.heap.size w w7) := tab_next HT.out b7; have HB : Hid (Below w1.heap.size w1 w7) := HB.out.trans (b7.mono HB.out.size); clear b7 HI4 HI5)
      | (go_at_call 26; refine Calls.mono (likeOps_any am ao cm cap xs _ (HM.out.1.below HB.out) (HOp.out.below HT.out.2)) ?_; rintro e w8 ⟨rfl, b8⟩; have HT : Hid (TabAt w8 w.heap.size t ∧ Below w.heap.size w w8) := tab_next HT.out b8; have HB : Hid (Below w1.heap.size w1 w8) := HB.out.trans (b8.mono HB.out.size); clear b8)
      | (go_at_call 19; refine Calls.mono (HW.out _ HT.out.2) ?_; rintro e w9 ⟨rfl, b9⟩; have HB9 : Hid (Below w.heap.size w w9) := (tab_next HT.out b9).2; clear b9 HW))
    go_ret
    exact ⟨rfl, HB9.out⟩
  · rcases hg1 with hg1 | ⟨hg1, hg2⟩
    all_goals clear hi
    all_goals
      have HHf : Hid (∀ am cm W, OpsAt W am xs → xs.length ≤ cm → Bnds W → Calls Tryd.prog 21 #[.slice am xs.length cm, t.val] W fun e w' => e = .returned (.tuple #[.slice none 0 0, .int .i64 (lisE t xs)]) ∧ Below W.heap.size W w') := fun am cm W h1 h2 h3 => hof_no am cm xs t W h1 h2 h3 he
      have HHo : Hid (∀ am cm W, OpsAt W am xs → xs.length ≤ cm → Bnds W → Calls Tryd.prog 23 #[.slice am xs.length cm, t.val] W fun e w' => e = .returned (.tuple #[.slice none 0 0, .int .i64 (lisE t xs)]) ∧ Below W.heap.size W w') := fun am cm W h1 h2 h3 => hord_no am cm xs.length t _ W he fun W' hb => hof_no am cm xs t W' (h1.below hb) h2 (h3.below hb h3.big) he
      have HC3 : Hid (∀ W, Below w.heap.size w W → Calls Tryd.prog 22 #[.slice ao xs.length cap, t.val] W fun e w' => e = .returned (.tuple #[.slice none 0 0, .int .i64 (lisE t xs)]) ∧ Below W.heap.size W w') := fun W hb => refHof_no ao cap xs t W (h.below hb) he
      have HC5 : Hid (∀ W, Below w.heap.size w W → Calls Tryd.prog 24 #[.slice ao xs.length cap, t.val] W fun e w' => e = .returned (.tuple #[.slice none 0 0, .int .i64 (lisE t xs)]) ∧ Below W.heap.size W w') := fun W hb => refOrd_no ao cap xs.length t _ W he fun W' hb' => refHof_no ao cap xs t W' ((h.below hb).below hb') he
      have hee : (lisE t xs == lisE t xs) = true := by simp
      clear he
      generalize lisE t xs = er at *
      clear h hG hl
      unfold Tab.val at *
      go_enter Tryd.func6, Tryd.ntmps6
      go_wp2_with (first
        | (go_at_call 20; refine Calls.mono (HC1.out _ (by go_grown)) ?_; rintro e w1 ⟨am, cm, rfl, o1, b1⟩; have HT : Hid (TabAt w1 w.heap.size t ∧ Below w.heap.size w w1) := tab_next ⟨Tb.tabAt_new w t 25, by go_grown⟩ b1; have HM : Hid (OpsAt w1 am xs ∧ xs.length ≤ cm ∧ Bnds w1) := ⟨opsAt_row o1 HOp.out.ok HL.out, own_cap o1, HG.out.below (HT.out.2) HG.out.big⟩; have HB : Hid (Below w1.heap.size w1 w1) := Below.refl _ _; have HC2 : Hid (∀ W, Below w1.heap.size w1 W → Calls Tryd.prog 21 #[.slice am xs.length cm, .agg #[.int .i64 (t.u 0), .int .i64 (t.u 1), .int .i64 (t.u 2), .int .i64 (t.u 3), .int .i64 (t.l 0), .int .i64 (t.l 1), .int .i64 (t.l 2), .int .i64 (t.l 3), .int .i64 (t.b 0), .int .i64 (t.b 1), .int .i64 (t.b 2), .int .i64 (t.b 3), .int .i64 t.d]] W fun e w' => e = .returned (.tuple #[.slice none 0 0, .int .i64 er]) ∧ Below W.heap.size W w') := fun W hb => HHf.out am cm W (HM.out.1.below hb) HM.out.2.1 (HM.out.2.2.below hb HM.out.2.2.big); have HC4 : Hid (∀ W, Below w1.heap.size w1 W → Calls Tryd.prog 23 #[.slice am xs.length cm, .agg #[.int .i64 (t.u 0), .int .i64 (t.u 1), .int .i64 (t.u 2), .int .i64 (t.u 3), .int .i64 (t.l 0), .int .i64 (t.l 1), .int .i64 (t.l 2), .int .i64 (t.l 3), .int .i64 (t.b 0), .int .i64 (t.b 1), .int .i64 (t.b 2), .int .i64 (t.b 3), .int .i64 t.d]] W fun e w' => e = .returned (.tuple #[.slice none 0 0, .int .i64 er]) ∧ Below W.heap.size W w') := fun W hb => HHo.out am cm W (HM.out.1.below hb) HM.out.2.1 (HM.out.2.2.below hb HM.out.2.2.big); clear o1 b1 HC1 HHf HHo; have k2 := HT.out.1; have qu0 := k2.cu 0 (by decide); have qu1 := k2.cu 1 (by decide); have qu2 := k2.cu 2 (by decide); have qu3 := k2.cu 3 (by decide); have ql0 := k2.cl 0 (by decide); have ql1 := k2.cl 1 (by decide); have ql2 := k2.cl 2 (by decide); have ql3 := k2.cl 3 (by decide); have qb0 := k2.cb 0 (by decide); have qb1 := k2.cb 1 (by decide); have qb2 := k2.cb 2 (by decide); have qb3 := k2.cb 3 (by decide); have qd := k2.cd; have qz := k2.lt; clear k2)
        | (go_at_call 21; refine Calls.mono (HC2.out _ HB.out) ?_; rintro e w2 ⟨rfl, b2⟩; have HT : Hid (TabAt w2 w.heap.size t ∧ Below w.heap.size w w2) := tab_next HT.out b2; have HB : Hid (Below w1.heap.size w1 w2) := HB.out.trans (b2.mono HB.out.size); clear b2 HC2 qu0 qu1 qu2 qu3 ql0 ql1 ql2 ql3 qb0 qb1 qb2 qb3 qd qz; have k2 := HT.out.1; have qu0 := k2.cu 0 (by decide); have qu1 := k2.cu 1 (by decide); have qu2 := k2.cu 2 (by decide); have qu3 := k2.cu 3 (by decide); have ql0 := k2.cl 0 (by decide); have ql1 := k2.cl 1 (by decide); have ql2 := k2.cl 2 (by decide); have ql3 := k2.cl 3 (by decide); have qb0 := k2.cb 0 (by decide); have qb1 := k2.cb 1 (by decide); have qb2 := k2.cb 2 (by decide); have qb3 := k2.cb 3 (by decide); have qd := k2.cd; have qz := k2.lt; clear k2)
        | (go_at_call 22; refine Calls.mono (HC3.out _ HT.out.2) ?_; rintro e w3 ⟨rfl, b3⟩; have HT : Hid (TabAt w3 w.heap.size t ∧ Below w.heap.size w w3) := tab_next HT.out b3; have HB : Hid (Below w1.heap.size w1 w3) := HB.out.trans (b3.mono HB.out.size); clear b3 HC3 qu0 qu1 qu2 qu3 ql0 ql1 ql2 ql3 qb0 qb1 qb2 qb3 qd qz; have k2 := HT.out.1; have qu0 := k2.cu 0 (by decide); have qu1 := k2.cu 1 (by decide); have qu2 := k2.cu 2 (by decide); have qu3 := k2.cu 3 (by decide); have ql0 := k2.cl 0 (by decide); have ql1 := k2.cl 1 (by decide); have ql2 := k2.cl 2 (by decide); have ql3 := k2.cl 3 (by decide); have qb0 := k2.cb 0 (by decide); have qb1 := k2.cb 1 (by decide); have qb2 := k2.cb 2 (by decide); have qb3 := k2.cb 3 (by decide); have qd := k2.cd; have qz := k2.lt; clear k2)
        | (go_at_call 23; refine Calls.mono (HC4.out _ HB.out) ?_; rintro e w4 ⟨rfl, b4⟩; have HT : Hid (TabAt w4 w.heap.size t ∧ Below w.heap.size w w4) := tab_next HT.out b4; have HB : Hid (Below w1.heap.size w1 w4) := HB.out.trans (b4.mono HB.out.size); clear b4 HC4 qu0 qu1 qu2 qu3 ql0 ql1 ql2 ql3 qb0 qb1 qb2 qb3 qd qz; have k2 := HT.out.1; have qu0 := k2.cu 0 (by decide); have qu1 := k2.cu 1 (by decide); have qu2 := k2.cu 2 (by decide); have qu3 := k2.cu 3 (by decide); have ql0 := k2.cl 0 (by decide); have ql1 := k2.cl 1 (by decide); have ql2 := k2.cl 2 (by decide); have ql3 := k2.cl 3 (by decide); have qb0 := k2.cb 0 (by decide); have qb1 := k2.cb 1 (by decide); have qb2 := k2.cb 2 (by decide); have qb3 := k2.cb 3 (by decide); have qd := k2.cd; have qz := k2.lt; clear k2)
        | (go_at_call 24; refine Calls.mono (HC5.out _ HT.out.2) ?_; rintro e w5 ⟨rfl, b5⟩; have HT : Hid (TabAt w5 w.heap.size t ∧ Below w.heap.size w w5) := tab_next HT.out b5; have HB : Hid (Below w1.heap.size w1 w5) := HB.out.trans (b5.mono HB.out.size); clear b5 HC5 qu0 qu1 qu2 qu3 ql0 ql1 ql2 ql3 qb0 qb1 qb2 qb3 qd qz)
        | (go_at_call 25; refine Calls.mono (same_any none none 0 0 0 _ (by decide) (fun k hk => by omega)) ?_; rintro e w6 ⟨rfl, b6⟩; have HT : Hid (TabAt w6 w.heap.size t ∧ Below w.heap.size w w6) := tab_next HT.out b6; have HB : Hid (Below w1.heap.size w1 w6) := HB.out.trans (b6.mono HB.out.size); clear b6; generalize w6 = w5 at *)
        | (go_at_call 26; refine Calls.mono (likeOps_any am ao cm cap xs _ (HM.out.1.below HB.out) (HOp.out.below HT.out.2)) ?_; rintro e w8 ⟨rfl, b8⟩; have HT : Hid (TabAt w8 w.heap.size t ∧ Below w.heap.size w w8) := tab_next HT.out b8; have HB : Hid (Below w1.heap.size w1 w8) := HB.out.trans (b8.mono HB.out.size); clear b8)
        | (go_at_call 19; refine Calls.mono (HW.out _ HT.out.2) ?_; rintro e w9 ⟨rfl, b9⟩; have HB9 : Hid (Below w.heap.size w w9) := (tab_next HT.out b9).2; clear b9 HW))
      go_ret
      exact ⟨rfl, HB9.out⟩
theorem law_htells (ao : Option Addr) (cap : Nat) (xs : List O) (t : Tab) (w : World) (h : OpsAt w ao xs) (hl : xs.length ≤ 8796093021952) (hG : Bnds w) :
    Calls Tryd.prog 6 #[.slice ao xs.length cap, t.val] w fun e w' => e = .returned (.bool true) ∧ Below w.heap.size w w' := by
  by_cases h1 : 120 < xs.length
  · by_cases h2 : xs.length ≤ 1024
    · have HW : Hid (∀ W, Below w.heap.size w W → Calls Tryd.prog 19 #[] W fun e w' => e = .returned (.bool true) ∧ Below W.heap.size W w') := fun W hb => wakes12_any W (hG.below hb hG.big)
      have i1 : (120 : Int) < (xs.length : Int) := by omega
      have i2 : (xs.length : Int) ≤ 1024 := by omega
      clear h hG h1 h2 hl
      unfold Tab.val
      go_enter Tryd.func6, Tryd.ntmps6
      go_wp2_with (first | (go_at_call 19; refine Calls.mono (HW.out _ (by go_grown)) ?_; rintro e w3 ⟨rfl, hb⟩; have HB3 : Hid (Below w.heap.size w w3) := Below.trans (by go_grown) (hb.mono (by simp)); clear hb HW))
      go_ret
      exact ⟨rfl, HB3.out⟩
    · exact tells_main ao cap xs t w h hl hG (.inr (by omega)) (.inr ⟨by simp; omega, by simp; omega⟩)
  · exact tells_main ao cap xs t w h hl hG (.inl (by omega)) (.inl (by simp; omega))
end Go.Proofs.YtccakjijoadjkaaDoor.Dp

namespace Go.Proofs.YtccakjijoadjkaaDoor.Op
open Go.ChangeShapes Go.WideShapes Go.ChangeAt Go.RowKit
open Tb (Tab)

theorem wf64 {n : Int} (h : (Lit.int .i64 n).wf = true) : -9223372036854775808 ≤ n ∧ n ≤ 9223372036854775807 := by
  simp [Lit.wf, IntKind.min, IntKind.max, IntKind.signed, IntKind.bits] at h
  omega
theorem wf8 {n : Int} (h : (Lit.int .i8 n).wf = true) : -128 ≤ n ∧ n ≤ 127 := by
  simp [Lit.wf, IntKind.min, IntKind.max, IntKind.signed, IntKind.bits] at h
  omega
theorem wfu8 {n : Int} (h : (Lit.int .u8 n).wf = true) : 0 ≤ n ∧ n ≤ 255 := by
  simp [Lit.wf, IntKind.min, IntKind.max, IntKind.signed, IntKind.bits] at h
  omega
theorem own : ownKnob Tryd.prog.godebug = none := by kernel_rfl
def laid5 : List (String × DataW Unit) := [("hayloft/table.unitsBounds", Rows.laid_hayloft_table_unitsBounds), ("hayloft/table.latBounds", Rows.laid_hayloft_table_latBounds), ("hayloft/table.busyBounds", Rows.laid_hayloft_table_busyBounds), ("hayloft/table.delayBounds", Rows.laid_hayloft_table_delayBounds), ("hayloft/program.ends", Rows.laid_hayloft_program_ends)]
set_option maxRecDepth 20000 in
/-- A pair of bounds, out of its reading. -/
theorem bnd_of {W : World} {n : String} {g : Nat} {a b : Int} (h : Lib.VarReads Tryd.prog W n (.agg [.lit (.int .i64 a), .lit (.int .i64 b)])) (hg : Tryd.prog.globalNamed n = some g) (ht : (Tryd.prog.globals[g]?).map (·.type) = some 107) :
    W.cell? ⟨g, 0, none⟩ = some (.int .i64 a) ∧ W.cell? ⟨g, 1, none⟩ = some (.int .i64 b) := by
  obtain ⟨g0, t0, cs, fuel, p, h1, h2, h3, h4⟩ := h
  obtain rfl := Option.some.inj (hg.symm.trans h1)
  obtain rfl := Option.some.inj (ht.symm.trans h2)
  obtain ⟨y0, y1, n', hx, hl, e0, e1⟩ := trod_struct2 Tryd.underlying107 h4
  have c3 : Tryd.prog.cellsOf 3 = 1 := by kernel_rfl
  have c62 : Tryd.prog.cellsOf 107 = 2 := by kernel_rfl
  obtain ⟨k0, f0, f1, _⟩ := DataW.trod_int Tryd.underlying3 e0
  obtain ⟨k1, f2, f3, _⟩ := DataW.trod_int Tryd.underlying3 e1
  rw [c3] at f0 f2
  rw [c62] at hl
  obtain ⟨l⟩ := cs
  match l, hl with
  | [v0, v1], _ =>
    simp at f0 f2
    subst f0 f2
    simp [f1, f3] at hx
    obtain ⟨⟨rfl, rfl⟩, _⟩ := hx
    exact ⟨by simpa using World.var?_cell h1 h3 0, by simpa using World.var?_cell h1 h3 1⟩


theorem trod_bool1 {H : Type} {enc : TypeId × Value → H} {W : World} {base fuel : Nat} {sp : Nat → Bool} {held : Bool} {c : Value} {y : DataW H × List MemPlace} (h : DataW.trod enc Tryd.prog W base sp held fuel 4 [c] = some y) : ∃ b : Bool, c = .bool b ∧ y.1 = .lit (.bool b) := by
  obtain ⟨b, e, f⟩ := DataW.trod_bool Tryd.underlying4 h
  exact ⟨b, by simpa using e, by rw [f]⟩
theorem trod_end {H : Type} {enc : TypeId × Value → H} {W : World} {base fuel : Nat} {sp : Nat → Bool} {held : Bool} {c0 c1 c2 c3 : Value} {y : DataW H × List MemPlace} (h : DataW.trod enc Tryd.prog W base sp held fuel 154 [c0, c1, c2, c3] = some y) :
    ∃ a b c d : Bool, c0 = .bool a ∧ c1 = .bool b ∧ c2 = .bool c ∧ c3 = .bool d ∧ y.1 = .agg [.lit (.bool a), .lit (.bool b), .lit (.bool c), .lit (.bool d)] := by
  obtain ⟨y0, y1, y2, y3, n, hx, _, h0, h1, h2, h3⟩ := Joins.trod_struct4 Tryd.underlying154 h
  have k4 : Tryd.prog.cellsOf 4 = 1 := by kernel_rfl
  rw [k4] at h0 h1 h2 h3
  obtain ⟨a, e0, f0⟩ := trod_bool1 h0
  obtain ⟨b, e1, f1⟩ := trod_bool1 h1
  obtain ⟨c, e2, f2⟩ := trod_bool1 h2
  obtain ⟨d, e3, f3⟩ := trod_bool1 h3
  exact ⟨a, b, c, d, e0, e1, e2, e3, by rw [hx, f0, f1, f2, f3]⟩
set_option maxRecDepth 20000 in
theorem ends_of {W : World} (h : Lib.VarReads Tryd.prog W "hayloft/program.ends" Rows.laid_hayloft_program_ends) : EndsAt W ∧ 5 ≤ W.heap.size := by
  have hg : Tryd.prog.globalNamed "hayloft/program.ends" = some 4 := by kernel_rfl
  have ht : (Tryd.prog.globals[4]?).map (·.type) = some 175 := by kernel_rfl
  obtain ⟨g0, t0, cs, fuel, p, h1, h2, h3, h4⟩ := h
  obtain rfl := Option.some.inj (hg.symm.trans h1)
  obtain rfl := Option.some.inj (ht.symm.trans h2)
  have hbig : 5 ≤ W.heap.size := by
    have h3' := h3
    rw [World.var?, hg, Option.bind_some] at h3'
    rcases Nat.lt_or_ge 4 W.heap.size with h | h
    · exact h
    · rw [Array.getElem?_eq_none h] at h3'; cases h3'
  obtain ⟨xs, m, _, hx, hl, hn, he⟩ := DataW.trod_array Tryd.underlying175 h4
  have c56 : Tryd.prog.cellsOf 154 = 4 := by kernel_rfl
  have c68 : Tryd.prog.cellsOf 175 = 16 := by kernel_rfl
  rw [c68] at hl
  rw [c56] at he
  obtain ⟨l⟩ := cs
  match xs, hn, l, hl with
  | [x0, x1, x2, x3], _, [v0, v1, v2, v3, v4, v5, v6, v7, v8, v9, va, vb, vc, vd, ve, vf], _ =>
    obtain ⟨a0, a1, a2, a3, rfl, rfl, rfl, rfl, e0⟩ := trod_end (he 0 (by omega))
    obtain ⟨b0, b1, b2, b3, rfl, rfl, rfl, rfl, e1⟩ := trod_end (he 1 (by omega))
    obtain ⟨c0, c1, c2, c3, rfl, rfl, rfl, rfl, e2⟩ := trod_end (he 2 (by omega))
    obtain ⟨d0, d1, d2, d3, rfl, rfl, rfl, rfl, e3⟩ := trod_end (he 3 (by omega))
    simp [Rows.laid_hayloft_program_ends, e0, e1, e2, e3] at hx
    obtain ⟨⟨⟨rfl, rfl, rfl, rfl⟩, ⟨rfl, rfl, rfl, rfl⟩, ⟨rfl, rfl, rfl, rfl⟩, ⟨rfl, rfl, rfl, rfl⟩⟩, _⟩ := hx
    have cc := fun i => World.var?_cell h1 h3 i
    refine ⟨⟨Tb.four (p := fun k => W.cell? ⟨4, k * 4, none⟩ = some (.bool (eA k)) ∧ W.cell? ⟨4, k * 4 + 1, none⟩ = some (.bool (eB k)) ∧ W.cell? ⟨4, k * 4 + 2, none⟩ = some (.bool (eT k)) ∧ W.cell? ⟨4, k * 4 + 3, none⟩ = some (.bool (eE k))) ⟨?_, ?_, ?_, ?_⟩ ⟨?_, ?_, ?_, ?_⟩ ⟨?_, ?_, ?_, ?_⟩ ⟨?_, ?_, ?_, ?_⟩⟩, hbig⟩
    · exact (cc 0)
    · exact (cc 1)
    · exact (cc 2)
    · exact (cc 3)
    · exact (cc 4)
    · exact (cc 5)
    · exact (cc 6)
    · exact (cc 7)
    · exact (cc 8)
    · exact (cc 9)
    · exact (cc 10)
    · exact (cc 11)
    · exact (cc 12)
    · exact (cc 13)
    · exact (cc 14)
    · exact (cc 15)
def laid4 : List (String × DataW Unit) := [("hayloft/table.unitsBounds", Rows.laid_hayloft_table_unitsBounds), ("hayloft/table.latBounds", Rows.laid_hayloft_table_latBounds), ("hayloft/table.busyBounds", Rows.laid_hayloft_table_busyBounds), ("hayloft/table.delayBounds", Rows.laid_hayloft_table_delayBounds)]
theorem big_of {W : World} (hsh : W.ShapedOpen Tryd.prog) : 5 ≤ W.heap.size := by
  have globs : Tryd.prog.globals.size = 5 := by kernel_rfl
  have big : 5 < (begin Tryd.prog (fun _ _ => 0) default).world.heap.size := of_decide_eq_true (by kernel_rfl)
  obtain ⟨o, o0, h1, _⟩ := hsh.2 5 (by rw [globs]; decide) big
  rcases Nat.lt_or_ge 5 W.heap.size with h | h
  · omega
  · rw [Array.getElem?_eq_none h] at h1; cases h1

set_option maxRecDepth 20000 in
theorem bnds_of {W : World} {l : List (String × DataW Unit)} (hP : laidMet Tryd.prog l W) (hu : ("hayloft/table.unitsBounds", Rows.laid_hayloft_table_unitsBounds) ∈ l) (hl : ("hayloft/table.latBounds", Rows.laid_hayloft_table_latBounds) ∈ l) (hb : ("hayloft/table.busyBounds", Rows.laid_hayloft_table_busyBounds) ∈ l) (hd : ("hayloft/table.delayBounds", Rows.laid_hayloft_table_delayBounds) ∈ l) (hz : 5 ≤ W.heap.size) : Tb.Bnds W := by
  have hd := bnd_of (Lib.laidMet.reads hP (n := "hayloft/table.delayBounds") (d := Rows.laid_hayloft_table_delayBounds) hd) (g := 0) (by kernel_rfl) (by kernel_rfl)
  have hu := bnd_of (Lib.laidMet.reads hP (n := "hayloft/table.unitsBounds") (d := Rows.laid_hayloft_table_unitsBounds) hu) (g := 1) (by kernel_rfl) (by kernel_rfl)
  have hl := bnd_of (Lib.laidMet.reads hP (n := "hayloft/table.latBounds") (d := Rows.laid_hayloft_table_latBounds) hl) (g := 2) (by kernel_rfl) (by kernel_rfl)
  have hb := bnd_of (Lib.laidMet.reads hP (n := "hayloft/table.busyBounds") (d := Rows.laid_hayloft_table_busyBounds) hb) (g := 3) (by kernel_rfl) (by kernel_rfl)
  exact ⟨hd.1, hd.2, hu.1, hu.2, hl.1, hl.2, hb.1, hb.2, hz⟩
theorem env4 {W : World} (hL : laidMetH Tryd.prog laid4 W) (hsh : W.ShapedOpen Tryd.prog) : Tb.Bnds W :=
  bnds_of (l := laid4) hL (by simp [laid4]) (by simp [laid4]) (by simp [laid4]) (by simp [laid4]) (big_of hsh)
theorem env5 {W : World} (hL : laidMetH Tryd.prog laid5 W) : Tb.Bnds W ∧ Env W := by
  have hP : laidMet Tryd.prog laid5 W := hL
  have he := ends_of (Lib.laidMet.reads hP (n := "hayloft/program.ends") (d := Rows.laid_hayloft_program_ends) (by simp [laid5]))
  exact ⟨bnds_of (l := laid5) hL (by simp [laid5]) (by simp [laid5]) (by simp [laid5]) (by simp [laid5]) he.2, ⟨he.1, he.2⟩⟩

set_option maxRecDepth 100000 in
/-- The wrap: what the listed variables hold, and the world's shape, are handed to the contract. -/
theorem wrap {H : Type} {enc : TypeId × Value → H} {os : Os} {f : FuncId} {fn : Func} {s : ChangeSpec} {lv : List (String × DataW Unit)} (started : os.Started) (noInit : Tryd.prog.inits.idxOf? f = none) (hfn : Tryd.prog.funcs[f]? = some fn)
    (witness : ∃ (w : World) (tape : Tape) (i : Input), w.os = os ∧ (w.forCall tape i).Shaped Tryd.prog ∧ i.vars = [] ∧ Input.okWide Tryd.prog (w.forCall tape i) .any w.heap.size f i ∧
      ((s.pre enc Tryd.prog fn [] false (w.forCall tape i).memory i.args ∧ laidMetH Tryd.prog lv (w.forCall tape i).memory) ∧ sizedMet enc Tryd.prog fn (OpenSpec.ofChange s) false (w.forCall tape i).memory i.args) ∧ Assume.holds {} Tryd.prog (lone (Frame.enter Tryd.prog f i.args .normal) [] (w.forCall tape i)))
    (contract : ∀ (W : World) (base : Nat) (args : Array Value) (ds gs : List (DataW H)) (before : List MemPlace),
      (∀ (j : Nat) t v, fn.params[j]? = some t → args[j]? = some v → Value.okWide Tryd.prog W .any base t v) →
      DataW.Whole enc Tryd.prog fn.params.toList s.vars false W args.toList ds gs before →
      (DataW.weightsEach Tryd.prog (fn.params.toList ++ s.plain.varTypes Tryd.prog) (ds ++ gs)).all (· ≤ reachBytes) = true →
      laidMetH Tryd.prog lv W → W.ShapedOpen Tryd.prog →
      Calls Tryd.prog f args W fun e W' => ∃ v, e = .returned v ∧ s.post enc Tryd.prog fn false true false false W args v W') :
    ReturnsInHanded {} Tryd.checked os f .any (fun w args => (s.pre enc Tryd.prog fn [] false w args ∧ laidMetH Tryd.prog lv w) ∧ sizedMet enc Tryd.prog fn (OpenSpec.ofChange s) false w args) (s.post enc Tryd.prog fn false true false false) := by
  refine returnsInHanded_of_calls (C := Tryd.checked) own started noInit witness ?_
  intro w tape i _ hsh _ hok hpre hholds
  obtain ⟨_, _, _, fn', hfn', _, _, _, _, hval⟩ := hok
  have e : fn' = fn := Option.some.inj (hfn'.symm.trans hfn)
  subst e
  obtain ⟨⟨⟨ds, gs, before, hw, hc⟩, hx⟩, hz⟩ := hpre
  have hw' := DataW.Whole.of_heap (w' := w.forCall tape i) (by rfl) hw
  refine (contract (w.forCall tape i) w.heap.size i.args ds gs before hval hw' (hz.weights hw) (hx.of_heap (by rfl)) hsh).mono fun e W' ⟨v, he, hp⟩ => ?_
  subst he
  exact ChangeSpec.post_blind hp


set_option maxRecDepth 100000 in
theorem wit_met4 (os : Os) (args : Array Value) : laidMetH Tryd.prog laid4 ((((World.holding Tryd.prog os ⟨#[], #[], []⟩).layVars Tryd.prog laid4).forCall (fun _ _ => 0) ⟨#[], args, []⟩).memory) := by
  refine laidMetH_of_parts ?_ (by kernel_rfl)
  have h : laidMet Tryd.prog laid4 ((World.holding Tryd.prog os ⟨#[], #[], []⟩).layVars Tryd.prog laid4) :=
    laidMet_layVars (w0 := World.holding Tryd.prog os ⟨#[], #[], []⟩) ["hayloft/table.unitsBounds", "hayloft/table.latBounds", "hayloft/table.busyBounds", "hayloft/table.delayBounds"] [] (by rw [show (laid4.filter fun x => (["hayloft/table.unitsBounds", "hayloft/table.latBounds", "hayloft/table.busyBounds", "hayloft/table.delayBounds"] : List String).contains x.1) = laid4 from by kernel_rfl]) (by kernel_rfl) (by kernel_rfl) (by rw [show (laid4.filter fun x => !(["hayloft/table.unitsBounds", "hayloft/table.latBounds", "hayloft/table.busyBounds", "hayloft/table.delayBounds"] : List String).contains x.1) = [] from by kernel_rfl]; exact LaidIn.none)
  exact h.of_heap (by simp [World.memory, World.forCall, Input.heap])
theorem wit_os4 (os : Os) : ((World.holding Tryd.prog os ⟨#[], #[], []⟩).layVars Tryd.prog laid4).os = os := World.layVars_os _ _ _
set_option maxRecDepth 100000 in
theorem wit_met5 (os : Os) (args : Array Value) : laidMetH Tryd.prog laid5 ((((World.holding Tryd.prog os ⟨#[], #[], []⟩).layVars Tryd.prog laid5).forCall (fun _ _ => 0) ⟨#[], args, []⟩).memory) := by
  refine laidMetH_of_parts ?_ (by kernel_rfl)
  have h : laidMet Tryd.prog laid5 ((World.holding Tryd.prog os ⟨#[], #[], []⟩).layVars Tryd.prog laid5) :=
    laidMet_layVars (w0 := World.holding Tryd.prog os ⟨#[], #[], []⟩) ["hayloft/table.unitsBounds", "hayloft/table.latBounds", "hayloft/table.busyBounds", "hayloft/table.delayBounds", "hayloft/program.ends"] [] (by rw [show (laid5.filter fun x => (["hayloft/table.unitsBounds", "hayloft/table.latBounds", "hayloft/table.busyBounds", "hayloft/table.delayBounds", "hayloft/program.ends"] : List String).contains x.1) = laid5 from by kernel_rfl]) (by kernel_rfl) (by kernel_rfl) (by rw [show (laid5.filter fun x => !(["hayloft/table.unitsBounds", "hayloft/table.latBounds", "hayloft/table.busyBounds", "hayloft/table.delayBounds", "hayloft/program.ends"] : List String).contains x.1) = [] from by kernel_rfl]; exact LaidIn.none)
  exact h.of_heap (by simp [World.memory, World.forCall, Input.heap])
theorem wit_os5 (os : Os) : ((World.holding Tryd.prog os ⟨#[], #[], []⟩).layVars Tryd.prog laid5).os = os := World.layVars_os _ _ _
theorem tySize : Tryd.prog.types.size = 204 := by kernel_rfl
theorem laidOut : laidOutB Tryd.prog = true := by kernel_rfl
theorem trod_ints4 {H : Type} {enc : TypeId × Value → H} {W : World} {base fuel : Nat} {sp : Nat → Bool} {held : Bool} {c0 c1 c2 c3 : Value} {y : DataW H × List MemPlace} (h : DataW.trod enc Tryd.prog W base sp held fuel 23 [c0, c1, c2, c3] = some y) :
    ∃ a b c d : Int, c0 = .int .i64 a ∧ c1 = .int .i64 b ∧ c2 = .int .i64 c ∧ c3 = .int .i64 d ∧ y.2 = [] := by
  obtain ⟨xs, m, _, hx, _, hn, he⟩ := DataW.trod_array Tryd.underlying23 h
  have k3 : Tryd.prog.cellsOf 3 = 1 := by kernel_rfl
  rw [k3] at he
  have h0 := he 0 (by omega)
  have h1 := he 1 (by omega)
  have h2 := he 2 (by omega)
  have h3 := he 3 (by omega)
  match xs, hn with
  | [x0, x1, x2, x3], _ =>
    obtain ⟨a, a1, a2, _⟩ := DataW.trod_int Tryd.underlying3 h0
    obtain ⟨b, b1, b2, _⟩ := DataW.trod_int Tryd.underlying3 h1
    obtain ⟨c, c1', c2', _⟩ := DataW.trod_int Tryd.underlying3 h2
    obtain ⟨d, d1, d2, _⟩ := DataW.trod_int Tryd.underlying3 h3
    simp at a1 b1 c1' d1
    refine ⟨a, b, c, d, a1, b1, c1', d1, ?_⟩
    rw [hx]; simp [a2, b2, c2', d2]

def ofFour (a b c d : Int) : Nat → Int := fun k => if k = 0 then a else if k = 1 then b else if k = 2 then c else d

set_option maxRecDepth 100000 in
theorem open_tab {H : Type} {enc : TypeId × Value → H} {W : World} {r : Reach} {b0 base : Nat} {sp : Nat → Bool} {held : Bool} {v : Value} {d : DataW H} {p : List MemPlace} (hv : Value.okWide Tryd.prog W r b0 25 v) (h : DataW.Trod enc Tryd.prog W base sp held 25 v d p) : (∃ t : Tab, v = t.val) ∧ p = [] := by
  obtain ⟨cs, rfl, hsz⟩ := okWide_struct Tryd.underlying25 hv
  have k27 : Tryd.prog.cellsOf 25 = 13 := by kernel_rfl
  have k25 : Tryd.prog.cellsOf 23 = 4 := by kernel_rfl
  have k3 : Tryd.prog.cellsOf 3 = 1 := by kernel_rfl
  rw [k27] at hsz
  obtain ⟨l⟩ := cs
  clear hv
  match l, hsz with
  | [c0, c1, c2, c3, c4, c5, c6, c7, c8, c9, c10, c11, c12], _ =>
    obtain ⟨fuel, hf⟩ := h
    obtain ⟨y0, y1, y2, y3, n, hx, _, h0, h1, h2, h3⟩ := Joins.trod_struct4 Tryd.underlying25 hf
    rw [k25] at h0 h1 h2
    rw [k3] at h3
    obtain ⟨a0, a1, a2, a3, rfl, rfl, rfl, rfl, e0⟩ := trod_ints4 h0
    obtain ⟨l0, l1, l2, l3, rfl, rfl, rfl, rfl, e1⟩ := trod_ints4 h1
    obtain ⟨b0, b1, b2, b3, rfl, rfl, rfl, rfl, e2⟩ := trod_ints4 h2
    obtain ⟨dd, f1, f2, _⟩ := DataW.trod_int Tryd.underlying3 h3
    have f1' : [c12] = [Value.int .i64 dd] := f1
    obtain rfl : c12 = .int .i64 dd := by simpa using f1'
    refine ⟨⟨⟨ofFour a0 a1 a2 a3, ofFour l0 l1 l2 l3, ofFour b0 b1 b2 b3, dd⟩, rfl⟩, ?_⟩
    simp [e0, e1, e2, f2] at hx
    exact hx.2

theorem trod_struct5 {H : Type} {enc : TypeId × Value → H} {P : Program} {w : World} {base : Nat} {spare : Nat → Bool} {held : Bool} {t : TypeId} {f0 f1 f2 f3 f4 : Field} {fuel : Nat} {cs : List Value} {x : DataW H × List MemPlace} (ht : P.underlying t = some (.struct #[f0, f1, f2, f3, f4])) (h : DataW.trod enc P w base spare held fuel t cs = some x) :
    ∃ y0 y1 y2 y3 y4 n, x = (.agg [y0.1, y1.1, y2.1, y3.1, y4.1], y0.2 ++ (y1.2 ++ (y2.2 ++ (y3.2 ++ y4.2)))) ∧ cs.length = P.cellsOf t ∧ DataW.trod enc P w base spare held n f0.type ((cs.drop f0.offset).take (P.cellsOf f0.type)) = some y0 ∧
      DataW.trod enc P w base spare held n f1.type ((cs.drop f1.offset).take (P.cellsOf f1.type)) = some y1 ∧ DataW.trod enc P w base spare held n f2.type ((cs.drop f2.offset).take (P.cellsOf f2.type)) = some y2 ∧
      DataW.trod enc P w base spare held n f3.type ((cs.drop f3.offset).take (P.cellsOf f3.type)) = some y3 ∧ DataW.trod enc P w base spare held n f4.type ((cs.drop f4.offset).take (P.cellsOf f4.type)) = some y4 := by
  obtain ⟨xs, n, _, rfl, hl, hlen, hf⟩ := DataW.trod_struct ht h
  match xs, hlen with
  | [y0, y1, y2, y3, y4], _ => exact ⟨y0, y1, y2, y3, y4, n, by simp, hl, by simpa using hf 0 f0 rfl, by simpa using hf 1 f1 rfl, by simpa using hf 2 f2 rfl, by simpa using hf 3 f3 rfl, by simpa using hf 4 f4 rfl⟩

set_option maxRecDepth 20000
theorem opsAt_nil (w : World) (ao : Option Addr) : OpsAt w ao [] := ⟨by simp, by simp, fun h => by simp at h⟩
theorem reach_eq : reachBytes = 140737488351232 := rfl
theorem addr_add (b f : Nat) (n : Nat) : (⟨b, f, none⟩ : Addr).add n = ⟨b, f + n, none⟩ := by
  unfold Addr.add
  split
  · rename_i h; subst h; rfl
  · rfl
/-- Cells in a row, told by block and offset. -/
theorem cells_at {w : World} {b f n : Nat} {cs : List Value} (h : w.cells? 0 ⟨b, f, none⟩ n = some cs) (hn : 0 < n) : b < w.heap.size ∧ ∀ i v, cs[i]? = some v → w.cell? ⟨b, f + i, none⟩ = some v := by
  obtain ⟨_, hl, hc⟩ := World.cells?_some h
  refine ⟨World.cells?_block h hn, fun i v e => ?_⟩
  have hi : i < n := by
    rcases Nat.lt_or_ge i n with h | h
    · exact h
    · rw [List.getElem?_eq_none (by omega)] at e; cases e
  have := hc i hi
  rw [addr_add, e] at this
  exact this
theorem spot_none {w : World} {a : Addr} {n : Nat} {cs : List Value} (h : w.cells? 0 a n = some cs) (hn : 0 < n) : a = ⟨a.block, a.off, none⟩ := by
  obtain ⟨_, hl, hc⟩ := World.cells?_some h
  have h0 := hc 0 hn
  have ha : a.add 0 = a := by unfold Addr.add; simp
  rw [ha, List.getElem?_eq_getElem (by omega)] at h0
  obtain ⟨b, f, s⟩ := a
  cases s with
  | none => rfl
  | some s =>
    unfold World.cell? at h0
    split at h0
    · simp at h0
    · cases h0

theorem weightsAll_mem {H : Type} {P : Program} {e : TypeId} {d : DataW H} {n : Nat} : ∀ {l : List (DataW H)}, d ∈ l → n ∈ d.weights P e → n ∈ DataW.weightsAll P e l
  | x :: r, hd, hn => by
    unfold DataW.weightsAll
    rcases List.mem_cons.1 hd with rfl | hd
    · exact List.mem_append_left _ hn
    · exact List.mem_append_right _ (weightsAll_mem hd hn)

/-- One operation, out of its cells. -/
theorem open_o {H : Type} {enc : TypeId × Value → H} {W : World} {base fuel : Nat} {sp : Nat → Bool} {held : Bool} {cs : List Value} {y : DataW H × List MemPlace} (h : DataW.trod enc Tryd.prog W base sp held fuel 40 cs = some y) : ∃ o : O, o.Ok ∧ cs = [.int .i8 o.op, .int .u8 o.d, .int .u8 o.a, .int .u8 o.b, .int .i64 o.im] := by
  have k49 : Tryd.prog.cellsOf 40 = 5 := by kernel_rfl
  have k38 : Tryd.prog.cellsOf 36 = 1 := by kernel_rfl
  have k5 : Tryd.prog.cellsOf 5 = 1 := by kernel_rfl
  have k2 : Tryd.prog.cellsOf 2 = 1 := by kernel_rfl
  obtain ⟨y0, y1, y2, y3, y4, n, hx, hl, h0, h1, h2, h3, h4⟩ := trod_struct5 Tryd.underlying40 h
  rw [k49] at hl
  match cs, hl with
  | [c0, c1, c2, c3, c4], _ =>
    rw [k38] at h0
    rw [k5] at h1 h2 h3
    rw [k2] at h4
    obtain ⟨a, a1, a2, a3⟩ := DataW.trod_int Tryd.underlying36 h0
    obtain ⟨b, b1, b2, b3⟩ := DataW.trod_int Tryd.underlying5 h1
    obtain ⟨c, c1', c2', c3'⟩ := DataW.trod_int Tryd.underlying5 h2
    obtain ⟨e, e1, e2, e3⟩ := DataW.trod_int Tryd.underlying5 h3
    obtain ⟨g, g1, g2, g3⟩ := DataW.trod_int Tryd.underlying2 h4
    have a1' : [c0] = [Value.int .i8 a] := a1
    have b1' : [c1] = [Value.int .u8 b] := b1
    have c1'' : [c2] = [Value.int .u8 c] := c1'
    have e1' : [c3] = [Value.int .u8 e] := e1
    have g1' : [c4] = [Value.int .i64 g] := g1
    obtain rfl : c0 = .int .i8 a := by simpa using a1'
    obtain rfl : c1 = .int .u8 b := by simpa using b1'
    obtain rfl : c2 = .int .u8 c := by simpa using c1''
    obtain rfl : c3 = .int .u8 e := by simpa using e1'
    obtain rfl : c4 = .int .i64 g := by simpa using g1'
    have w0 := wf8 a3
    have w1 := wfu8 b3
    have w2 := wfu8 c3'
    have w3 := wfu8 e3
    have w4 := wf64 g3
    exact ⟨⟨a, b, c, e, g⟩, ⟨w0.1, w0.2, w1.1, w1.2, w2.1, w2.2, w3.1, w3.2, w4.1, w4.2⟩, rfl⟩

/-- A list of operations, out of its cell. -/
theorem open_list {H : Type} {enc : TypeId × Value → H} {W : World} {fuel : Nat} {held : Bool} {cs : List Value} {y : DataW H × List MemPlace} (h : DataW.trod enc Tryd.prog W 0 (fun _ => true) held fuel 22 cs = some y) (hw : ∀ n, n ∈ y.1.weights Tryd.prog 22 → n ≤ reachBytes) :
    ∃ (ao : Option Addr) (cap : Nat) (xs : List O), cs = [.slice ao xs.length cap] ∧ OpsAt W ao xs ∧ xs.length ≤ cap := by
  have k49 : Tryd.prog.cellsOf 40 = 5 := by kernel_rfl
  have b49 : Tryd.prog.bytesOf 40 = 16 := by kernel_rfl
  rcases Deep.open_slice Tryd.underlying22 h with ⟨rfl, rfl⟩ | ⟨a, len, cap, m, n, D, Pl, rfl, _, hlc, _, hm, rfl, hx⟩
  · exact ⟨none, 0, [], rfl, opsAt_nil _ _, by simp⟩
  · have hmc : m = cap := by simpa using hm
    subst hmc
    have hcap : m * 16 ≤ reachBytes := by
      refine hw _ ?_
      unfold DataW.weights
      simp only [Tryd.underlying22, b49]
      refine List.mem_cons.2 (.inl ?_)
      simp; omega
    rw [reach_eq] at hcap
    rw [k49] at hx
    haveI : Inhabited O := ⟨⟨0, 0, 0, 0, 0⟩⟩
    obtain ⟨X, hX⟩ := Deep.choose_lt (α := O) (n := len) (p := fun i o => o.Ok ∧ W.cells? 0 (a.add (i * 5)) 5 = some [.int .i8 o.op, .int .u8 o.d, .int .u8 o.a, .int .u8 o.b, .int .i64 o.im]) (fun i hi => by
      obtain ⟨cs', h1, h2⟩ := hx i (by omega)
      obtain ⟨o, ho, rfl⟩ := open_o h2
      exact ⟨o, ho, h1⟩)
    refine ⟨some a, m, (List.range len).map X, by simp, ⟨fun o ho => ?_, by simp; omega, fun h0 => ?_⟩, by simp; omega⟩
    · obtain ⟨i, hi, rfl⟩ := List.mem_map.1 ho
      exact (hX i (List.mem_range.1 hi)).1
    · have h0' : 0 < len := by simpa using h0
      have ha : a = ⟨a.block, a.off, none⟩ := by
        have := (hX 0 h0').2
        rw [show a.add (0 * 5) = a by unfold Addr.add; simp] at this
        exact spot_none this (by omega)
      refine ⟨a.block, a.off, by rw [← ha], ?_, fun i hi => ?_⟩
      · have := (hX 0 h0').2
        rw [ha, addr_add] at this
        exact (cells_at this (by omega)).1
      · have hi' : i < len := by simpa using hi
        have := (hX i hi').2
        rw [ha, addr_add] at this
        have hc := (cells_at this (by omega)).2
        simp only [List.getElem_map, List.getElem_range]
        exact ⟨hc 0 _ rfl, hc 1 _ rfl, hc 2 _ rfl, hc 3 _ rfl, hc 4 _ rfl⟩


theorem open_ops {H : Type} {enc : TypeId × Value → H} {W : World} {r : Reach} {b0 : Nat} {held : Bool} {v : Value} {d : DataW H} {p : List MemPlace} (hv : Value.okWide Tryd.prog W r b0 22 v) (h : DataW.Trod enc Tryd.prog W 0 (fun _ => true) held 22 v d p) (hw : ∀ n, n ∈ d.weights Tryd.prog 22 → n ≤ reachBytes) :
    ∃ (ao : Option Addr) (cap : Nat) (xs : List O), v = .slice ao xs.length cap ∧ OpsAt W ao xs ∧ xs.length ≤ cap := by
  obtain ⟨a, len, cap, rfl⟩ := okWide_slice Tryd.underlying22 hv
  obtain ⟨fuel, hf⟩ := h
  have hf' : DataW.trod enc Tryd.prog W 0 (fun _ => true) held fuel 22 [.slice a len cap] = some (d, p) := hf
  obtain ⟨ao, c, xs, e, h1, h2⟩ := open_list hf' hw
  exact ⟨ao, c, xs, by simpa using e, h1, h2⟩
end Go.Proofs.YtccakjijoadjkaaDoor.Op

namespace Go.Proofs.YtccakjijoadjkaaDoor.Op
open Go.ChangeShapes Go.WideShapes Go.ChangeAt Go.RowKit

theorem ops_small {H : Type} {enc : TypeId × Value → H} {W : World} {held : Bool} {ao : Option Addr} {n cap : Nat} {d : DataW H} {p : List MemPlace} (h : DataW.Trod enc Tryd.prog W 0 (fun _ => true) held 22 (.slice ao n cap) d p) (hw : ∀ n, n ∈ d.weights Tryd.prog 22 → n ≤ reachBytes) : n ≤ 8796093021952 := by
  have b49 : Tryd.prog.bytesOf 40 = 16 := by kernel_rfl
  obtain ⟨fuel, hf⟩ := h
  have hf' : DataW.trod enc Tryd.prog W 0 (fun _ => true) held fuel 22 [.slice ao n cap] = some (d, p) := hf
  rcases Deep.open_slice Tryd.underlying22 hf' with ⟨e, -⟩ | ⟨a, len, cap2, m, q, D, Pl, e, -, hlc, -, hm, e2, -⟩
  · injection e with e _
    injection e with _ e _
    omega
  · have hmc : m = cap2 := by simpa using hm
    have hcap : m * 16 ≤ reachBytes := by
      refine hw _ ?_
      have e3 : d = _ := congrArg Prod.fst e2
      rw [e3]
      unfold DataW.weights
      simp only [Tryd.underlying22, b49]
      refine List.mem_cons.2 (.inl ?_)
      simp; omega
    rw [reach_eq] at hcap
    injection e with e _
    injection e with _ e _
    omega
end Go.Proofs.YtccakjijoadjkaaDoor.Op

namespace Go.Proofs.YtccakjijoadjkaaDoor.Hc
open Go.ChangeShapes Go.WideShapes Go.ChangeAt Go.RowKit
open _root_.Go.Proofs.YtccakjijoadjkaaDoor.Op

set_option maxRecDepth 100000 in
theorem htells_wit (os : Os) (H : Type) (enc : TypeId × Value → H) : ∃ (w : World) (tape : Tape) (i : Input), w.os = os ∧ (w.forCall tape i).Shaped Tryd.prog ∧ i.vars = [] ∧ Input.okWide Tryd.prog (w.forCall tape i) .any w.heap.size 6 i ∧
      ((Rows.heightTellsSpec.pre enc Tryd.prog Tryd.f6 [] false (w.forCall tape i).memory i.args ∧ laidMetH Tryd.prog Rows.heightTellsRow.laid (w.forCall tape i).memory) ∧ sizedMet enc Tryd.prog Tryd.f6 (OpenSpec.ofChange Rows.heightTellsSpec) false (w.forCall tape i).memory i.args) ∧ Assume.holds {} Tryd.prog (lone (Frame.enter Tryd.prog 6 i.args .normal) [] (w.forCall tape i)) :=
  ChangeSpec.witness_shaped (enc := enc) (C := Tryd.checked) (os := os) (X := fun w _ => laidMetH Tryd.prog Rows.heightTellsRow.laid w) false ((World.holding Tryd.prog os ⟨#[], #[], []⟩).layVars Tryd.prog laid4) #[.slice none 0 0, .agg #[.int .i64 0, .int .i64 0, .int .i64 0, .int .i64 0, .int .i64 0, .int .i64 0, .int .i64 0, .int .i64 0, .int .i64 0, .int .i64 0, .int .i64 0, .int .i64 0, .int .i64 0]] 8 (wit_os4 os)
    (World.shaped_of_ZipB (by kernel_rfl) (by kernel_rfl)) (by kernel_rfl) (by kernel_rfl) (by kernel_rfl) (wit_met4 os _)

set_option maxRecDepth 100000 in
theorem htells_lifted (os : Os) (started : os.Started) (H : Type) (enc : TypeId × Value → H) :
    ReturnsInHanded {} Tryd.checked os 6 .any (fun w args => (Rows.heightTellsSpec.pre enc Tryd.prog Tryd.f6 [] false w args ∧ laidMetH Tryd.prog Rows.heightTellsRow.laid w) ∧ sizedMet enc Tryd.prog Tryd.f6 (OpenSpec.ofChange Rows.heightTellsSpec) false w args)
      (Rows.heightTellsSpec.post enc Tryd.prog Tryd.f6 false true false false) := by
  refine wrap started (by kernel_rfl) Tryd.func6 (htells_wit os H enc) ?_
  intro W base args ds gs before hval0 hW hsz hL hsh
  have hval : ∀ (j : Nat) t v, Tryd.f6.params[j]? = some t → args[j]? = some v → Value.okWide Tryd.prog W .any base t v := hval0
  have hW' := hW
  obtain ⟨p, q, hA0, hV, rfl, _, _⟩ := hW
  have hA : DataW.TrodAll enc Tryd.prog W 0 (fun _ => true) true Tryd.f6.params.toList args.toList ds p := hA0
  rw [Tryd.params6] at hA hval hsz
  obtain ⟨v0, v1, d0, d1, p0, p1, rfl, rfl, rfl, h0, h1⟩ := trodAll_two hA
  obtain ⟨rfl, rfl⟩ := trodVars_none hV
  obtain ⟨ao, cap, xs, rfl, hp, _⟩ := open_ops (hval 0 22 v0 rfl rfl) h0 fun n hn => by
    have := List.all_eq_true.1 hsz n (DataW.weights_mem_each (j := 0) rfl rfl n hn)
    simpa using this
  obtain ⟨⟨t, rfl⟩, rfl⟩ := open_tab (hval 1 25 v1 rfl rfl) h1
  simp only [List.append_nil] at hW'
  refine (Dp.law_htells ao cap xs t W hp (ops_small h0 fun n hn => by have := List.all_eq_true.1 hsz n (DataW.weights_mem_each (j := 0) rfl rfl n hn); simpa using this) (env4 hL hsh)).mono fun e W' ⟨he, hb⟩ => ?_
  subst he
  refine ⟨_, rfl, _, _, _, [], p0 ++ [], [], hW', trodAll_mk1 (shut_bool Tryd.underlying4 _), ?_, rfl, hb.frame _, fun h => by cases h⟩
  rw [Tryd.params6]
  exact trodAll_mk2 (Below.trod laidOut (by kernel_rfl) (by rw [tySize]; decide) h0 hb fun x hx => by obtain ⟨fuel, hf⟩ := h0; exact DataW.trod_lt _ _ _ _ hf x hx) (Below.trod laidOut (by kernel_rfl) (by rw [tySize]; decide) h1 hb (fun x hx => by cases hx))

theorem htells_row : Rows.HeightTellsSaid :=
  OpenClaim.holds_of_wide 6 Tryd.f6 rfl rfl rfl rfl rfl rfl rfl ⟨rfl, rfl, rfl, rfl, rfl⟩ rfl rfl rfl rfl rfl (by kernel_rfl) Tryd.func6 (by kernel_rfl)
    (of_decide_eq_true (by kernel_rfl)) (by unfold Func.isWrapper; first | (rw [if_pos (by decide +kernel)]; kernel_rfl) | (rw [if_neg (by decide +kernel)]; exact ⟨rfl, rfl⟩))
    (fun os started H enc _ => htells_lifted os started H enc)

theorem htells_card : Rows.HeightTellsCardSaid :=
  Claim7.holds_tied_plain_at .later [] [.wider, .wider, .wider, .wider] true (true, "a30ebd5077f33e5cdccaff7d2a4a0209575c01e2b2de5e3f09ea03bda577cf6e") true htells_row (fun _ h => by cases h) (by kernel_rfl) (fun _ h => by cases h) heightTells_row_tie rfl ⟨rfl, rfl⟩ (by kernel_rfl) rfl
    (fun f fn hf hfn => by
      obtain rfl : f = 6 := Option.some.inj ((show Tryd.prog.funcNamed "hayloft/hayloftlaw12.HeightTells" = some 6 by kernel_rfl).symm.trans hf) |>.symm
      obtain rfl : fn = Tryd.f6 := (Option.some.inj (Tryd.func6.symm.trans hfn)).symm
      exact ⟨by kernel_rfl, fun j t ht => by
        rw [Tryd.params6] at ht
        have hm : t ∈ [22, 25] := by simpa using Array.mem_of_getElem? ht
        have hall : ([22, 25].all fun u => !Tryd.prog.wantsStandIn u) = true := by kernel_rfl
        exact (show Tryd.prog.wantsStandIn t = false by simpa using List.all_eq_true.1 hall t hm)⟩)
    (by kernel_rfl)
#print axioms htells_card
end Go.Proofs.YtccakjijoadjkaaDoor.Hc
