/- What is no table or no list of operations (check; the document's Right), read off the program by the walk. Conditions: the list lies in memory, the four bounds as the program lays them. -/
import Derived.Test.YthdpgimdakmdgaaDoorEc
import Derived.Test.YthdpgimdakmdgaaDoorAg
namespace Go.Proofs.YthdpgimdakmdgaaDoor.Dp
open Go.ChangeShapes Go.WideShapes Go.ChangeAt Go.RowKit
open _root_.Go.Proofs.YthdpgimdakmdgaaDoor.Op _root_.Go.Proofs.YthdpgimdakmdgaaDoor.So
open _root_.Go.Proofs.YthdpgimdakmdgaaDoor.Tb (Tab TabAt Bnds)
set_option maxRecDepth 20000

def okL (o : O) : Bool := decide (1 ≤ o.op) && decide (o.op ≤ 17) && okO o
def lisE (t : Tab) (xs : List O) : Int := if t.ok = false then 20 else if 1024 < xs.length then 3 else if xs.all okL then 0 else 30
theorem check_any' (t : Tab) (w : World) (hG : Bnds w) : Calls Tryd.prog 26 #[t.val] w fun e w' => e = .returned (.int .i64 (Tb.ckR t)) ∧ Below w.heap.size w w' := Tb.check_any t w hG
theorem all_take {xs : List O} {k : Nat} (h : k < xs.length) : (xs.take (k + 1)).all okL = ((xs.take k).all okL && okL xs[k]) := by
  rw [List.take_succ_eq_append_getElem h, List.all_append]; simp
theorem all_no {xs : List O} {k : Nat} (h : k < xs.length) (hb : okL xs[k] = false) : xs.all okL = false := by
  cases e : xs.all okL
  · rfl
  · rw [List.all_eq_true.1 e _ (List.getElem_mem h)] at hb; cases hb
structure Ck (w : World) (t : Tab) (ao : Option Addr) (xs : List O) (W : World) : Prop where
  t : TabAt W w.heap.size t
  o : OpsAt W ao xs
  up : Below w.heap.size w W
set_option maxHeartbeats 4000000 in
theorem lis_any (ao : Option Addr) (cap : Nat) (xs : List O) (t : Tab) (w : World) (hG : Bnds w) (h : OpsAt w ao xs) :
    Calls Tryd.prog 22 #[.slice ao xs.length cap, t.val] w fun e w' => e = .returned (.int .i64 (lisE t xs)) ∧ Below w.heap.size w w' := by
  have HC : Hid (∀ W, Bnds W → Calls Tryd.prog 26 #[t.val] W fun e w' => e = .returned (.int .i64 (Tb.ckR t)) ∧ Below W.heap.size W w') := fun W hG => Tb.check_any t W hG
  have HO : Hid (OpsAt w ao xs) := h
  have HB : Hid (Bnds w) := hG
  have hlen := h.len
  have hdef : lisE t xs = if t.ok = false then 20 else if 1024 < xs.length then 3 else if xs.all okL then 0 else 30 := rfl
  rw [hdef]
  clear hdef h hG
  have hck : Tb.ckR t = if t.ok then 0 else 20 := rfl
  have hA : Hid (∀ (c : Array Value), Bnds (w.alloc (.cells c 25))) := fun c => HB.out.below ((Below.refl w.heap.size w).alloc (Nat.le_refl _) _) HB.out.big
  unfold Tab.val at *
  cases hok : t.ok
  · rw [hok] at hck
    have hck' : Tb.ckR t = 20 := hck
    rw [hck'] at HC
    rw [if_pos rfl]
    go_enter Tryd.func22, Tryd.ntmps22
    go_wp2_with (first | (go_at_call 26; refine Calls.mono (HC.out _ (hA.out _)) ?_; rintro e w1 ⟨rfl, hb⟩; obtain ⟨-, hb0, hz⟩ := one_new w _ _ hb; have HB1 : Hid (Below w.heap.size w w1) := hb0; clear hb hb0))
    go_ret
    exact ⟨rfl, HB1.out⟩
  · rw [hok] at hck
    have hck' : Tb.ckR t = 0 := hck
    rw [hck'] at HC
    rw [if_neg (by decide)]
    by_cases hl : 1024 < xs.length
    · have hl' : (1024 : Int) < (xs.length : Int) := by omega
      rw [if_pos hl]
      go_enter Tryd.func22, Tryd.ntmps22
      go_wp2_with (first | (go_at_call 26; refine Calls.mono (HC.out _ (hA.out _)) ?_; rintro e w1 ⟨rfl, hb⟩; obtain ⟨-, hb0, hz⟩ := one_new w _ _ hb; have HB1 : Hid (Below w.heap.size w w1) := hb0; clear hb hb0))
      go_ret
      exact ⟨rfl, HB1.out⟩
    · have hl' : ¬ (1024 : Int) < (xs.length : Int) := by omega
      rw [if_neg hl]
      obtain ⟨v, hv⟩ : ∃ v : Int, (if xs.all okL then (0 : Int) else 30) = v := ⟨_, rfl⟩
      rw [hv]
      have HV0 : Hid (xs.all okL = true → 0 = v) := fun h => by rw [← hv, h]; rfl
      have HV1 : Hid (xs.all okL = false → 30 = v) := fun h => by rw [← hv, h]; rfl
      clear hv
      go_enter Tryd.func22, Tryd.ntmps22
      go_wp2_with (first | (go_at_call 26; refine Calls.mono (HC.out _ (hA.out _)) ?_; rintro e w1 ⟨rfl, hb⟩; obtain ⟨-, hb0, hz⟩ := one_new w _ _ hb; have HB1 : Hid (Below w.heap.size w w1) := hb0; clear hb hb0))
      go_loopw [18] (fun i wr => ∃ k : Nat, k ≤ xs.length ∧ i = .int .i64 k ∧ Below w.heap.size w wr ∧ (xs.take k).all okL = true) (fun i _ => xs.length - (intOf i).toNat)
      case atStart => exact ⟨0, by omega, rfl, HB1.out, by simp⟩
      case round =>
        rename World => wr
        obtain ⟨k, hk, rfl, hbw, hall⟩ := hrel
        have HB2 : Hid (Below w.heap.size w wr) := hbw
        have HAl : Hid ((xs.take k).all okL = true) := hall
        clear hbw HB1 hall
        by_cases hlt : k < xs.length
        · have k0 : (0 : Int) ≤ (k : Int) := by omega
          have k1 : (k : Int) < (xs.length : Int) := by omega
          obtain ⟨b, f, rfl, hz2, hx⟩ := (HO.out.below HB2.out).is (by omega)
          obtain ⟨q0, q1, q2, q3, q4⟩ := hx k hlt
          have HN : Hid ((xs.take (k + 1)).all okL = okL xs[k]) := by show (xs.take (k + 1)).all okL = okL xs[k]; rw [all_take hlt, HAl.out, Bool.true_and]
          have HT : Hid (okL xs[k] = false → xs.all okL = false) := all_no hlt
          have hOk : xs[k].Ok := HO.out.ok _ (List.getElem_mem hlt)
          clear hx HAl
          generalize xs[k] = o at *
          have HCk : Hid (∀ W, Calls Tryd.prog 41 #[o.val] W fun e w' => e = .returned (.int .i64 (ckE o)) ∧ Below W.heap.size W w') := fun W => Op.check_any o W hOk
          clear hOk
          by_cases h1 : o.op < 1
          · go_wp2_with fail
            go_ret
            exact ⟨ret_int (HV1.out (HT.out (by simp [okL]; omega))), HB2.out.trans ((Below.refl _ _).alloc HB2.out.size _)⟩
          · by_cases h2 : 17 < o.op
            · go_wp2_with fail
              go_ret
              exact ⟨ret_int (HV1.out (HT.out (by simp [okL]; omega))), HB2.out.trans ((Below.refl _ _).alloc HB2.out.size _)⟩
            · have e1 : okL o = okO o := by
                have : decide (1 ≤ o.op) = true := by simp; omega
                have h4 : decide (o.op ≤ 17) = true := by simp; omega
                unfold okL; rw [this, h4]; rfl
              rw [e1] at HN HT
              clear e1
              cases hoo : okO o
              · rw [show ckE o = 30 by simp [ckE, hoo]] at HCk
                go_wp2_with (first | (go_at_call 41; refine Calls.mono (HCk.out _) ?_; rintro e w2 ⟨rfl, hb⟩; obtain ⟨-, hb0, hz⟩ := one_new wr _ _ hb; have HB3 : Hid (Below w.heap.size w w2) := HB2.out.trans (hb0.mono HB2.out.size); clear hb hb0))
                go_ret
                exact ⟨ret_int (HV1.out (HT.out hoo)), HB3.out⟩
              · rw [show ckE o = 0 by simp [ckE, hoo]] at HCk
                go_wp2_with (first | (go_at_call 41; refine Calls.mono (HCk.out _) ?_; rintro e w2 ⟨rfl, hb⟩; obtain ⟨-, hb0, hz⟩ := one_new wr _ _ hb; have HB3 : Hid (Below w.heap.size w w2) := HB2.out.trans (hb0.mono HB2.out.size); clear hb hb0))
                go_roundw
                case rel => exact ⟨k + 1, by omega, by go_num, HB3.out, by rw [HN.out, hoo]⟩
                case measure => simp [intOf]; omega
        · have z2 : ¬ (k : Int) < (xs.length : Int) := by omega
          have HA2 : Hid (xs.all okL = true) := by
            have h := HAl.out
            rw [List.take_of_length_le (by omega)] at h
            exact h
          clear HAl
          go_wp2_with fail
          go_ret
          exact ⟨ret_int (HV0.out HA2.out), HB2.out⟩
end Go.Proofs.YthdpgimdakmdgaaDoor.Dp
