/- What package program's Check answers of a program: read off the program by the walk. Conditions: the program lies in memory, and the tables as the program lays them. -/
import Derived.Test.YtccakjijoadjkaaDoorPc
namespace Go.Proofs.YtccakjijoadjkaaDoor.Op
open Go.ChangeShapes Go.WideShapes Go.ChangeAt Go.RowKit
set_option maxRecDepth 20000

def firstE (n : Int) : List Bk → Int
  | [] => 0
  | x :: r => if ckB x n = 0 then firstE n r else ckB x n
theorem firstE_no {n : Int} {ps : List Bk} {k : Nat} (h : k < ps.length) (h0 : ∀ (j : Nat) (hj : j < ps.length), j < k → ckB ps[j] n = 0) (e : ¬ ckB ps[k] n = 0) : ckB ps[k] n = firstE n ps := by
  induction ps generalizing k with
  | nil => simp at h
  | cons x r ih =>
    cases k with
    | zero =>
      have e' : ¬ ckB x n = 0 := e
      show ckB x n = if ckB x n = 0 then firstE n r else ckB x n
      rw [if_neg e']
    | succ k =>
      have hx := h0 0 (by simp) (by omega)
      simp at hx
      simp [firstE, hx]
      exact ih (by simpa using h) (fun j hj hjk => h0 (j + 1) (by simp; omega) (by omega)) (by simpa using e)
theorem firstE_yes {n : Int} {ps : List Bk} (h0 : ∀ (j : Nat) (hj : j < ps.length), ckB ps[j] n = 0) : 0 = firstE n ps := by
  induction ps with
  | nil => rfl
  | cons x r ih =>
    have hx := h0 0 (by simp)
    simp at hx
    simp [firstE, hx]
    exact ih fun j hj => h0 (j + 1) (by simp; omega)
/-- What Check answers. -/
def ckP (ps : List Bk) : Int := if 128 < ps.length ∨ 1024 < opsN ps then 3 else if ps.length = 0 then 50 else firstE ps.length ps

set_option maxHeartbeats 4000000 in
theorem checkP_any (ao : Option Addr) (cap : Nat) (ps : List Bk) (w : World) (h : PAt w ao ps) (he : Env w) :
    Calls Tryd.prog 39 #[.agg #[.slice ao ps.length cap]] w fun e w' => e = .returned (.int .i64 (ckP ps)) ∧ Below w.heap.size w w' := by
  have hlen := h.len
  by_cases h1 : 128 < ps.length
  · rw [show ckP ps = 3 by simp [ckP, h1]]
    clear h he
    go_enter Tryd.func39, Tryd.ntmps39
    go_wp2
    go_ret
    exact ⟨rfl, by go_grown⟩
  · have HO : Hid (∀ w1, Below w.heap.size w w1 → Calls Tryd.prog 67 #[.agg #[.slice ao ps.length cap]] w1 fun e w' => e = .returned (.int .i64 (opsN ps)) ∧ Below w1.heap.size w1 w') := fun w1 hb => ops_any _ _ _ _ (h.below hb) (by omega)
    by_cases h2 : 1024 < opsN ps
    · rw [show ckP ps = 3 by simp [ckP, h2]]
      clear h he
      go_enter Tryd.func39, Tryd.ntmps39
      go_wp2_with (first | (go_at_call 67; refine Calls.mono (HO.out _ (by go_grown)) ?_; rintro e w1 ⟨rfl, hb⟩))
      go_ret
      obtain ⟨-, hb0, -⟩ := one_new w _ _ hb
      exact ⟨rfl, hb0⟩
    · by_cases h3 : ps.length = 0
      · rw [show ckP ps = 50 by simp [ckP, h2, h3]]
        clear h he
        obtain rfl : ps = [] := List.eq_nil_of_length_eq_zero h3
        have HO' : Hid (∀ w1, Below w.heap.size w w1 → Calls Tryd.prog 67 #[.agg #[.slice ao 0 cap]] w1 fun e w' => e = .returned (.int .i64 0) ∧ Below w1.heap.size w1 w') := HO.out
        clear HO h1 h2 h3
        show Calls Tryd.prog 39 #[.agg #[.slice ao 0 cap]] w _
        go_enter Tryd.func39, Tryd.ntmps39
        go_wp2_with (first | (go_at_call 67; refine Calls.mono (HO'.out _ (by go_grown)) ?_; rintro e w1 ⟨rfl, hb⟩; obtain ⟨a1, hb0, hz⟩ := one_new w _ _ hb; have HB1 : Hid _ := hb0; have c0 := a1.c 0 _ rfl; clear hb hb0 a1))
        go_ret
        exact ⟨rfl, HB1.out⟩
      · rw [show ckP ps = firstE ps.length ps by simp [ckP, h1, h2, h3]]
        have HP : Hid _ := h
        have HE : Hid _ := he
        have h6 : ((ps.length : Int) == 0) = false := by simp; exact fun e => h3 (by rw [e]; rfl)
        clear h he
        go_enter Tryd.func39, Tryd.ntmps39
        go_wp2_with (first | (go_at_call 67; refine Calls.mono (HO.out _ (by go_grown)) ?_; rintro e w1 ⟨rfl, hb⟩; obtain ⟨a1, hb0, hz⟩ := one_new w _ _ hb; have HB1 : Hid _ := hb0; have HA : Hid _ := a1; have c0 := a1.c 0 _ rfl; clear hb hb0 a1 HO))
        go_loopw [22] (fun i wr => ∃ k : Nat, k ≤ ps.length ∧ i = .int .i64 k ∧ (∀ (j : Nat) (hj : j < ps.length), j < k → ckB ps[j] ps.length = 0) ∧ At wr w.heap.size #[.slice ao ps.length cap] ∧ Below w.heap.size w wr) (fun i _ => ps.length - (intOf i).toNat)
        case atStart => exact ⟨0, by omega, rfl, fun j _ hj => by omega, HA.out, HB1.out⟩
        case round =>
          rename_i wr
          obtain ⟨k, hk, rfl, hok, hat, hbw⟩ := hrel
          by_cases hlt : k < ps.length
          · obtain ⟨b, f, rfl, hz, hx⟩ := HP.out.is (by omega)
            obtain ⟨p, hp, h5⟩ := hx k hlt
            obtain ⟨c0, c1, c2, c3, c4, c5⟩ := hp.below hbw hz
            have cw := hat.c 0 _ rfl
            have HC : Hid (∀ w1, Below w.heap.size w w1 → Calls Tryd.prog 68 #[ps[k].val p, .int .i64 ps.length] w1 fun e w' => e = .returned (.int .i64 (ckB ps[k] ps.length)) ∧ Below w1.heap.size w1 w') := fun w1 hb => checkBlock_any _ _ _ _ (h5.below hb) (HE.out.up hb)
            have HK : Hid _ := hok
            have HB : Hid _ := hbw
            have HT : Hid _ := hat
            have hzr := hat.lt
            clear hx hp h5 HE HP hok hbw hat
            by_cases h5 : ckB ps[k] ps.length = 0
            · have HN : Hid _ := h5
              rw [h5] at HC
              clear h5
              go_wp2_with (first | (go_at_call 68; refine Calls.mono (HC.out _ (HB.out.alloc HB.out.size _)) ?_; rintro e w2 ⟨rfl, hb⟩))
              go_roundw
              case rel =>
                refine ⟨k + 1, by omega, by go_num, fun j hj hjk => ?_, (HT.out.alloc _).below hb (by simp; omega), (HB.out.alloc HB.out.size _).trans (hb.mono (by have := HB.out.size; simp; omega))⟩
                rcases Nat.lt_or_ge j k with h | h
                · exact HK.out j hj h
                · obtain rfl : j = k := by omega
                  exact HN.out
              case measure => simp [intOf]; omega
            · have HN : Hid _ := firstE_no hlt HK.out h5
              go_wp2_with (first | (go_at_call 68; refine Calls.mono (HC.out _ (HB.out.alloc HB.out.size _)) ?_; rintro e w2 ⟨rfl, hb⟩))
              go_ret
              exact ⟨ret_int HN.out, (HB.out.alloc HB.out.size _).trans (hb.mono (by have := HB.out.size; simp; omega))⟩
          · obtain rfl : k = ps.length := by omega
            go_wp2
            go_ret
            exact ⟨ret_int (firstE_yes fun j hj => hok j hj hj), hbw⟩
end Go.Proofs.YtccakjijoadjkaaDoor.Op
