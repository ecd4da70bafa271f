/- The statement ProgramCut's walk: a program cut behind a block is still one, as long as no turn goes beyond. Conditions: the program lies in memory, and the tables as the program lays them. -/
import Derived.Test.YtecfbnfbpamegaaDoorWk
namespace Go.Proofs.YtecfbnfbpamegaaDoor.Op
open Go.ChangeShapes Go.WideShapes Go.ChangeAt Go.RowKit
set_option maxRecDepth 20000

theorem PAt.take {w : World} {ao : Option Addr} {ps : List Bk} (h : PAt w ao ps) (n : Nat) : PAt w ao (ps.take n) := by
  have hl : (ps.take n).length ≤ ps.length := by simp; omega
  refine ⟨Nat.le_trans hl h.len, fun h0 => ?_⟩
  obtain ⟨b, f, e, z, hx⟩ := h.is (by omega)
  refine ⟨b, f, e, z, fun i hi => ?_⟩
  have hi' : i < ps.length := by omega
  obtain ⟨p, h1, h2⟩ := hx i hi'
  refine ⟨p, ?_, ?_⟩
  · rw [List.getElem_take]; exact h1
  · rw [List.getElem_take]; exact h2

/-- Does a block turn beyond? -/
def byd (n : Int) (x : Bk) : Bool := decide (n ≤ x.thn) || decide (n ≤ x.els)
theorem ckB_parts {x : Bk} {m : Int} (h : ckB x m = 0) : allB x.ops = true ∧ endB x m = true ∧ allB x.body = true := by
  unfold ckB at h
  cases h1 : allB x.ops <;> cases h2 : endB x m <;> cases h3 : allB x.body <;> simp [h1, h2, h3] at h ⊢
theorem bH_cut {a n m : Int} {c : Bool} (h : bH a m c = true) (h1 : 1 ≤ n) : bH a n c = decide (a < n) := by
  cases c
  · simp [bH] at h
    subst h
    rw [Bool.eq_iff_iff]; simp [bH]; omega
  · simp [bH] at h
    rw [Bool.eq_iff_iff]; simp [bH]; omega
theorem ckB_cut {x : Bk} {n m : Int} (h : ckB x m = 0) (h1 : 1 ≤ n) : ckB x n = if byd n x then 50 else 0 := by
  obtain ⟨e1, e2, e3⟩ := ckB_parts h
  unfold endB at e2
  simp only [Bool.and_eq_true] at e2
  obtain ⟨⟨⟨⟨k1, k2⟩, k3⟩, k4⟩, k5⟩ := e2
  have e4 : endB x n = !byd n x := by
    unfold endB byd
    rw [k1, k2, bH_cut k3 h1, bH_cut k4 h1, k5]
    rw [Bool.eq_iff_iff]; simp
  unfold ckB
  rw [e1, e4, e3]
  cases byd n x <;> rfl
theorem first_cut {n m : Int} (h1 : 1 ≤ n) : ∀ qs : List Bk, (∀ x, x ∈ qs → ckB x m = 0) → firstE n qs = if qs.any (byd n) then 50 else 0
  | [], _ => rfl
  | x :: r, h => by
    have e := ckB_cut (h x (by simp)) h1
    have ih := first_cut h1 r fun y hy => h y (by simp [hy])
    unfold firstE
    rw [e, ih]
    cases hb : byd n x <;> simp [hb]
theorem firstE_zero {m : Int} : ∀ ps : List Bk, firstE m ps = 0 → ∀ x, x ∈ ps → ckB x m = 0
  | [], _, x, hx => by cases hx
  | y :: r, h, x, hx => by
    unfold firstE at h
    split at h
    · rename_i h0
      rcases List.mem_cons.1 hx with rfl | hx
      · exact h0
      · exact firstE_zero r h x hx
    · exact absurd h (by assumption)
theorem ckP_parts {ps : List Bk} (h : ckP ps = 0) : ps.length ≤ 128 ∧ opsN ps ≤ 1024 ∧ 0 < ps.length ∧ ∀ x, x ∈ ps → ckB x ps.length = 0 := by
  unfold ckP at h
  split at h
  · cases h
  · split at h
    · cases h
    · exact ⟨by omega, by omega, by omega, firstE_zero ps h⟩
theorem sumTo_take (ps : List Bk) (n : Nat) : sumTo (ps.take n) (ps.take n).length = sumTo ps n := by
  unfold sumTo; rw [List.take_length]
theorem opsN_cut {ps : List Bk} {n : Nat} (h : n ≤ ps.length) : opsN (ps.take n) ≤ opsN ps := by
  unfold opsN
  rw [sumTo_take ps n]
  have := sumTo_mono ps (ps.length - n) n (by omega)
  rw [show n + (ps.length - n) = ps.length by omega] at this
  simp; omega
theorem ckP_cut {ps : List Bk} {n : Nat} (h : ckP ps = 0) (h1 : 1 ≤ n) (h2 : n ≤ ps.length) : ckP (ps.take n) = if (ps.take n).any (byd n) then 50 else 0 := by
  obtain ⟨p1, p2, p3, p4⟩ := ckP_parts h
  have hl : (ps.take n).length = n := by simp; omega
  have ho := opsN_cut h2
  unfold ckP
  rw [if_neg (by omega), if_neg (by omega), hl]
  exact first_cut (m := ps.length) (by omega) _ fun x hx => p4 x (List.mem_of_mem_take hx)
theorem opsN_pos {ps : List Bk} (h : 0 < ps.length) : 1 ≤ opsN ps := by unfold opsN; omega

/-- The cut under way: the two programs' boxes. -/
structure Cu (w w1 : World) (q : Nat) (u v : Value) : Prop where
  b : Below w.heap.size w w1
  p : At w1 w.heap.size #[u]
  q : At w1 q #[v]
theorem Cu.go {w w1 w2 : World} {q : Nat} {u v : Value} (h : Cu w w1 q u v) (hb : Below w1.heap.size w1 w2) : Cu w w2 q u v :=
  ⟨h.b.trans (hb.mono h.b.size), h.p.below hb h.p.lt, h.q.below hb h.q.lt⟩
theorem Cu.al {w w1 : World} {q : Nat} {u v : Value} (h : Cu w w1 q u v) (o : Obj) : Cu w (w1.alloc o) q u v := h.go ((Below.refl _ _).alloc (Nat.le_refl _) _)

set_option maxHeartbeats 4000000 in
theorem law_cut_out (ao : Option Addr) (cap : Nat) (ps : List Bk) (n : Int) (w : World) (h : PAt w ao ps) (he : Env w) (hx : n < 1 ∨ ps.length < n ∨ ¬ ckP ps = 0) :
    Calls Tryd.prog 4 #[.agg #[.slice ao ps.length cap], .int .i64 n] w fun e w' => e = .returned (.bool true) ∧ Below w.heap.size w w' := by
  have HC : Hid (∀ w1, Below w.heap.size w w1 → Calls Tryd.prog 7 #[.agg #[.slice ao ps.length cap]] w1 fun e w' => e = .returned (.int .i64 (ckP ps)) ∧ Below w1.heap.size w1 w') := fun w1 hb => checkP_any _ _ _ _ (h.below hb) (he.up hb)
  have HW : Hid (∀ w1, Below w.heap.size w w1 → Calls Tryd.prog 9 #[] w1 fun e w' => e = .returned (.bool true) ∧ Below w1.heap.size w1 w') := fun w1 hb => wakes_any _ (he.up hb)
  have hlen := h.len
  clear h he
  by_cases h1 : n < 1
  · clear hx
    go_enter Tryd.func4, Tryd.ntmps4
    go_wp2_with (first | (go_at_call 9; refine Calls.mono (HW.out _ (by go_grown)) ?_; rintro e w1 ⟨rfl, hb⟩))
    go_ret
    exact ⟨rfl, Below.trans (by go_grown) (hb.mono (by simp))⟩
  · by_cases h2 : ps.length < n
    · clear hx
      go_enter Tryd.func4, Tryd.ntmps4
      go_wp2_with (first | (go_at_call 9; refine Calls.mono (HW.out _ (by go_grown)) ?_; rintro e w1 ⟨rfl, hb⟩))
      go_ret
      exact ⟨rfl, Below.trans (by go_grown) (hb.mono (by simp))⟩
    · have h3 : ¬ ckP ps = 0 := by omega
      clear hx
      have h4 : (ckP ps != 0) = true := by simp [h3]
      go_enter Tryd.func4, Tryd.ntmps4
      go_wp2_with (first
        | (go_at_call 7; refine Calls.mono (HC.out _ (by go_grown)) ?_; rintro e w1 ⟨rfl, hb⟩; have HB1 : Hid (Below w.heap.size w w1) := Below.trans (by go_grown) (hb.mono (by simp)); clear hb)
        | (go_at_call 9; refine Calls.mono (HW.out _ HB1.out) ?_; rintro e w2 ⟨rfl, hb⟩; have HB2 : Hid (Below w.heap.size w w2) := HB1.out.trans (hb.mono HB1.out.size); clear hb))
      go_ret
      exact ⟨rfl, HB2.out⟩

set_option maxHeartbeats 4000000 in
theorem law_cut_in (ao : Option Addr) (cap : Nat) (ps : List Bk) (n : Nat) (w : World) (h : PAt w ao ps) (hcap : ps.length ≤ cap) (hmax : cap ≤ maxLen) (he : Env w) (h1 : 1 ≤ n) (h2 : n ≤ ps.length) (h3 : ckP ps = 0) :
    Calls Tryd.prog 4 #[.agg #[.slice ao ps.length cap], .int .i64 n] w fun e w' => e = .returned (.bool true) ∧ Below w.heap.size w w' := by
  have hq : (ps.take n).length = n := by simp; omega
  have HC : Hid (∀ w1, Below w.heap.size w w1 → Calls Tryd.prog 7 #[.agg #[.slice ao ps.length cap]] w1 fun e w' => e = .returned (.int .i64 0) ∧ Below w1.heap.size w1 w') := fun w1 hb => by have := checkP_any _ cap _ _ (h.below hb) (he.up hb); rw [h3] at this; exact this
  have HQ : Hid (∀ w1, Below w.heap.size w w1 → Calls Tryd.prog 7 #[.agg #[.slice ao n cap]] w1 fun e w' => e = .returned (.int .i64 (if (ps.take n).any (byd n) then 50 else 0)) ∧ Below w1.heap.size w1 w') := fun w1 hb => by have := checkP_any _ cap _ _ ((h.take n).below hb) (he.up hb); rw [ckP_cut h3 h1 h2, hq] at this; exact this
  obtain ⟨p1, p2, p3, p4⟩ := ckP_parts h3
  have HO : Hid (∀ w1, Below w.heap.size w w1 → Calls Tryd.prog 12 #[.agg #[.slice ao ps.length cap]] w1 fun e w' => e = .returned (.int .i64 (opsN ps)) ∧ Below w1.heap.size w1 w') := fun w1 hb => ops_any _ _ _ _ (h.below hb) (by omega)
  have HP : Hid (∀ w1, Below w.heap.size w w1 → Calls Tryd.prog 12 #[.agg #[.slice ao n cap]] w1 fun e w' => e = .returned (.int .i64 (opsN (ps.take n))) ∧ Below w1.heap.size w1 w') := fun w1 hb => by have := ops_any _ cap _ _ ((h.take n).below hb) (by omega); rw [hq] at this; exact this
  have HW : Hid (∀ w1, Below w.heap.size w w1 → Calls Tryd.prog 9 #[] w1 fun e w' => e = .returned (.bool true) ∧ Below w1.heap.size w1 w') := fun w1 hb => wakes_any _ (he.up hb)
  have o1 := opsN_pos p3
  have o2 := opsN_cut h2
  have hmx : (cap : Int) ≤ 9223372036854775807 := by unfold maxLen at hmax; omega
  have HH : Hid _ := h
  clear h he hq p4 hmax
  obtain ⟨b, f, rfl, z, hx⟩ := HH.out.is (by omega)
  have HX : Hid _ := hx
  clear hx HH h3
  go_enter Tryd.func4, Tryd.ntmps4
  go_wp2_with (first
    | (go_at_call 7; refine Calls.mono (HC.out _ (by go_grown)) ?_; rintro e w1 ⟨rfl, hb⟩; obtain ⟨a1, hb0, hz⟩ := one_new w _ _ hb; have HB1 : Hid (Below w.heap.size w w1) := hb0; have HA : Hid _ := a1; have cp := a1.c 0 _ rfl; clear hb hb0 a1))
  have HU1 : Hid (Cu w (w1.alloc (Obj.cells #[Value.slice (some ⟨b, f, none⟩) n cap] 24)) w1.heap.size (.slice (some ⟨b, f, none⟩) ps.length cap) (.slice (some ⟨b, f, none⟩) n cap)) :=
    ⟨HB1.out.alloc HB1.out.size _, HA.out.alloc _, At.new _ _ _⟩
  clear cp HB1 HA HC
  generalize w1.alloc (Obj.cells #[Value.slice (some ⟨b, f, none⟩) n cap] 24) = V at *
  go_loopw [7, 6] (fun i s wr => ∃ k : Nat, k ≤ n ∧ i = .int .i64 k ∧ s = .bool ((ps.take k).any (byd n)) ∧ Cu w wr w1.heap.size (.slice (some ⟨b, f, none⟩) ps.length cap) (.slice (some ⟨b, f, none⟩) n cap)) (fun i _ _ => n - (intOf i).toNat)
  case atStart => exact ⟨0, by omega, rfl, rfl, HU1.out⟩
  case round =>
    rename_i wr
    obtain ⟨k, hk, rfl, rfl, hcu⟩ := hrel
    have cp := hcu.p.c 0 _ rfl
    have HU : Hid _ := hcu
    by_cases hlt : k < n
    · obtain ⟨p, hp, -⟩ := HX.out k (by omega)
      obtain ⟨c0, c1, c2, c3, c4, c5⟩ := hp.below hcu.b z
      have hkl : k < ps.length := by omega
      have HS0 : (ps.take (k + 1)).any (byd n) = ((ps.take k).any (byd n) || byd n ps[k]) := by rw [List.take_succ_eq_append_getElem hkl, List.any_append]; simp only [List.any_cons, List.any_nil, Bool.or_false]
      have HS : Hid _ := HS0
      clear HS0
      have HD : Hid (byd n ps[k] = (decide ((n : Int) ≤ ps[k].thn) || decide ((n : Int) ≤ ps[k].els))) := rfl
      clear hp hcu HU1 HX
      rw [HD.out] at HS
      clear HD
      generalize (ps.take k).any (byd n) = s0 at *
      cases s0
      · by_cases g1 : (n : Int) ≤ ps[k].thn
        · go_wp2
          go_roundw
          case rel => exact ⟨k + 1, by omega, by go_num, by rw [HS.out]; simp [g1], HU.out.al _⟩
          case measure => simp [intOf]; omega
        · by_cases g2 : (n : Int) ≤ ps[k].els
          · go_wp2
            go_roundw
            case rel => exact ⟨k + 1, by omega, by go_num, by rw [HS.out]; simp [g2], HU.out.al _⟩
            case measure => simp [intOf]; omega
          · go_wp2
            go_roundw
            case rel => exact ⟨k + 1, by omega, by go_num, by rw [HS.out]; simp; omega, HU.out.al _⟩
            case measure => simp [intOf]; omega
      · go_wp2
        go_roundw
        case rel => exact ⟨k + 1, by omega, by go_num, by rw [HS.out]; rfl, HU.out.al _⟩
        case measure => simp [intOf]; omega
    · obtain rfl : k = n := by omega
      have cq := hcu.q.c 0 _ rfl
      clear hcu HU1 HX
      generalize (ps.take k).any (byd k) = s0 at *
      cases s0
      all_goals
        go_wp2_with (first
          | (go_at_call 12; refine Calls.mono (HO.out _ HU.out.b) ?_; rintro e w2 ⟨rfl, hb⟩; have HU2 : Hid (Cu w w2 w1.heap.size _ _) := HU.out.go hb; clear cp cq; have cp := HU2.out.p.c 0 _ rfl; have cq := HU2.out.q.c 0 _ rfl; clear hb HU HO)
          | (go_at_call 7; refine Calls.mono (HQ.out _ HU2.out.b) ?_; rintro e w3 ⟨rfl, hb⟩; have HU3 : Hid (Cu w w3 w1.heap.size _ _) := HU2.out.go hb; clear cp cq; have cp := HU3.out.p.c 0 _ rfl; have cq := HU3.out.q.c 0 _ rfl; clear hb HU2 HQ)
          | (go_at_call 12; refine Calls.mono (HP.out _ HU3.out.b) ?_; rintro e w4 ⟨rfl, hb⟩; have HU4 : Hid (Cu w w4 w1.heap.size _ _) := HU3.out.go hb; clear hb HU3 HP)
          | (go_at_call 9; refine Calls.mono (HW.out _ HU4.out.b) ?_; rintro e w5 ⟨rfl, hb⟩; have HU5 : Hid (Cu w w5 w1.heap.size _ _) := HU4.out.go hb; clear hb HU4 HW))
        go_ret
        exact ⟨rfl, HU5.out.b⟩

theorem law_cut (ao : Option Addr) (cap : Nat) (ps : List Bk) (n : Int) (w : World) (h : PAt w ao ps) (hcap : ps.length ≤ cap) (hmax : cap ≤ maxLen) (he : Env w) :
    Calls Tryd.prog 4 #[.agg #[.slice ao ps.length cap], .int .i64 n] w fun e w' => e = .returned (.bool true) ∧ Below w.heap.size w w' := by
  by_cases hx : n < 1 ∨ ps.length < n ∨ ¬ ckP ps = 0
  · exact law_cut_out ao cap ps n w h he hx
  · obtain ⟨m, rfl⟩ := Int.eq_ofNat_of_zero_le (show 0 ≤ n by omega)
    exact law_cut_in ao cap ps m w h hcap hmax he (by omega) (by omega) (by omega)
end Go.Proofs.YtecfbnfbpamegaaDoor.Op
