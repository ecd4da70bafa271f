/- Which classes the operations of a list use, as the statement tells it by the kinds (uses): read off the program by the walk; and what a unit more or less does to Needs. Conditions: the list lies in memory. -/
import Derived.Test.YtecfbnfbpamegaaDoorLc
namespace Go.Proofs.YtecfbnfbpamegaaDoor.Op
open Go.ChangeShapes Go.WideShapes Go.ChangeAt Go.RowKit
set_option maxRecDepth 20000
open Tb (Tab)

/-- The class by the kind. -/
def clsK (d : Int) : Int := if d = 12 then 1 else if d = 13 then 1 else if d = 14 then 1 else if d = 15 then 2 else if d = 16 then 2 else if d = 17 then 2 else 0
def usesB (xs : List O) (c : Int) : Bool := xs.any fun o => clsK o.op == c
theorem usesB_yes {xs : List O} {c : Int} {k : Nat} (h : k < xs.length) (e : (clsK xs[k].op == c) = true) : true = usesB xs c := by
  symm; exact List.any_eq_true.2 ⟨_, List.getElem_mem h, e⟩
theorem usesB_no {xs : List O} {c : Int} (h : ∀ (j : Nat) (hj : j < xs.length), (clsK xs[j].op == c) = false) : false = usesB xs c := by
  symm
  refine List.any_eq_false.2 fun o ho => ?_
  obtain ⟨i, hi, rfl⟩ := List.getElem_of_mem ho
  rw [h i hi]; exact Bool.false_ne_true

set_option maxHeartbeats 4000000 in
theorem uses_any (ao : Option Addr) (cap : Nat) (xs : List O) (c : Int) (w : World) (h : OpsAt w ao xs) :
    Calls Tryd.prog 16 #[.slice ao xs.length cap, .int .i64 c] w fun e w' => e = .returned (.bool (usesB xs c)) ∧ w' = w := by
  have hlen := h.len
  have HP : Hid _ := h
  clear h
  go_enter Tryd.func16, Tryd.ntmps16
  go_wp2
  go_loop [5] (fun i => ∃ k : Nat, k ≤ xs.length ∧ i = .int .i64 k ∧ (∀ (j : Nat) (hj : j < xs.length), j < k → (clsK xs[j].op == c) = false)) (fun i => xs.length - (intOf i).toNat)
  case atStart => exact ⟨0, by omega, rfl, fun j _ hj => by omega⟩
  case round =>
    obtain ⟨k, hk, rfl, hok⟩ := hrel
    have HK : Hid _ := hok
    by_cases hlt : k < xs.length
    · obtain ⟨b, f, rfl, hz, hx⟩ := HP.out.is (by omega)
      obtain ⟨c0, -, -, -, -⟩ := hx k hlt
      clear hx HP hok
      generalize hg : xs[k].op = d at *
      have HG : Hid (xs[k].op = d) := hg
      clear hg
      by_cases d12 : d = 12
      · subst d12
        · cases hcc : ((1 : Int) == c)
          · have HF : Hid ((clsK xs[k].op == c) = false) := by rw [HG.out, show clsK 12 = 1 from rfl]; exact hcc
            go_wp2
            go_round
            case rel => exact ⟨k + 1, by omega, by go_num, fun j hj hjk => by
              rcases Nat.lt_or_ge j k with h | h
              · exact HK.out j hj h
              · obtain rfl : j = k := by omega
                exact HF.out⟩
            case measure => simp [intOf]; omega
          · have HF : Hid ((clsK xs[k].op == c) = true) := by rw [HG.out, show clsK 12 = 1 from rfl]; exact hcc
            go_wp2
            go_ret
            exact ⟨ret_bool (usesB_yes hlt HF.out), rfl⟩
      · by_cases d13 : d = 13
        · subst d13
          · cases hcc : ((1 : Int) == c)
            · have HF : Hid ((clsK xs[k].op == c) = false) := by rw [HG.out, show clsK 13 = 1 from rfl]; exact hcc
              go_wp2
              go_round
              case rel => exact ⟨k + 1, by omega, by go_num, fun j hj hjk => by
                rcases Nat.lt_or_ge j k with h | h
                · exact HK.out j hj h
                · obtain rfl : j = k := by omega
                  exact HF.out⟩
              case measure => simp [intOf]; omega
            · have HF : Hid ((clsK xs[k].op == c) = true) := by rw [HG.out, show clsK 13 = 1 from rfl]; exact hcc
              go_wp2
              go_ret
              exact ⟨ret_bool (usesB_yes hlt HF.out), rfl⟩
        · by_cases d14 : d = 14
          · subst d14
            · cases hcc : ((1 : Int) == c)
              · have HF : Hid ((clsK xs[k].op == c) = false) := by rw [HG.out, show clsK 14 = 1 from rfl]; exact hcc
                go_wp2
                go_round
                case rel => exact ⟨k + 1, by omega, by go_num, fun j hj hjk => by
                  rcases Nat.lt_or_ge j k with h | h
                  · exact HK.out j hj h
                  · obtain rfl : j = k := by omega
                    exact HF.out⟩
                case measure => simp [intOf]; omega
              · have HF : Hid ((clsK xs[k].op == c) = true) := by rw [HG.out, show clsK 14 = 1 from rfl]; exact hcc
                go_wp2
                go_ret
                exact ⟨ret_bool (usesB_yes hlt HF.out), rfl⟩
          · by_cases d15 : d = 15
            · subst d15
              · cases hcc : ((2 : Int) == c)
                · have HF : Hid ((clsK xs[k].op == c) = false) := by rw [HG.out, show clsK 15 = 2 from rfl]; exact hcc
                  go_wp2
                  go_round
                  case rel => exact ⟨k + 1, by omega, by go_num, fun j hj hjk => by
                    rcases Nat.lt_or_ge j k with h | h
                    · exact HK.out j hj h
                    · obtain rfl : j = k := by omega
                      exact HF.out⟩
                  case measure => simp [intOf]; omega
                · have HF : Hid ((clsK xs[k].op == c) = true) := by rw [HG.out, show clsK 15 = 2 from rfl]; exact hcc
                  go_wp2
                  go_ret
                  exact ⟨ret_bool (usesB_yes hlt HF.out), rfl⟩
            · by_cases d16 : d = 16
              · subst d16
                · cases hcc : ((2 : Int) == c)
                  · have HF : Hid ((clsK xs[k].op == c) = false) := by rw [HG.out, show clsK 16 = 2 from rfl]; exact hcc
                    go_wp2
                    go_round
                    case rel => exact ⟨k + 1, by omega, by go_num, fun j hj hjk => by
                      rcases Nat.lt_or_ge j k with h | h
                      · exact HK.out j hj h
                      · obtain rfl : j = k := by omega
                        exact HF.out⟩
                    case measure => simp [intOf]; omega
                  · have HF : Hid ((clsK xs[k].op == c) = true) := by rw [HG.out, show clsK 16 = 2 from rfl]; exact hcc
                    go_wp2
                    go_ret
                    exact ⟨ret_bool (usesB_yes hlt HF.out), rfl⟩
              · by_cases d17 : d = 17
                · subst d17
                  · cases hcc : ((2 : Int) == c)
                    · have HF : Hid ((clsK xs[k].op == c) = false) := by rw [HG.out, show clsK 17 = 2 from rfl]; exact hcc
                      go_wp2
                      go_round
                      case rel => exact ⟨k + 1, by omega, by go_num, fun j hj hjk => by
                        rcases Nat.lt_or_ge j k with h | h
                        · exact HK.out j hj h
                        · obtain rfl : j = k := by omega
                          exact HF.out⟩
                      case measure => simp [intOf]; omega
                    · have HF : Hid ((clsK xs[k].op == c) = true) := by rw [HG.out, show clsK 17 = 2 from rfl]; exact hcc
                      go_wp2
                      go_ret
                      exact ⟨ret_bool (usesB_yes hlt HF.out), rfl⟩
                · have e0 : clsK d = 0 := by simp [clsK, d12, d13, d14, d15, d16, d17]
                  have b12 : (d == 12) = false := by simp [d12]
                  have b13 : (d == 13) = false := by simp [d13]
                  have b14 : (d == 14) = false := by simp [d14]
                  have b15 : (d == 15) = false := by simp [d15]
                  have b16 : (d == 16) = false := by simp [d16]
                  have b17 : (d == 17) = false := by simp [d17]
                  have HE : Hid _ := e0
                  clear e0
                  · cases hcc : ((0 : Int) == c)
                    · have HF : Hid ((clsK xs[k].op == c) = false) := by rw [HG.out, HE.out]; exact hcc
                      go_wp2
                      go_round
                      case rel => exact ⟨k + 1, by omega, by go_num, fun j hj hjk => by
                        rcases Nat.lt_or_ge j k with h | h
                        · exact HK.out j hj h
                        · obtain rfl : j = k := by omega
                          exact HF.out⟩
                      case measure => simp [intOf]; omega
                    · have HF : Hid ((clsK xs[k].op == c) = true) := by rw [HG.out, HE.out]; exact hcc
                      go_wp2
                      go_ret
                      exact ⟨ret_bool (usesB_yes hlt HF.out), rfl⟩
    · obtain rfl : k = xs.length := by omega
      go_wp2
      go_ret
      exact ⟨ret_bool (usesB_no fun j hj => HK.out j hj hj), rfl⟩

/-! ### the classes that a program uses -/
def isC (c : Nat) (o : O) : Bool := clB o.op && decide (clV o.op = c)
theorem marks_any (c : Nat) : ∀ (xs : List O) (u : Nat → Bool), marks u xs c = (u c || xs.any (isC c))
  | [], u => by simp [marks]
  | o :: r, u => by
    have := marks_any c r (mark u o)
    unfold marks at this ⊢
    rw [List.foldl_cons, this, List.any_cons]
    simp [mark, isC, Bool.or_assoc]
def useF (c : Nat) (x : Bk) : Bool := x.ops.any (isC c) || x.body.any (isC c)
theorem useL_from (c : Nat) : ∀ (ps : List Bk) (u : Nat → Bool), ps.foldl markB u c = (u c || ps.any (useF c))
  | [], u => by simp
  | x :: r, u => by
    rw [List.foldl_cons, useL_from c r (markB u x), List.any_cons]
    unfold markB useF
    rw [marks_any, marks_any]
    simp [Bool.or_assoc]
theorem useL_any (ps : List Bk) (c : Nat) : useL ps c = (decide (c = 3) || ps.any (useF c)) := useL_from c ps u0

theorem cls_kinds : ∀ n : Fin 18, 1 ≤ n.val → clB (n.val : Int) = true ∧ clV (n.val : Int) = clsK (n.val : Int) := by decide +kernel
theorem isC_ok {o : O} {c : Nat} (h : okP o = true) : isC c o = (clsK o.op == (c : Int)) := by
  simp only [okP, Bool.and_eq_true, decide_eq_true_eq] at h
  obtain ⟨⟨h1, h2⟩, _⟩ := h
  obtain ⟨n, hn⟩ := Int.eq_ofNat_of_zero_le (show 0 ≤ o.op by omega)
  obtain ⟨e1, e2⟩ := cls_kinds ⟨n, by omega⟩ (by show 1 ≤ n; omega)
  have e1' : clB o.op = true := by rw [hn]; exact e1
  have e2' : clV o.op = clsK o.op := by rw [hn]; exact e2
  unfold isC
  rw [e1', e2', Bool.true_and, Bool.eq_iff_iff]
  simp
theorem any_ok {c : Nat} {xs : List O} (h : allB xs = true) : xs.any (isC c) = usesB xs c := by
  unfold usesB
  have h' := List.all_eq_true.1 h
  induction xs with
  | nil => rfl
  | cons o r ih =>
    rw [List.any_cons, List.any_cons, isC_ok (h' o (by simp)), ih (List.all_eq_true.2 fun x hx => h' x (by simp [hx])) fun x hx => h' x (by simp [hx])]
def useK (c : Nat) (x : Bk) : Bool := usesB x.ops c || usesB x.body c
theorem useL_ok {ps : List Bk} (h : ckP ps = 0) (c : Nat) : useL ps c = (decide (c = 3) || ps.any (useK c)) := by
  rw [useL_any]
  congr 1
  have h4 := (ckP_parts h).2.2.2
  have h5 : ∀ x, x ∈ ps → useF c x = useK c x := fun x hx => by
    obtain ⟨a, _, b⟩ := ckB_parts (h4 x hx)
    unfold useF useK
    rw [any_ok a, any_ok b]
  clear h h4
  induction ps with
  | nil => rfl
  | cons x r ih => rw [List.any_cons, List.any_cons, h5 x (by simp), ih fun y hy => h5 y (by simp [hy])]

/-! ### a unit more, a unit less -/
def tput (t : Tab) (c : Nat) (v : Int) : Tab := ⟨fun k => if k = c then v else t.u k, t.l, t.b, t.d⟩
theorem ckR_ok {t : Tab} (h : Tb.ckR t = 0) : t.ok = true := by
  unfold Tb.ckR at h
  split at h
  · assumption
  · cases h
theorem ckR_of {t : Tab} (h : t.ok = true) : Tb.ckR t = 0 := by simp [Tb.ckR, h]
theorem put_ok {t : Tab} {c : Nat} {v : Int} (h : t.ok = true) (h0 : 0 ≤ v) (h1 : v ≤ 8) : (tput t c v).ok = true := by
  obtain ⟨hd, hk⟩ := Tb.ok_parts h
  have hu : ∀ k, k < 4 → Tb.okC (tput t c v) k = true := fun k hk' => by
    obtain ⟨a, b, e⟩ := hk k hk'
    have a' : Tb.inB 0 8 ((tput t c v).u k) = true := by
      show Tb.inB 0 8 (if k = c then v else t.u k) = true
      split
      · simp [Tb.inB, h0, h1]
      · exact a
    have b' : Tb.inB 1 8 ((tput t c v).l k) = true := b
    have e' : Tb.inB 1 4 ((tput t c v).b k) = true := e
    simp [Tb.okC, a', b', e']
  have hd' : Tb.inB 0 4 (tput t c v).d = true := hd
  simp [Tb.Tab.ok, hd', hu 0, hu 1, hu 2, hu 3]
theorem ndE_parts {ps : List Bk} {t : Tab} (h : ndE ps t = 0) : ckP ps = 0 ∧ t.ok = true ∧ lacks (useL ps) t = false := by
  unfold ndE at h
  split at h
  · rename_i h1
    split at h
    · rename_i h2
      split at h
      · cases h
      · rename_i h3
        exact ⟨h1, ckR_ok h2, by simpa using h3⟩
    · exact absurd h (by assumption)
  · exact absurd h (by assumption)
theorem lacks_false {u : Nat → Bool} {t : Tab} (h : lacks u t = false) : ∀ k, k < 4 → lack u t k = false := by
  simp only [lacks, Bool.or_eq_false_iff] at h
  obtain ⟨⟨⟨a, b⟩, c⟩, d⟩ := h
  exact Tb.four a b c d
theorem ndE_of {ps : List Bk} {t : Tab} (h1 : ckP ps = 0) (h2 : t.ok = true) : ndE ps t = if lacks (useL ps) t then 21 else 0 := by
  unfold ndE
  rw [if_pos h1, if_pos (ckR_of h2)]
theorem wrap_small {x : Int} (h0 : 0 ≤ x) (h1 : x ≤ 8) : wrap64 (x + 1) = x + 1 := by
  unfold wrap64; omega
theorem nd_more {ps : List Bk} {t : Tab} {c : Nat} (h : ndE ps t = 0) (hc : c < 4) (h8 : t.u c < 8) : ndE ps (tput t c (wrap64 (t.u c + 1))) = 0 := by
  obtain ⟨h1, h2, h3⟩ := ndE_parts h
  have hb := (Tb.ok_parts h2).2 c hc
  have hi := Tb.inB_iff hb.1
  rw [wrap_small hi.1 (by omega), ndE_of h1 (put_ok h2 (by omega) (by omega)), lacks_no, if_neg (by decide)]
  intro k hk
  have := lacks_false h3 k hk
  unfold lack at this ⊢
  show (useL ps k && ((if k = c then t.u c + 1 else t.u k) == 0)) = false
  split
  · have : (t.u c + 1 == 0) = false := by simp; omega
    rw [this, Bool.and_false]
  · exact this
theorem nd_less {ps : List Bk} {t : Tab} {c : Nat} (h : ndE ps t = 0) (hc : c < 4) : ndE ps (tput t c 0) = if useL ps c then 21 else 0 := by
  obtain ⟨h1, h2, h3⟩ := ndE_parts h
  rw [ndE_of h1 (put_ok h2 (by omega) (by omega))]
  have e : lacks (useL ps) (tput t c 0) = useL ps c := by
    cases hu : useL ps c
    · refine lacks_no fun k hk => ?_
      have := lacks_false h3 k hk
      unfold lack at this ⊢
      show (useL ps k && ((if k = c then 0 else t.u k) == 0)) = false
      split
      · rename_i e; rw [e, hu]; rfl
      · exact this
    · refine lacks_yes hc ?_
      unfold lack
      show (useL ps c && ((if c = c then 0 else t.u c) == 0)) = true
      rw [hu, if_pos rfl]; rfl
  rw [e]
end Go.Proofs.YtecfbnfbpamegaaDoor.Op
