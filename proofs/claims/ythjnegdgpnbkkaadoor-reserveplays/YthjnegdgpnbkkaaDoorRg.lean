/- A table of reservations is made (New, Ring), read off the program by the walk. Conditions: the variables lie as the program lays them. -/
import Derived.Test.YthjnegdgpnbkkaaDoorRf
namespace Go.Proofs.YthjnegdgpnbkkaaDoor.Rv
open Go.ChangeShapes Go.WideShapes Go.ChangeAt Go.RowKit Go.Maps
open _root_.Go.Proofs.YthjnegdgpnbkkaaDoor.Op _root_.Go.Proofs.YthjnegdgpnbkkaaDoor.So
open _root_.Go.Proofs.YthjnegdgpnbkkaaDoor.Tb (Tab TabAt Bnds)
set_option maxRecDepth 20000

set_option maxHeartbeats 2000000 in
theorem nothing_any (t : Tab) (ev : Option Int) (w : World) : Calls Tryd.prog 19 #[t.val, fv ev] w fun e w' => e = .returned (.pointer (some ⟨w.heap.size + 2, 0, none⟩)) ∧ RAt w' (w.heap.size + 2) t ev (w.heap.size + 1) 0 (fun _ _ => 0) ∧ Below w.heap.size w w' := by
  cases ev with
  | none =>
    have HR : Hid (RAt (((w.alloc (.cells t.cells 24)).alloc (.map #[] 0)).alloc (.cells #[.int .i64 (t.u 0), .int .i64 (t.u 1), .int .i64 (t.u 2), .int .i64 (t.u 3), .int .i64 (t.b 0), .int .i64 (t.b 1), .int .i64 (t.b 2), .int .i64 (t.b 3), .map (some (w.heap.size + 1)), .func (.func 20) #[.agg #[]] #[]] 55)) (w.heap.size + 2) t (none) (w.heap.size + 1) 0 (fun _ _ => 0) ∧ Below w.heap.size w (((w.alloc (.cells t.cells 24)).alloc (.map #[] 0)).alloc (.cells #[.int .i64 (t.u 0), .int .i64 (t.u 1), .int .i64 (t.u 2), .int .i64 (t.u 3), .int .i64 (t.b 0), .int .i64 (t.b 1), .int .i64 (t.b 2), .int .i64 (t.b 3), .map (some (w.heap.size + 1)), .func (.func 20) #[.agg #[]] #[]] 55))) := by
      have e1 : (w.alloc (.cells t.cells 24)).heap.size = w.heap.size + 1 := by simp
      have e2 : ((w.alloc (.cells t.cells 24)).alloc (.map #[] 0)).heap.size = w.heap.size + 2 := by simp
      refine ⟨⟨?_, ?_, by omega⟩, by go_grown⟩
      · have := At.new ((w.alloc (.cells t.cells 24)).alloc (.map #[] 0)) #[.int .i64 (t.u 0), .int .i64 (t.u 1), .int .i64 (t.u 2), .int .i64 (t.u 3), .int .i64 (t.b 0), .int .i64 (t.b 1), .int .i64 (t.b 2), .int .i64 (t.b 3), .map (some (w.heap.size + 1)), .func (.func 20) #[.agg #[]] #[]] 55
        rw [e2] at this
        exact this
      · have := (Cm.made (w.alloc (.cells t.cells 24))).below (w' := (((w.alloc (.cells t.cells 24)).alloc (.map #[] 0)).alloc (.cells #[.int .i64 (t.u 0), .int .i64 (t.u 1), .int .i64 (t.u 2), .int .i64 (t.u 3), .int .i64 (t.b 0), .int .i64 (t.b 1), .int .i64 (t.b 2), .int .i64 (t.b 3), .map (some (w.heap.size + 1)), .func (.func 20) #[.agg #[]] #[]] 55))) ((Below.refl _ _).alloc (Nat.le_refl _) _) (by simp)
        rw [e1] at this
        exact this
    have hmm := @run_makeMap Tryd.prog
    show Calls Tryd.prog 19 #[t.val, .func (.func 20) #[.agg #[]] #[]] w _
    unfold Tab.val Tab.cells at *
    go_enter Tryd.func19, Tryd.ntmps19
    go_wp2
    go_ret
    exact ⟨rfl, HR.out⟩
  | some q =>
    have HR : Hid (RAt (((w.alloc (.cells t.cells 24)).alloc (.map #[] 0)).alloc (.cells #[.int .i64 (t.u 0), .int .i64 (t.u 1), .int .i64 (t.u 2), .int .i64 (t.u 3), .int .i64 (t.b 0), .int .i64 (t.b 1), .int .i64 (t.b 2), .int .i64 (t.b 3), .map (some (w.heap.size + 1)), .func (.func 22) #[.agg #[.int .i64 q]] #[]] 55)) (w.heap.size + 2) t (some q) (w.heap.size + 1) 0 (fun _ _ => 0) ∧ Below w.heap.size w (((w.alloc (.cells t.cells 24)).alloc (.map #[] 0)).alloc (.cells #[.int .i64 (t.u 0), .int .i64 (t.u 1), .int .i64 (t.u 2), .int .i64 (t.u 3), .int .i64 (t.b 0), .int .i64 (t.b 1), .int .i64 (t.b 2), .int .i64 (t.b 3), .map (some (w.heap.size + 1)), .func (.func 22) #[.agg #[.int .i64 q]] #[]] 55))) := by
      have e1 : (w.alloc (.cells t.cells 24)).heap.size = w.heap.size + 1 := by simp
      have e2 : ((w.alloc (.cells t.cells 24)).alloc (.map #[] 0)).heap.size = w.heap.size + 2 := by simp
      refine ⟨⟨?_, ?_, by omega⟩, by go_grown⟩
      · have := At.new ((w.alloc (.cells t.cells 24)).alloc (.map #[] 0)) #[.int .i64 (t.u 0), .int .i64 (t.u 1), .int .i64 (t.u 2), .int .i64 (t.u 3), .int .i64 (t.b 0), .int .i64 (t.b 1), .int .i64 (t.b 2), .int .i64 (t.b 3), .map (some (w.heap.size + 1)), .func (.func 22) #[.agg #[.int .i64 q]] #[]] 55
        rw [e2] at this
        exact this
      · have := (Cm.made (w.alloc (.cells t.cells 24))).below (w' := (((w.alloc (.cells t.cells 24)).alloc (.map #[] 0)).alloc (.cells #[.int .i64 (t.u 0), .int .i64 (t.u 1), .int .i64 (t.u 2), .int .i64 (t.u 3), .int .i64 (t.b 0), .int .i64 (t.b 1), .int .i64 (t.b 2), .int .i64 (t.b 3), .map (some (w.heap.size + 1)), .func (.func 22) #[.agg #[.int .i64 q]] #[]] 55))) ((Below.refl _ _).alloc (Nat.le_refl _) _) (by simp)
        rw [e1] at this
        exact this
    have hmm := @run_makeMap Tryd.prog
    show Calls Tryd.prog 19 #[t.val, .func (.func 22) #[.agg #[.int .i64 q]] #[]] w _
    unfold Tab.val Tab.cells at *
    go_enter Tryd.func19, Tryd.ntmps19
    go_wp2
    go_ret
    exact ⟨rfl, HR.out⟩
/-- What New and Ring hand back: a table of reservations in blocks of its own. -/
def NwOut (w : World) (t : Tab) (ev : Option Int) (e : Ending) (w' : World) : Prop := ∃ rb mb, e = .returned (.tuple #[.pointer (some ⟨rb, 0, none⟩), .int .i64 0]) ∧ RAt w' rb t ev mb 0 (fun _ _ => 0) ∧ (w.heap.size ≤ rb ∧ w.heap.size ≤ mb) ∧ Below w.heap.size w w'
theorem new_ok (t : Tab) (w : World) (hG : Bnds w) (hk : Tb.ckR t = 0) : Calls Tryd.prog 7 #[t.val] w (NwOut w t none) := by
  have HC : Hid (∀ W, Below w.heap.size w W → Calls Tryd.prog 18 #[t.val] W fun e w' => e = .returned (.int .i64 0) ∧ Below W.heap.size W w') := fun W hb => by rw [← hk]; exact Tb.check_any t W (hG.below hb hG.big)
  have HN : Hid (∀ W, Calls Tryd.prog 19 #[t.val, .func (.func 20) #[.agg #[]] #[]] W fun e w' => e = .returned (.pointer (some ⟨W.heap.size + 2, 0, none⟩)) ∧ RAt w' (W.heap.size + 2) t none (W.heap.size + 1) 0 (fun _ _ => 0) ∧ Below W.heap.size W w') := fun W => nothing_any t none W
  clear hG hk
  unfold Tab.val at *
  go_enter Tryd.func7, Tryd.ntmps7
  go_wp2_with (first
    | (go_at_call 18; refine Calls.mono (HC.out _ (by go_grown)) ?_; rintro e w1 ⟨rfl, b1⟩; have HT : Hid (TabAt w1 w.heap.size t ∧ Below w.heap.size w w1) := ⟨(Tb.tabAt_new w t 24).below b1 (by simp), Below.trans (by go_grown) (b1.mono (by simp))⟩; clear b1 HC; have k2 := HT.out.1; have qu0 := k2.cu 0 (by decide); have qu1 := k2.cu 1 (by decide); have qu2 := k2.cu 2 (by decide); have qu3 := k2.cu 3 (by decide); have ql0 := k2.cl 0 (by decide); have ql1 := k2.cl 1 (by decide); have ql2 := k2.cl 2 (by decide); have ql3 := k2.cl 3 (by decide); have qb0 := k2.cb 0 (by decide); have qb1 := k2.cb 1 (by decide); have qb2 := k2.cb 2 (by decide); have qb3 := k2.cb 3 (by decide); have qd := k2.cd; have qz := k2.lt; clear k2)
    | (go_at_call 19; refine Calls.mono (HN.out _) ?_; rintro e w2 ⟨rfl, r2, b2⟩; have HR : Hid (RAt w2 (w1.heap.size + 2) t none (w1.heap.size + 1) 0 (fun _ _ => 0) ∧ Below w.heap.size w w2 ∧ w.heap.size ≤ w1.heap.size) := ⟨r2, HT.out.2.trans (b2.mono HT.out.2.size), HT.out.2.size⟩; clear r2 b2 HN))
  go_ret2
  exact ⟨_, _, rfl, HR.out.1, by have := HR.out.2.2; omega, HR.out.2.1⟩
theorem new_no (t : Tab) (w : World) (hG : Bnds w) (hk : ¬ Tb.ckR t = 0) : Calls Tryd.prog 7 #[t.val] w fun e w' => e = .returned (.tuple #[.pointer none, .int .i64 (Tb.ckR t)]) ∧ Below w.heap.size w w' := by
  have HC : Hid (∀ W, Below w.heap.size w W → Calls Tryd.prog 18 #[t.val] W fun e w' => e = .returned (.int .i64 (Tb.ckR t)) ∧ Below W.heap.size W w') := fun W hb => Tb.check_any t W (hG.below hb hG.big)
  clear hG
  have hkb : (Tb.ckR t != 0) = true := by simpa using hk
  generalize Tb.ckR t = er at *
  unfold Tab.val at *
  go_enter Tryd.func7, Tryd.ntmps7
  go_wp2_with (first
    | (go_at_call 18; refine Calls.mono (HC.out _ (by go_grown)) ?_; rintro e w1 ⟨rfl, b1⟩; have HT : Hid (TabAt w1 w.heap.size t ∧ Below w.heap.size w w1) := ⟨(Tb.tabAt_new w t 24).below b1 (by simp), Below.trans (by go_grown) (b1.mono (by simp))⟩; clear b1 HC; have k2 := HT.out.1; have qu0 := k2.cu 0 (by decide); have qu1 := k2.cu 1 (by decide); have qu2 := k2.cu 2 (by decide); have qu3 := k2.cu 3 (by decide); have ql0 := k2.cl 0 (by decide); have ql1 := k2.cl 1 (by decide); have ql2 := k2.cl 2 (by decide); have ql3 := k2.cl 3 (by decide); have qb0 := k2.cb 0 (by decide); have qb1 := k2.cb 1 (by decide); have qb2 := k2.cb 2 (by decide); have qb3 := k2.cb 3 (by decide); have qd := k2.cd; have qz := k2.lt; clear k2))
  go_ret2
  exact ⟨rfl, HT.out.2⟩
theorem ring_ok (t : Tab) (ev : Int) (w : World) (hG : Bnds w) (hk : Tb.ckR t = 0) (h1 : 1 ≤ ev) (h2 : ev ≤ 65536) : Calls Tryd.prog 9 #[t.val, .int .i64 ev] w (NwOut w t (some ev)) := by
  have HC : Hid (∀ W, Below w.heap.size w W → Calls Tryd.prog 18 #[t.val] W fun e w' => e = .returned (.int .i64 0) ∧ Below W.heap.size W w') := fun W hb => by rw [← hk]; exact Tb.check_any t W (hG.below hb hG.big)
  have HN : Hid (∀ W, Calls Tryd.prog 19 #[t.val, .func (.func 22) #[.agg #[.int .i64 ev]] #[]] W fun e w' => e = .returned (.pointer (some ⟨W.heap.size + 2, 0, none⟩)) ∧ RAt w' (W.heap.size + 2) t (some ev) (W.heap.size + 1) 0 (fun _ _ => 0) ∧ Below W.heap.size W w') := fun W => nothing_any t (some ev) W
  clear hG hk
  have h1' : ¬ ev < 1 := by omega
  have h2' : ¬ 65536 < ev := by omega
  unfold Tab.val at *
  go_enter Tryd.func9, Tryd.ntmps9
  go_wp2_with (first
    | (go_at_call 18; refine Calls.mono (HC.out _ (by go_grown)) ?_; rintro e w1 ⟨rfl, b1⟩; have HT : Hid (TabAt w1 w.heap.size t ∧ Below w.heap.size w w1) := ⟨(Tb.tabAt_new w t 24).below b1 (by simp), Below.trans (by go_grown) (b1.mono (by simp))⟩; clear b1 HC; have k2 := HT.out.1; have qu0 := k2.cu 0 (by decide); have qu1 := k2.cu 1 (by decide); have qu2 := k2.cu 2 (by decide); have qu3 := k2.cu 3 (by decide); have ql0 := k2.cl 0 (by decide); have ql1 := k2.cl 1 (by decide); have ql2 := k2.cl 2 (by decide); have ql3 := k2.cl 3 (by decide); have qb0 := k2.cb 0 (by decide); have qb1 := k2.cb 1 (by decide); have qb2 := k2.cb 2 (by decide); have qb3 := k2.cb 3 (by decide); have qd := k2.cd; have qz := k2.lt; clear k2)
    | (go_at_call 19; refine Calls.mono (HN.out _) ?_; rintro e w2 ⟨rfl, r2, b2⟩; have HR : Hid (RAt w2 (w1.heap.size + 2) t (some ev) (w1.heap.size + 1) 0 (fun _ _ => 0) ∧ Below w.heap.size w w2 ∧ w.heap.size ≤ w1.heap.size) := ⟨r2, HT.out.2.trans (b2.mono HT.out.2.size), HT.out.2.size⟩; clear r2 b2 HN))
  go_ret2
  exact ⟨_, _, rfl, HR.out.1, by have := HR.out.2.2; omega, HR.out.2.1⟩
/-- The error of a ring. -/
def rgE (t : Tab) (ev : Int) : Int := if Tb.ckR t = 0 then (if 1 ≤ ev ∧ ev ≤ 65536 then 0 else 2) else Tb.ckR t
theorem ring_no (t : Tab) (ev : Int) (w : World) (hG : Bnds w) (hk : ¬ rgE t ev = 0) : Calls Tryd.prog 9 #[t.val, .int .i64 ev] w fun e w' => e = .returned (.tuple #[.pointer none, .int .i64 (rgE t ev)]) ∧ Below w.heap.size w w' := by
  have HC : Hid (∀ W, Below w.heap.size w W → Calls Tryd.prog 18 #[t.val] W fun e w' => e = .returned (.int .i64 (Tb.ckR t)) ∧ Below W.heap.size W w') := fun W hb => Tb.check_any t W (hG.below hb hG.big)
  clear hG
  unfold rgE at *
  by_cases he : Tb.ckR t = 0
  · rw [if_pos he] at hk ⊢
    rw [he] at HC
    have hn : ¬ (1 ≤ ev ∧ ev ≤ 65536) := fun h => hk (if_pos h)
    rw [if_neg hn]
    clear hk he
    by_cases h1 : ev < 1
    · clear hn
      unfold Tab.val at *
      go_enter Tryd.func9, Tryd.ntmps9
      go_wp2_with (first
        | (go_at_call 18; refine Calls.mono (HC.out _ (by go_grown)) ?_; rintro e w1 ⟨rfl, b1⟩; have HT : Hid (TabAt w1 w.heap.size t ∧ Below w.heap.size w w1) := ⟨(Tb.tabAt_new w t 24).below b1 (by simp), Below.trans (by go_grown) (b1.mono (by simp))⟩; clear b1 HC; have k2 := HT.out.1; have qu0 := k2.cu 0 (by decide); have qu1 := k2.cu 1 (by decide); have qu2 := k2.cu 2 (by decide); have qu3 := k2.cu 3 (by decide); have ql0 := k2.cl 0 (by decide); have ql1 := k2.cl 1 (by decide); have ql2 := k2.cl 2 (by decide); have ql3 := k2.cl 3 (by decide); have qb0 := k2.cb 0 (by decide); have qb1 := k2.cb 1 (by decide); have qb2 := k2.cb 2 (by decide); have qb3 := k2.cb 3 (by decide); have qd := k2.cd; have qz := k2.lt; clear k2))
      go_ret2
      exact ⟨rfl, HT.out.2⟩
    · have h2 : 65536 < ev := by omega
      clear hn
      unfold Tab.val at *
      go_enter Tryd.func9, Tryd.ntmps9
      go_wp2_with (first
        | (go_at_call 18; refine Calls.mono (HC.out _ (by go_grown)) ?_; rintro e w1 ⟨rfl, b1⟩; have HT : Hid (TabAt w1 w.heap.size t ∧ Below w.heap.size w w1) := ⟨(Tb.tabAt_new w t 24).below b1 (by simp), Below.trans (by go_grown) (b1.mono (by simp))⟩; clear b1 HC; have k2 := HT.out.1; have qu0 := k2.cu 0 (by decide); have qu1 := k2.cu 1 (by decide); have qu2 := k2.cu 2 (by decide); have qu3 := k2.cu 3 (by decide); have ql0 := k2.cl 0 (by decide); have ql1 := k2.cl 1 (by decide); have ql2 := k2.cl 2 (by decide); have ql3 := k2.cl 3 (by decide); have qb0 := k2.cb 0 (by decide); have qb1 := k2.cb 1 (by decide); have qb2 := k2.cb 2 (by decide); have qb3 := k2.cb 3 (by decide); have qd := k2.cd; have qz := k2.lt; clear k2))
      go_ret2
      exact ⟨rfl, HT.out.2⟩
  · rw [if_neg he]
    have hkb : (Tb.ckR t != 0) = true := by simpa using he
    clear hk
    generalize Tb.ckR t = er at *
    unfold Tab.val at *
    go_enter Tryd.func9, Tryd.ntmps9
    go_wp2_with (first
      | (go_at_call 18; refine Calls.mono (HC.out _ (by go_grown)) ?_; rintro e w1 ⟨rfl, b1⟩; have HT : Hid (TabAt w1 w.heap.size t ∧ Below w.heap.size w w1) := ⟨(Tb.tabAt_new w t 24).below b1 (by simp), Below.trans (by go_grown) (b1.mono (by simp))⟩; clear b1 HC; have k2 := HT.out.1; have qu0 := k2.cu 0 (by decide); have qu1 := k2.cu 1 (by decide); have qu2 := k2.cu 2 (by decide); have qu3 := k2.cu 3 (by decide); have ql0 := k2.cl 0 (by decide); have ql1 := k2.cl 1 (by decide); have ql2 := k2.cl 2 (by decide); have ql3 := k2.cl 3 (by decide); have qb0 := k2.cb 0 (by decide); have qb1 := k2.cb 1 (by decide); have qb2 := k2.cb 2 (by decide); have qb3 := k2.cb 3 (by decide); have qd := k2.cd; have qz := k2.lt; clear k2))
    go_ret2
    exact ⟨rfl, HT.out.2⟩
end Go.Proofs.YthjnegdgpnbkkaaDoor.Rv
