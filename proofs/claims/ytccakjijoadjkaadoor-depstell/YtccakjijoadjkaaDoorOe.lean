/- The statement DepsTell, whole: what depends on what, of a list and of a loop, as the document says, whatever the list and the table; the listed variables are tied to the program text. Conditions: none. -/
import Derived.Test.YtccakjijoadjkaaDoorDf
import Derived.Test.YtccakjijoadjkaaDoorEl
import Derived.Test.YtccakjijoadjkaaDoorFr
namespace Go.Proofs.YtccakjijoadjkaaDoor.Dp
open Go.ChangeShapes Go.WideShapes Go.ChangeAt Go.RowKit
open _root_.Go.Proofs.YtccakjijoadjkaaDoor.Op _root_.Go.Proofs.YtccakjijoadjkaaDoor.So
open _root_.Go.Proofs.YtccakjijoadjkaaDoor.Al
open _root_.Go.Proofs.YtccakjijoadjkaaDoor.Tb (Tab TabAt Bnds)
set_option maxRecDepth 20000

theorem opsAt_take {w : World} {ao : Option Addr} {xs : List O} (h : OpsAt w ao xs) (n : Nat) : OpsAt w ao (xs.take n) := by
  refine ⟨fun o ho => h.ok o (List.mem_of_mem_take ho), by have := h.len; rw [List.length_take]; omega, fun h0 => ?_⟩
  obtain ⟨b, f, e, z, hx⟩ := h.is (by rw [List.length_take] at h0; omega)
  refine ⟨b, f, e, z, fun i hi => ?_⟩
  rw [List.getElem_take]
  exact hx i _
/-- Both sides tell the same. -/
theorem tell_parts (ao : Option Addr) (cap : Nat) (ys : List O) (t : Tab) (w : World) (h : OpsAt w ao ys) (hcap : ys.length ≤ cap) (hG : Bnds w) (hq : lisE t ys = 0 → ys.length ≤ 200) :
    ∃ (er : Int) (E1 E2 : List Ed), ((E1.length : Int) ≤ 200000000 ∧ (E2.length : Int) ≤ 200000000) ∧ (∀ W, Below w.heap.size w W → Calls Tryd.prog 9 #[.slice ao ys.length cap, t.val] W fun e w' => ∃ a c, e = .returned (.tuple #[.slice a E1.length c, .int .i64 er]) ∧ EOwn W.heap.size w' a c E1 ∧ Below W.heap.size W w') ∧ (∀ W, Below w.heap.size w W → Calls Tryd.prog 10 #[.slice ao ys.length cap, t.val] W fun e w' => ∃ a c, e = .returned (.tuple #[.slice a E1.length c, .int .i64 er]) ∧ EOwn W.heap.size w' a c E1 ∧ Below W.heap.size W w') ∧ (∀ W, Below w.heap.size w W → Calls Tryd.prog 11 #[.slice ao ys.length cap, t.val] W fun e w' => ∃ a c, e = .returned (.tuple #[.slice a E2.length c, .int .i64 er]) ∧ EOwn W.heap.size w' a c E2 ∧ Below W.heap.size W w') ∧ (∀ W, Below w.heap.size w W → Calls Tryd.prog 12 #[.slice ao ys.length cap, t.val] W fun e w' => ∃ a c, e = .returned (.tuple #[.slice a E2.length c, .int .i64 er]) ∧ EOwn W.heap.size w' a c E2 ∧ Below W.heap.size W w') := by
  have e1 : erE t ys (ofE t ys) = erE t ys (ofD t ys ys.length) := by
    unfold erE
    by_cases he : lisE t ys = 0
    · obtain ⟨-, -, hok⟩ := lis_all he
      rw [if_pos he, if_pos he, ofD_eq t fun o ho => ⟨h.ok o ho, hok o ho⟩]
    · rw [if_neg he, if_neg he]
  have e2 : erE t ys (loopE t ys) = erE t ys (ofD t ys ys.length ++ roundD t ys ys.length) := by
    unfold erE
    by_cases he : lisE t ys = 0
    · obtain ⟨-, -, hok⟩ := lis_all he
      have hA : Lall ys := fun o ho => ⟨h.ok o ho, hok o ho⟩
      rw [if_pos he, if_pos he, ← ofD_eq t hA, ← roundD_eq t hA]
      rfl
    · rw [if_neg he, if_neg he]
  refine ⟨lisE t ys, erE t ys (ofE t ys), erE t ys (loopE t ys), ⟨?_, ?_⟩, fun W hb => of_any ao cap ys t W (h.below hb) hcap (hG.below hb hG.big), fun W hb => ?_, fun W hb => loop_any ao cap ys t W (h.below hb) hcap (hG.below hb hG.big), fun W hb => ?_⟩
  · rw [e1]
    unfold erE
    by_cases he : lisE t ys = 0
    · have := ofD_len t ys (n := ys.length) (hq he)
      have := hq he
      rw [if_pos he]; omega
    · rw [if_neg he]; simp
  · rw [e2]
    unfold erE
    by_cases he : lisE t ys = 0
    · have h1 := ofD_len t ys (n := ys.length) (hq he)
      have h2 := roundD_len t ys (hq he) ys.length
      have := hq he
      rw [if_pos he, List.length_append]; omega
    · rw [if_neg he]; simp
  · rw [e1]; exact refOf_any ao cap ys t W (h.below hb) hq
  · rw [e2]; exact refLoop_any ao cap ys t W (h.below hb) hq
/-- The table's box, and what stands below. -/
theorem tab_next {w W W' : World} {t : Tab} (h : TabAt W w.heap.size t ∧ Below w.heap.size w W) (hb : Below W.heap.size W W') : TabAt W' w.heap.size t ∧ Below w.heap.size w W' := ⟨h.1.below hb h.1.lt, h.2.trans (hb.mono h.2.size)⟩
set_option maxHeartbeats 16000000 in
theorem law_tell (ao : Option Addr) (cap : Nat) (xs : List O) (t : Tab) (w : World) (h : OpsAt w ao xs) (hcap : xs.length ≤ cap) (hG : Bnds w) :
    Calls Tryd.prog 3 #[.slice ao xs.length cap, t.val] w fun e w' => e = .returned (.bool true) ∧ Below w.heap.size w w' := by
  by_cases h1 : 200 < xs.length
  · by_cases h2 : xs.length ≤ 1024
    · obtain ⟨er, E1, E2, hn, hc1, hc2, hc3, hc4⟩ := tell_parts ao cap (xs.take 200) t w (opsAt_take h 200) (by rw [List.length_take]; omega) hG (fun _ => by rw [List.length_take]; omega)
      rw [show (xs.take 200).length = 200 by rw [List.length_take]; omega] at hc1 hc2 hc3 hc4
      have HN : Hid _ := hn
      have HC1 : Hid _ := hc1
      have HC2 : Hid _ := hc2
      have HC3 : Hid _ := hc3
      have HC4 : Hid _ := hc4
      clear hn hc1 hc2 hc3 hc4
      have HW : Hid (∀ W, Below w.heap.size w W → Calls Tryd.prog 14 #[] W fun e w' => e = .returned (.bool true) ∧ Below W.heap.size W w') := fun W hb => wakes_any W (hG.below hb hG.big)
      have hee : (er == er) = true := by simp
      have i1 : (200 : Int) < (xs.length : Int) := by omega
      have i2 : (xs.length : Int) ≤ 1024 := by omega
      have i3 : 200 ≤ cap := by omega
      have i4 : (200 : Int) ≤ (cap : Int) := by omega
      clear h hcap hG
      unfold Tab.val at *
      go_enter Tryd.func3, Tryd.ntmps3
      go_wp2_with (first
        | (go_at_call 9; refine Calls.mono (HC1.out _ (by go_grown)) ?_; rintro e w1 ⟨a1, c1, rfl, o1, b1⟩; have HT : Hid (TabAt w1 w.heap.size t ∧ Below w.heap.size w w1) := tab_next ⟨Tb.tabAt_new w t 25, by go_grown⟩ b1; obtain ⟨B1, hB1⟩ : ∃ B, B = w.heap.size + 1 := ⟨_, rfl⟩; have HO1 : Hid (EOwn B1 w1 a1 c1 E1) := (by rw [hB1]; show EOwn _ _ _ _ _; first | exact o1 | simpa using o1); clear hB1; clear o1 b1 HC1; have k2 := HT.out.1; have qu0 := k2.cu 0 (by decide); have qu1 := k2.cu 1 (by decide); have qu2 := k2.cu 2 (by decide); have qu3 := k2.cu 3 (by decide); have ql0 := k2.cl 0 (by decide); have ql1 := k2.cl 1 (by decide); have ql2 := k2.cl 2 (by decide); have ql3 := k2.cl 3 (by decide); have qb0 := k2.cb 0 (by decide); have qb1 := k2.cb 1 (by decide); have qb2 := k2.cb 2 (by decide); have qb3 := k2.cb 3 (by decide); have qd := k2.cd; have qz := k2.lt; clear k2)
        | (go_at_call 10; refine Calls.mono (HC2.out _ HT.out.2) ?_; rintro e w2 ⟨a2, c2, rfl, o2, b2⟩; have HT : Hid (TabAt w2 w.heap.size t ∧ Below w.heap.size w w2) := tab_next HT.out b2; obtain ⟨B2, hB2⟩ : ∃ B, B = w1.heap.size := ⟨_, rfl⟩; have HO2 : Hid (EOwn B2 w2 a2 c2 E1) := (by rw [hB2]; show EOwn _ _ _ _ _; first | exact o2 | simpa using o2); clear hB2; have HO1 : Hid (EOwn B1 w2 a1 c1 E1) := HO1.out.up b2; clear o2 b2 HC2 qu0 qu1 qu2 qu3 ql0 ql1 ql2 ql3 qb0 qb1 qb2 qb3 qd qz; have k2 := HT.out.1; have qu0 := k2.cu 0 (by decide); have qu1 := k2.cu 1 (by decide); have qu2 := k2.cu 2 (by decide); have qu3 := k2.cu 3 (by decide); have ql0 := k2.cl 0 (by decide); have ql1 := k2.cl 1 (by decide); have ql2 := k2.cl 2 (by decide); have ql3 := k2.cl 3 (by decide); have qb0 := k2.cb 0 (by decide); have qb1 := k2.cb 1 (by decide); have qb2 := k2.cb 2 (by decide); have qb3 := k2.cb 3 (by decide); have qd := k2.cd; have qz := k2.lt; clear k2)
        | (go_at_call 11; refine Calls.mono (HC3.out _ HT.out.2) ?_; rintro e w3 ⟨a3, c3, rfl, o3, b3⟩; have HT : Hid (TabAt w3 w.heap.size t ∧ Below w.heap.size w w3) := tab_next HT.out b3; obtain ⟨B3, hB3⟩ : ∃ B, B = w2.heap.size := ⟨_, rfl⟩; have HO3 : Hid (EOwn B3 w3 a3 c3 E2) := (by rw [hB3]; show EOwn _ _ _ _ _; first | exact o3 | simpa using o3); clear hB3; have HO1 : Hid (EOwn B1 w3 a1 c1 E1) := HO1.out.up b3; have HO2 : Hid (EOwn B2 w3 a2 c2 E1) := HO2.out.up b3; clear o3 b3 HC3 qu0 qu1 qu2 qu3 ql0 ql1 ql2 ql3 qb0 qb1 qb2 qb3 qd qz; have k2 := HT.out.1; have qu0 := k2.cu 0 (by decide); have qu1 := k2.cu 1 (by decide); have qu2 := k2.cu 2 (by decide); have qu3 := k2.cu 3 (by decide); have ql0 := k2.cl 0 (by decide); have ql1 := k2.cl 1 (by decide); have ql2 := k2.cl 2 (by decide); have ql3 := k2.cl 3 (by decide); have qb0 := k2.cb 0 (by decide); have qb1 := k2.cb 1 (by decide); have qb2 := k2.cb 2 (by decide); have qb3 := k2.cb 3 (by decide); have qd := k2.cd; have qz := k2.lt; clear k2)
        | (go_at_call 12; refine Calls.mono (HC4.out _ HT.out.2) ?_; rintro e w4 ⟨a4, c4, rfl, o4, b4⟩; have HT : Hid (TabAt w4 w.heap.size t ∧ Below w.heap.size w w4) := tab_next HT.out b4; obtain ⟨B4, hB4⟩ : ∃ B, B = w3.heap.size := ⟨_, rfl⟩; have HO4 : Hid (EOwn B4 w4 a4 c4 E2) := (by rw [hB4]; show EOwn _ _ _ _ _; first | exact o4 | simpa using o4); clear hB4; have HO1 : Hid (EOwn B1 w4 a1 c1 E1) := HO1.out.up b4; have HO2 : Hid (EOwn B2 w4 a2 c2 E1) := HO2.out.up b4; have HO3 : Hid (EOwn B3 w4 a3 c3 E2) := HO3.out.up b4; clear o4 b4 HC4 qu0 qu1 qu2 qu3 ql0 ql1 ql2 ql3 qb0 qb1 qb2 qb3 qd qz)
        | (go_at_call_of 13 (Value.slice a1 E1.length c1); refine Calls.mono (edges_same _ HO1.out HO2.out HN.out.1) ?_; rintro e w5 ⟨rfl, b5⟩; have HT : Hid (TabAt w5 w.heap.size t ∧ Below w.heap.size w w5) := tab_next HT.out b5; have HO3 : Hid (EOwn B3 w5 a3 c3 E2) := HO3.out.up b5; have HO4 : Hid (EOwn B4 w5 a4 c4 E2) := HO4.out.up b5; clear b5)
        | (go_at_call_of 13 (Value.slice a3 E2.length c3); refine Calls.mono (edges_same _ HO3.out HO4.out HN.out.2) ?_; rintro e w6 ⟨rfl, b6⟩; have HT : Hid (TabAt w6 w.heap.size t ∧ Below w.heap.size w w6) := tab_next HT.out b6; clear b6)
        | (go_at_call 14; refine Calls.mono (HW.out _ HT.out.2) ?_; rintro e w7 ⟨rfl, b7⟩; have HB7 : Hid (Below w.heap.size w w7) := (tab_next HT.out b7).2; clear b7 HW))
      go_ret
      exact ⟨rfl, HB7.out⟩
    · obtain ⟨er, E1, E2, hn, hc1, hc2, hc3, hc4⟩ := tell_parts ao cap xs t w h hcap hG (fun he => by have := (lis_all he).2.1; omega)
      have HN : Hid _ := hn
      have HC1 : Hid _ := hc1
      have HC2 : Hid _ := hc2
      have HC3 : Hid _ := hc3
      have HC4 : Hid _ := hc4
      clear hn hc1 hc2 hc3 hc4
      have HW : Hid (∀ W, Below w.heap.size w W → Calls Tryd.prog 14 #[] W fun e w' => e = .returned (.bool true) ∧ Below W.heap.size W w') := fun W hb => wakes_any W (hG.below hb hG.big)
      have hee : (er == er) = true := by simp
      have i1 : (200 : Int) < (xs.length : Int) := by omega
      have i2 : ¬ (xs.length : Int) ≤ 1024 := by omega
      clear h hcap hG
      unfold Tab.val at *
      go_enter Tryd.func3, Tryd.ntmps3
      go_wp2_with (first
        | (go_at_call 9; refine Calls.mono (HC1.out _ (by go_grown)) ?_; rintro e w1 ⟨a1, c1, rfl, o1, b1⟩; have HT : Hid (TabAt w1 w.heap.size t ∧ Below w.heap.size w w1) := tab_next ⟨Tb.tabAt_new w t 25, by go_grown⟩ b1; obtain ⟨B1, hB1⟩ : ∃ B, B = w.heap.size + 1 := ⟨_, rfl⟩; have HO1 : Hid (EOwn B1 w1 a1 c1 E1) := (by rw [hB1]; show EOwn _ _ _ _ _; first | exact o1 | simpa using o1); clear hB1; clear o1 b1 HC1; have k2 := HT.out.1; have qu0 := k2.cu 0 (by decide); have qu1 := k2.cu 1 (by decide); have qu2 := k2.cu 2 (by decide); have qu3 := k2.cu 3 (by decide); have ql0 := k2.cl 0 (by decide); have ql1 := k2.cl 1 (by decide); have ql2 := k2.cl 2 (by decide); have ql3 := k2.cl 3 (by decide); have qb0 := k2.cb 0 (by decide); have qb1 := k2.cb 1 (by decide); have qb2 := k2.cb 2 (by decide); have qb3 := k2.cb 3 (by decide); have qd := k2.cd; have qz := k2.lt; clear k2)
        | (go_at_call 10; refine Calls.mono (HC2.out _ HT.out.2) ?_; rintro e w2 ⟨a2, c2, rfl, o2, b2⟩; have HT : Hid (TabAt w2 w.heap.size t ∧ Below w.heap.size w w2) := tab_next HT.out b2; obtain ⟨B2, hB2⟩ : ∃ B, B = w1.heap.size := ⟨_, rfl⟩; have HO2 : Hid (EOwn B2 w2 a2 c2 E1) := (by rw [hB2]; show EOwn _ _ _ _ _; first | exact o2 | simpa using o2); clear hB2; have HO1 : Hid (EOwn B1 w2 a1 c1 E1) := HO1.out.up b2; clear o2 b2 HC2 qu0 qu1 qu2 qu3 ql0 ql1 ql2 ql3 qb0 qb1 qb2 qb3 qd qz; have k2 := HT.out.1; have qu0 := k2.cu 0 (by decide); have qu1 := k2.cu 1 (by decide); have qu2 := k2.cu 2 (by decide); have qu3 := k2.cu 3 (by decide); have ql0 := k2.cl 0 (by decide); have ql1 := k2.cl 1 (by decide); have ql2 := k2.cl 2 (by decide); have ql3 := k2.cl 3 (by decide); have qb0 := k2.cb 0 (by decide); have qb1 := k2.cb 1 (by decide); have qb2 := k2.cb 2 (by decide); have qb3 := k2.cb 3 (by decide); have qd := k2.cd; have qz := k2.lt; clear k2)
        | (go_at_call 11; refine Calls.mono (HC3.out _ HT.out.2) ?_; rintro e w3 ⟨a3, c3, rfl, o3, b3⟩; have HT : Hid (TabAt w3 w.heap.size t ∧ Below w.heap.size w w3) := tab_next HT.out b3; obtain ⟨B3, hB3⟩ : ∃ B, B = w2.heap.size := ⟨_, rfl⟩; have HO3 : Hid (EOwn B3 w3 a3 c3 E2) := (by rw [hB3]; show EOwn _ _ _ _ _; first | exact o3 | simpa using o3); clear hB3; have HO1 : Hid (EOwn B1 w3 a1 c1 E1) := HO1.out.up b3; have HO2 : Hid (EOwn B2 w3 a2 c2 E1) := HO2.out.up b3; clear o3 b3 HC3 qu0 qu1 qu2 qu3 ql0 ql1 ql2 ql3 qb0 qb1 qb2 qb3 qd qz; have k2 := HT.out.1; have qu0 := k2.cu 0 (by decide); have qu1 := k2.cu 1 (by decide); have qu2 := k2.cu 2 (by decide); have qu3 := k2.cu 3 (by decide); have ql0 := k2.cl 0 (by decide); have ql1 := k2.cl 1 (by decide); have ql2 := k2.cl 2 (by decide); have ql3 := k2.cl 3 (by decide); have qb0 := k2.cb 0 (by decide); have qb1 := k2.cb 1 (by decide); have qb2 := k2.cb 2 (by decide); have qb3 := k2.cb 3 (by decide); have qd := k2.cd; have qz := k2.lt; clear k2)
        | (go_at_call 12; refine Calls.mono (HC4.out _ HT.out.2) ?_; rintro e w4 ⟨a4, c4, rfl, o4, b4⟩; have HT : Hid (TabAt w4 w.heap.size t ∧ Below w.heap.size w w4) := tab_next HT.out b4; obtain ⟨B4, hB4⟩ : ∃ B, B = w3.heap.size := ⟨_, rfl⟩; have HO4 : Hid (EOwn B4 w4 a4 c4 E2) := (by rw [hB4]; show EOwn _ _ _ _ _; first | exact o4 | simpa using o4); clear hB4; have HO1 : Hid (EOwn B1 w4 a1 c1 E1) := HO1.out.up b4; have HO2 : Hid (EOwn B2 w4 a2 c2 E1) := HO2.out.up b4; have HO3 : Hid (EOwn B3 w4 a3 c3 E2) := HO3.out.up b4; clear o4 b4 HC4 qu0 qu1 qu2 qu3 ql0 ql1 ql2 ql3 qb0 qb1 qb2 qb3 qd qz)
        | (go_at_call_of 13 (Value.slice a1 E1.length c1); refine Calls.mono (edges_same _ HO1.out HO2.out HN.out.1) ?_; rintro e w5 ⟨rfl, b5⟩; have HT : Hid (TabAt w5 w.heap.size t ∧ Below w.heap.size w w5) := tab_next HT.out b5; have HO3 : Hid (EOwn B3 w5 a3 c3 E2) := HO3.out.up b5; have HO4 : Hid (EOwn B4 w5 a4 c4 E2) := HO4.out.up b5; clear b5)
        | (go_at_call_of 13 (Value.slice a3 E2.length c3); refine Calls.mono (edges_same _ HO3.out HO4.out HN.out.2) ?_; rintro e w6 ⟨rfl, b6⟩; have HT : Hid (TabAt w6 w.heap.size t ∧ Below w.heap.size w w6) := tab_next HT.out b6; clear b6)
        | (go_at_call 14; refine Calls.mono (HW.out _ HT.out.2) ?_; rintro e w7 ⟨rfl, b7⟩; have HB7 : Hid (Below w.heap.size w w7) := (tab_next HT.out b7).2; clear b7 HW))
      go_ret
      exact ⟨rfl, HB7.out⟩
  · obtain ⟨er, E1, E2, hn, hc1, hc2, hc3, hc4⟩ := tell_parts ao cap xs t w h hcap hG (fun _ => by omega)
    have HN : Hid _ := hn
    have HC1 : Hid _ := hc1
    have HC2 : Hid _ := hc2
    have HC3 : Hid _ := hc3
    have HC4 : Hid _ := hc4
    clear hn hc1 hc2 hc3 hc4
    have HW : Hid (∀ W, Below w.heap.size w W → Calls Tryd.prog 14 #[] W fun e w' => e = .returned (.bool true) ∧ Below W.heap.size W w') := fun W hb => wakes_any W (hG.below hb hG.big)
    have hee : (er == er) = true := by simp
    have i1 : ¬ (200 : Int) < (xs.length : Int) := by omega
    clear h hcap hG
    unfold Tab.val at *
    go_enter Tryd.func3, Tryd.ntmps3
    go_wp2_with (first
      | (go_at_call 9; refine Calls.mono (HC1.out _ (by go_grown)) ?_; rintro e w1 ⟨a1, c1, rfl, o1, b1⟩; have HT : Hid (TabAt w1 w.heap.size t ∧ Below w.heap.size w w1) := tab_next ⟨Tb.tabAt_new w t 25, by go_grown⟩ b1; obtain ⟨B1, hB1⟩ : ∃ B, B = w.heap.size + 1 := ⟨_, rfl⟩; have HO1 : Hid (EOwn B1 w1 a1 c1 E1) := (by rw [hB1]; show EOwn _ _ _ _ _; first | exact o1 | simpa using o1); clear hB1; clear o1 b1 HC1; have k2 := HT.out.1; have qu0 := k2.cu 0 (by decide); have qu1 := k2.cu 1 (by decide); have qu2 := k2.cu 2 (by decide); have qu3 := k2.cu 3 (by decide); have ql0 := k2.cl 0 (by decide); have ql1 := k2.cl 1 (by decide); have ql2 := k2.cl 2 (by decide); have ql3 := k2.cl 3 (by decide); have qb0 := k2.cb 0 (by decide); have qb1 := k2.cb 1 (by decide); have qb2 := k2.cb 2 (by decide); have qb3 := k2.cb 3 (by decide); have qd := k2.cd; have qz := k2.lt; clear k2)
      | (go_at_call 10; refine Calls.mono (HC2.out _ HT.out.2) ?_; rintro e w2 ⟨a2, c2, rfl, o2, b2⟩; have HT : Hid (TabAt w2 w.heap.size t ∧ Below w.heap.size w w2) := tab_next HT.out b2; obtain ⟨B2, hB2⟩ : ∃ B, B = w1.heap.size := ⟨_, rfl⟩; have HO2 : Hid (EOwn B2 w2 a2 c2 E1) := (by rw [hB2]; show EOwn _ _ _ _ _; first | exact o2 | simpa using o2); clear hB2; have HO1 : Hid (EOwn B1 w2 a1 c1 E1) := HO1.out.up b2; clear o2 b2 HC2 qu0 qu1 qu2 qu3 ql0 ql1 ql2 ql3 qb0 qb1 qb2 qb3 qd qz; have k2 := HT.out.1; have qu0 := k2.cu 0 (by decide); have qu1 := k2.cu 1 (by decide); have qu2 := k2.cu 2 (by decide); have qu3 := k2.cu 3 (by decide); have ql0 := k2.cl 0 (by decide); have ql1 := k2.cl 1 (by decide); have ql2 := k2.cl 2 (by decide); have ql3 := k2.cl 3 (by decide); have qb0 := k2.cb 0 (by decide); have qb1 := k2.cb 1 (by decide); have qb2 := k2.cb 2 (by decide); have qb3 := k2.cb 3 (by decide); have qd := k2.cd; have qz := k2.lt; clear k2)
      | (go_at_call 11; refine Calls.mono (HC3.out _ HT.out.2) ?_; rintro e w3 ⟨a3, c3, rfl, o3, b3⟩; have HT : Hid (TabAt w3 w.heap.size t ∧ Below w.heap.size w w3) := tab_next HT.out b3; obtain ⟨B3, hB3⟩ : ∃ B, B = w2.heap.size := ⟨_, rfl⟩; have HO3 : Hid (EOwn B3 w3 a3 c3 E2) := (by rw [hB3]; show EOwn _ _ _ _ _; first | exact o3 | simpa using o3); clear hB3; have HO1 : Hid (EOwn B1 w3 a1 c1 E1) := HO1.out.up b3; have HO2 : Hid (EOwn B2 w3 a2 c2 E1) := HO2.out.up b3; clear o3 b3 HC3 qu0 qu1 qu2 qu3 ql0 ql1 ql2 ql3 qb0 qb1 qb2 qb3 qd qz; have k2 := HT.out.1; have qu0 := k2.cu 0 (by decide); have qu1 := k2.cu 1 (by decide); have qu2 := k2.cu 2 (by decide); have qu3 := k2.cu 3 (by decide); have ql0 := k2.cl 0 (by decide); have ql1 := k2.cl 1 (by decide); have ql2 := k2.cl 2 (by decide); have ql3 := k2.cl 3 (by decide); have qb0 := k2.cb 0 (by decide); have qb1 := k2.cb 1 (by decide); have qb2 := k2.cb 2 (by decide); have qb3 := k2.cb 3 (by decide); have qd := k2.cd; have qz := k2.lt; clear k2)
      | (go_at_call 12; refine Calls.mono (HC4.out _ HT.out.2) ?_; rintro e w4 ⟨a4, c4, rfl, o4, b4⟩; have HT : Hid (TabAt w4 w.heap.size t ∧ Below w.heap.size w w4) := tab_next HT.out b4; obtain ⟨B4, hB4⟩ : ∃ B, B = w3.heap.size := ⟨_, rfl⟩; have HO4 : Hid (EOwn B4 w4 a4 c4 E2) := (by rw [hB4]; show EOwn _ _ _ _ _; first | exact o4 | simpa using o4); clear hB4; have HO1 : Hid (EOwn B1 w4 a1 c1 E1) := HO1.out.up b4; have HO2 : Hid (EOwn B2 w4 a2 c2 E1) := HO2.out.up b4; have HO3 : Hid (EOwn B3 w4 a3 c3 E2) := HO3.out.up b4; clear o4 b4 HC4 qu0 qu1 qu2 qu3 ql0 ql1 ql2 ql3 qb0 qb1 qb2 qb3 qd qz)
      | (go_at_call_of 13 (Value.slice a1 E1.length c1); refine Calls.mono (edges_same _ HO1.out HO2.out HN.out.1) ?_; rintro e w5 ⟨rfl, b5⟩; have HT : Hid (TabAt w5 w.heap.size t ∧ Below w.heap.size w w5) := tab_next HT.out b5; have HO3 : Hid (EOwn B3 w5 a3 c3 E2) := HO3.out.up b5; have HO4 : Hid (EOwn B4 w5 a4 c4 E2) := HO4.out.up b5; clear b5)
      | (go_at_call_of 13 (Value.slice a3 E2.length c3); refine Calls.mono (edges_same _ HO3.out HO4.out HN.out.2) ?_; rintro e w6 ⟨rfl, b6⟩; have HT : Hid (TabAt w6 w.heap.size t ∧ Below w.heap.size w w6) := tab_next HT.out b6; clear b6)
      | (go_at_call 14; refine Calls.mono (HW.out _ HT.out.2) ?_; rintro e w7 ⟨rfl, b7⟩; have HB7 : Hid (Below w.heap.size w w7) := (tab_next HT.out b7).2; clear b7 HW))
    go_ret
    exact ⟨rfl, HB7.out⟩
end Go.Proofs.YtccakjijoadjkaaDoor.Dp

namespace Go.Proofs.YtccakjijoadjkaaDoor.Hc
open Go.ChangeShapes Go.WideShapes Go.ChangeAt Go.RowKit
open _root_.Go.Proofs.YtccakjijoadjkaaDoor.Op

set_option maxRecDepth 100000 in
theorem tell_wit (os : Os) (H : Type) (enc : TypeId × Value → H) : ∃ (w : World) (tape : Tape) (i : Input), w.os = os ∧ (w.forCall tape i).Shaped Tryd.prog ∧ i.vars = [] ∧ Input.okWide Tryd.prog (w.forCall tape i) .any w.heap.size 3 i ∧
      ((Rows.depsTellSpec.pre enc Tryd.prog Tryd.f3 [] false (w.forCall tape i).memory i.args ∧ laidMetH Tryd.prog Rows.depsTellRow.laid (w.forCall tape i).memory) ∧ sizedMet enc Tryd.prog Tryd.f3 (OpenSpec.ofChange Rows.depsTellSpec) false (w.forCall tape i).memory i.args) ∧ Assume.holds {} Tryd.prog (lone (Frame.enter Tryd.prog 3 i.args .normal) [] (w.forCall tape i)) :=
  ChangeSpec.witness_shaped (enc := enc) (C := Tryd.checked) (os := os) (X := fun w _ => laidMetH Tryd.prog Rows.depsTellRow.laid w) false ((World.holding Tryd.prog os ⟨#[], #[], []⟩).layVars Tryd.prog laid4) #[.slice none 0 0, .agg #[.int .i64 0, .int .i64 0, .int .i64 0, .int .i64 0, .int .i64 0, .int .i64 0, .int .i64 0, .int .i64 0, .int .i64 0, .int .i64 0, .int .i64 0, .int .i64 0, .int .i64 0]] 8 (wit_os4 os)
    (World.shaped_of_ZipB (by kernel_rfl) (by kernel_rfl)) (by kernel_rfl) (by kernel_rfl) (by kernel_rfl) (wit_met4 os _)

set_option maxRecDepth 100000 in
theorem tell_lifted (os : Os) (started : os.Started) (H : Type) (enc : TypeId × Value → H) :
    ReturnsInHanded {} Tryd.checked os 3 .any (fun w args => (Rows.depsTellSpec.pre enc Tryd.prog Tryd.f3 [] false w args ∧ laidMetH Tryd.prog Rows.depsTellRow.laid w) ∧ sizedMet enc Tryd.prog Tryd.f3 (OpenSpec.ofChange Rows.depsTellSpec) false w args)
      (Rows.depsTellSpec.post enc Tryd.prog Tryd.f3 false true false false) := by
  refine wrap started (by kernel_rfl) Tryd.func3 (tell_wit os H enc) ?_
  intro W base args ds gs before hval0 hW hsz hL hsh
  have hval : ∀ (j : Nat) t v, Tryd.f3.params[j]? = some t → args[j]? = some v → Value.okWide Tryd.prog W .any base t v := hval0
  have hW' := hW
  obtain ⟨p, q, hA0, hV, rfl, _, _⟩ := hW
  have hA : DataW.TrodAll enc Tryd.prog W 0 (fun _ => true) true Tryd.f3.params.toList args.toList ds p := hA0
  rw [Tryd.params3] at hA hval hsz
  obtain ⟨v0, v1, d0, d1, p0, p1, rfl, rfl, rfl, h0, h1⟩ := trodAll_two hA
  obtain ⟨rfl, rfl⟩ := trodVars_none hV
  obtain ⟨ao, cap, xs, rfl, hp, hc⟩ := open_ops (hval 0 22 v0 rfl rfl) h0 fun n hn => by
    have := List.all_eq_true.1 hsz n (DataW.weights_mem_each (j := 0) rfl rfl n hn)
    simpa using this
  obtain ⟨⟨t, rfl⟩, rfl⟩ := open_tab (hval 1 25 v1 rfl rfl) h1
  simp only [List.append_nil] at hW'
  refine (Dp.law_tell ao cap xs t W hp hc (env4 hL hsh)).mono fun e W' ⟨he, hb⟩ => ?_
  subst he
  refine ⟨_, rfl, _, _, _, [], p0 ++ [], [], hW', trodAll_mk1 (shut_bool Tryd.underlying4 _), ?_, rfl, hb.frame _, fun h => by cases h⟩
  rw [Tryd.params3]
  exact trodAll_mk2 (Below.trod laidOut (by kernel_rfl) (by rw [tySize]; decide) h0 hb fun x hx => by obtain ⟨fuel, hf⟩ := h0; exact DataW.trod_lt _ _ _ _ hf x hx) (Below.trod laidOut (by kernel_rfl) (by rw [tySize]; decide) h1 hb (fun x hx => by cases hx))

theorem tell_row : Rows.DepsTellSaid :=
  OpenClaim.holds_of_wide 3 Tryd.f3 rfl rfl rfl rfl rfl rfl rfl ⟨rfl, rfl, rfl, rfl, rfl⟩ rfl rfl rfl rfl rfl (by kernel_rfl) Tryd.func3 (by kernel_rfl)
    (of_decide_eq_true (by kernel_rfl)) (by unfold Func.isWrapper; first | (rw [if_pos (by decide +kernel)]; kernel_rfl) | (rw [if_neg (by decide +kernel)]; exact ⟨rfl, rfl⟩))
    (fun os started H enc _ => tell_lifted os started H enc)

theorem tell_card : Rows.DepsTellCardSaid :=
  Claim7.holds_tied_plain_at .later [] [.wider, .wider, .wider, .wider] true (true, "a30ebd5077f33e5cdccaff7d2a4a0209575c01e2b2de5e3f09ea03bda577cf6e") true tell_row (fun _ h => by cases h) (by kernel_rfl) (fun _ h => by cases h) depsTell_row_tie rfl ⟨rfl, rfl⟩ (by kernel_rfl) rfl
    (fun f fn hf hfn => by
      obtain rfl : f = 3 := Option.some.inj ((show Tryd.prog.funcNamed "hayloft/hayloftlaw11.DepsTell" = some 3 by kernel_rfl).symm.trans hf) |>.symm
      obtain rfl : fn = Tryd.f3 := (Option.some.inj (Tryd.func3.symm.trans hfn)).symm
      exact ⟨by kernel_rfl, fun j t ht => by
        rw [Tryd.params3] at ht
        have hm : t ∈ [22, 25] := by simpa using Array.mem_of_getElem? ht
        have hall : ([22, 25].all fun u => !Tryd.prog.wantsStandIn u) = true := by kernel_rfl
        exact (show Tryd.prog.wantsStandIn t = false by simpa using List.all_eq_true.1 hall t hm)⟩)
    (by kernel_rfl)
#print axioms tell_card
end Go.Proofs.YtccakjijoadjkaaDoor.Hc
