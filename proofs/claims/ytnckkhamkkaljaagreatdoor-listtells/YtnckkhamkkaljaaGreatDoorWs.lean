/- The statement ListTells over the program: operations are put into cycles as the document says. Conditions: the list lies in memory, the variables as the program lays them. -/
import Derived.Test.YtnckkhamkkaljaaGreatDoorWr
import Derived.Test.YtnckkhamkkaljaaGreatDoorWk
import Derived.Test.YtnckkhamkkaljaaGreatDoorHw
namespace Go.Proofs.YtnckkhamkkaljaaGreatDoor.Ls
open Go.ChangeShapes Go.WideShapes Go.ChangeAt Go.RowKit
open _root_.Go.Proofs.YtnckkhamkkaljaaGreatDoor.Op _root_.Go.Proofs.YtnckkhamkkaljaaGreatDoor.So _root_.Go.Proofs.YtnckkhamkkaljaaGreatDoor.Dp _root_.Go.Proofs.YtnckkhamkkaljaaGreatDoor.ListWay
open _root_.Go.Proofs.YtnckkhamkkaljaaGreatDoor.Tb (Tab TabAt Bnds)
set_option maxRecDepth 20000

set_option maxHeartbeats 16000000 in
theorem ltells_ok (ao : Option Addr) (cap : Nat) (xs : List O) (t : Tab) (w : World) (h : OpsAt w ao xs) (hl : xs.length ≤ 8796093021952) (hG : Bnds w) (hn : xs.length ≤ 60) (he : lisE t xs = 0) (hu : hvU t xs = true) :
    Calls Tryz.prog 3 #[.slice ao xs.length cap, t.val] w fun e w' => e = .returned (.bool true) ∧ Below w.heap.size w w' := by
  have HW : Hid (∀ W, Below w.heap.size w W → Calls Tryz.prog 4 #[] W fun e w' => e = .returned (.bool true) ∧ Below W.heap.size W w') := fun W hb => wakes_any W (hG.below hb hG.big)
  have HC1 : Hid (∀ W, Below w.heap.size w W → Calls Tryz.prog 5 #[.slice ao xs.length cap] W fun e w' => ∃ a c, e = .returned (.slice a xs.length c) ∧ w'.ownsRow W.heap.size 37 5 (.slice a xs.length c) xs.length (ocells xs) ∧ Below W.heap.size W w') := fun W hb => copiedOps_any ao cap xs W (h.below hb) hl
  have HOp : Hid (OpsAt w ao xs) := h
  have HL : Hid (xs.length ≤ 8796093021952) := hl
  have HG : Hid (Bnds w) := hG
  have hlz : (xs.length : Int) ≤ 8796093021952 := by omega
  have HCy : Hid (∀ am cm W, OpsAt W am xs → xs.length ≤ cm → Bnds W → Calls Tryz.prog 6 #[.slice am xs.length cm, .agg #[.int .i64 (t.u 0), .int .i64 (t.u 1), .int .i64 (t.u 2), .int .i64 (t.u 3), .int .i64 (t.l 0), .int .i64 (t.l 1), .int .i64 (t.l 2), .int .i64 (t.l 3), .int .i64 (t.b 0), .int .i64 (t.b 1), .int .i64 (t.b 2), .int .i64 (t.b 3), .int .i64 t.d]] W fun e w' => ∃ hb, e = .returned (.tuple #[.slice (some ⟨hb, 0, none⟩) xs.length xs.length, .int .i64 0]) ∧ Ir w' hb xs.length (cyL t xs) ∧ W.heap.size ≤ hb ∧ Below W.heap.size W w') := fun am cm W h1 h2 h3 => cycles_ok am cm xs t W h1 h2 h3 he hu
  have HDy : Hid (∀ W, Below w.heap.size w W → Calls Tryz.prog 7 #[.slice ao xs.length cap, .agg #[.int .i64 (t.u 0), .int .i64 (t.u 1), .int .i64 (t.u 2), .int .i64 (t.u 3), .int .i64 (t.l 0), .int .i64 (t.l 1), .int .i64 (t.l 2), .int .i64 (t.l 3), .int .i64 (t.b 0), .int .i64 (t.b 1), .int .i64 (t.b 2), .int .i64 (t.b 3), .int .i64 t.d]] W fun e w' => ∃ hb, e = .returned (.tuple #[.slice (some ⟨hb, 0, none⟩) xs.length xs.length, .int .i64 0]) ∧ Ir w' hb xs.length (cyL t xs) ∧ W.heap.size ≤ hb ∧ Below W.heap.size W w') := fun W hb => refCycles_ok ao cap xs t W (h.below hb) hn he hu
  have HNb : Hid ((xs.length : Int) ≤ 100000000) := by show (xs.length : Int) ≤ 100000000; omega
  have hi2 : ¬ (60 : Int) < (xs.length : Int) := by omega
  clear h hG hl hn he hu
  generalize cyL t xs = c at *
  unfold Tab.val
  go_enter Tryz.func3, Tryz.ntmps3
  go_wp2_with (first
      | (go_at_call 5; refine Calls.mono (HC1.out _ (by go_grown)) ?_; rintro e w1 ⟨am, cm, rfl, o1, b1⟩; have HT : Hid (TabAt w1 w.heap.size t ∧ Below w.heap.size w w1) := tabNext ⟨Tb.tabAt_new w t 25, by go_grown⟩ b1; have HM : Hid (OpsAt w1 am xs ∧ xs.length ≤ cm ∧ Bnds w1) := ⟨opsAt_row o1 HOp.out.ok HL.out, own_cap o1, HG.out.below HT.out.2 HG.out.big⟩; have HB : Hid (Below w1.heap.size w1 w1) := Below.refl _ _; clear o1 b1 HC1; have k2 := HT.out.1; have qu0 := k2.cu 0 (by decide); have qu1 := k2.cu 1 (by decide); have qu2 := k2.cu 2 (by decide); have qu3 := k2.cu 3 (by decide); have ql0 := k2.cl 0 (by decide); have ql1 := k2.cl 1 (by decide); have ql2 := k2.cl 2 (by decide); have ql3 := k2.cl 3 (by decide); have qb0 := k2.cb 0 (by decide); have qb1 := k2.cb 1 (by decide); have qb2 := k2.cb 2 (by decide); have qb3 := k2.cb 3 (by decide); have qd := k2.cd; have qz := k2.lt; clear k2)
      | (go_at_call 6; refine Calls.mono (HCy.out am cm _ (HM.out.1.below HB.out) HM.out.2.1 (HM.out.2.2.below HB.out HM.out.2.2.big)) ?_; rintro e w2 ⟨h1, rfl, i1, -, b2⟩; have HT : Hid (TabAt w2 w.heap.size t ∧ Below w.heap.size w w2) := tabNext HT.out b2; have HB : Hid (Below w1.heap.size w1 w2) := HB.out.trans (b2.mono HB.out.size); have HI1 : Hid (Ir w2 h1 xs.length c) := i1; clear i1 b2 HCy; clear qu0 qu1 qu2 qu3 ql0 ql1 ql2 ql3 qb0 qb1 qb2 qb3 qd qz; have k2 := HT.out.1; have qu0 := k2.cu 0 (by decide); have qu1 := k2.cu 1 (by decide); have qu2 := k2.cu 2 (by decide); have qu3 := k2.cu 3 (by decide); have ql0 := k2.cl 0 (by decide); have ql1 := k2.cl 1 (by decide); have ql2 := k2.cl 2 (by decide); have ql3 := k2.cl 3 (by decide); have qb0 := k2.cb 0 (by decide); have qb1 := k2.cb 1 (by decide); have qb2 := k2.cb 2 (by decide); have qb3 := k2.cb 3 (by decide); have qd := k2.cd; have qz := k2.lt; clear k2)
      | (go_at_call 7; refine Calls.mono (HDy.out _ HT.out.2) ?_; rintro e w3 ⟨h2, rfl, i2, -, b3⟩; have HT : Hid (TabAt w3 w.heap.size t ∧ Below w.heap.size w w3) := tabNext HT.out b3; have HB : Hid (Below w1.heap.size w1 w3) := HB.out.trans (b3.mono HB.out.size); have HI2 : Hid (Ir w3 h2 xs.length c) := i2; have HI1 : Hid (Ir w3 h1 xs.length c) := HI1.out.up b3; clear i2 b3 HDy; clear qu0 qu1 qu2 qu3 ql0 ql1 ql2 ql3 qb0 qb1 qb2 qb3 qd qz)
      | (go_at_call 8; refine Calls.mono (same_ir HNb.out HI1.out HI2.out) ?_; rintro e w4 ⟨rfl, b4⟩; have HT : Hid (TabAt w4 w.heap.size t ∧ Below w.heap.size w w4) := tabNext HT.out b4; have HB : Hid (Below w1.heap.size w1 w4) := HB.out.trans (b4.mono HB.out.size); clear b4 HI1 HI2)
      | (go_at_call 9; refine Calls.mono (likeOps_any am ao cm cap xs _ (HM.out.1.below HB.out) (HOp.out.below HT.out.2)) ?_; rintro e w8 ⟨rfl, b8⟩; have HT : Hid (TabAt w8 w.heap.size t ∧ Below w.heap.size w w8) := tabNext HT.out b8; have HB : Hid (Below w1.heap.size w1 w8) := HB.out.trans (b8.mono HB.out.size); clear b8)
      | (go_at_call 4; refine Calls.mono (HW.out _ HT.out.2) ?_; rintro e w9 ⟨rfl, b9⟩; have HB9 : Hid (Below w.heap.size w w9) := (tabNext HT.out b9).2; clear b9 HW))
  go_ret
  exact ⟨rfl, HB9.out⟩
set_option maxHeartbeats 16000000 in
theorem ltells_bad (ao : Option Addr) (cap : Nat) (xs : List O) (t : Tab) (w : World) (h : OpsAt w ao xs) (hl : xs.length ≤ 8796093021952) (hG : Bnds w) (hg1 : decide (60 < (xs.length : Int)) = false ∨ (decide (60 < (xs.length : Int)) = true ∧ decide ((xs.length : Int) ≤ 1024) = false)) (er : Int)
    (hcy : ∀ am cm W, OpsAt W am xs → xs.length ≤ cm → Bnds W → Calls Tryz.prog 6 #[.slice am xs.length cm, t.val] W fun e w' => e = .returned (.tuple #[.slice none 0 0, .int .i64 er]) ∧ Below W.heap.size W w')
    (hdy : ∀ W, Below w.heap.size w W → Calls Tryz.prog 7 #[.slice ao xs.length cap, t.val] W fun e w' => e = .returned (.tuple #[.slice none 0 0, .int .i64 er]) ∧ Below W.heap.size W w') :
    Calls Tryz.prog 3 #[.slice ao xs.length cap, t.val] w fun e w' => e = .returned (.bool true) ∧ Below w.heap.size w w' := by
  have HW : Hid (∀ W, Below w.heap.size w W → Calls Tryz.prog 4 #[] W fun e w' => e = .returned (.bool true) ∧ Below W.heap.size W w') := fun W hb => wakes_any W (hG.below hb hG.big)
  have HC1 : Hid (∀ W, Below w.heap.size w W → Calls Tryz.prog 5 #[.slice ao xs.length cap] W fun e w' => ∃ a c, e = .returned (.slice a xs.length c) ∧ w'.ownsRow W.heap.size 37 5 (.slice a xs.length c) xs.length (ocells xs) ∧ Below W.heap.size W w') := fun W hb => copiedOps_any ao cap xs W (h.below hb) hl
  have HOp : Hid (OpsAt w ao xs) := h
  have HL : Hid (xs.length ≤ 8796093021952) := hl
  have HG : Hid (Bnds w) := hG
  have hlz : (xs.length : Int) ≤ 8796093021952 := by omega
  have HCy : Hid (∀ am cm W, OpsAt W am xs → xs.length ≤ cm → Bnds W → Calls Tryz.prog 6 #[.slice am xs.length cm, .agg #[.int .i64 (t.u 0), .int .i64 (t.u 1), .int .i64 (t.u 2), .int .i64 (t.u 3), .int .i64 (t.l 0), .int .i64 (t.l 1), .int .i64 (t.l 2), .int .i64 (t.l 3), .int .i64 (t.b 0), .int .i64 (t.b 1), .int .i64 (t.b 2), .int .i64 (t.b 3), .int .i64 t.d]] W fun e w' => e = .returned (.tuple #[.slice none 0 0, .int .i64 er]) ∧ Below W.heap.size W w') := hcy
  have HDy : Hid (∀ W, Below w.heap.size w W → Calls Tryz.prog 7 #[.slice ao xs.length cap, .agg #[.int .i64 (t.u 0), .int .i64 (t.u 1), .int .i64 (t.u 2), .int .i64 (t.u 3), .int .i64 (t.l 0), .int .i64 (t.l 1), .int .i64 (t.l 2), .int .i64 (t.l 3), .int .i64 (t.b 0), .int .i64 (t.b 1), .int .i64 (t.b 2), .int .i64 (t.b 3), .int .i64 t.d]] W fun e w' => e = .returned (.tuple #[.slice none 0 0, .int .i64 er]) ∧ Below W.heap.size W w') := hdy
  have hee : (er == er) = true := by simp
  clear h hG hl hcy hdy
  rcases hg1 with hg1 | ⟨hg1, hg2⟩
  all_goals
    unfold Tab.val
    go_enter Tryz.func3, Tryz.ntmps3
    go_wp2_with (first
      | (go_at_call 5; refine Calls.mono (HC1.out _ (by go_grown)) ?_; rintro e w1 ⟨am, cm, rfl, o1, b1⟩; have HT : Hid (TabAt w1 w.heap.size t ∧ Below w.heap.size w w1) := tabNext ⟨Tb.tabAt_new w t 25, by go_grown⟩ b1; have HM : Hid (OpsAt w1 am xs ∧ xs.length ≤ cm ∧ Bnds w1) := ⟨opsAt_row o1 HOp.out.ok HL.out, own_cap o1, HG.out.below HT.out.2 HG.out.big⟩; have HB : Hid (Below w1.heap.size w1 w1) := Below.refl _ _; clear o1 b1 HC1; have k2 := HT.out.1; have qu0 := k2.cu 0 (by decide); have qu1 := k2.cu 1 (by decide); have qu2 := k2.cu 2 (by decide); have qu3 := k2.cu 3 (by decide); have ql0 := k2.cl 0 (by decide); have ql1 := k2.cl 1 (by decide); have ql2 := k2.cl 2 (by decide); have ql3 := k2.cl 3 (by decide); have qb0 := k2.cb 0 (by decide); have qb1 := k2.cb 1 (by decide); have qb2 := k2.cb 2 (by decide); have qb3 := k2.cb 3 (by decide); have qd := k2.cd; have qz := k2.lt; clear k2)
      | (go_at_call 6; refine Calls.mono (HCy.out am cm _ (HM.out.1.below HB.out) HM.out.2.1 (HM.out.2.2.below HB.out HM.out.2.2.big)) ?_; rintro e w2 ⟨rfl, b2⟩; have HT : Hid (TabAt w2 w.heap.size t ∧ Below w.heap.size w w2) := tabNext HT.out b2; have HB : Hid (Below w1.heap.size w1 w2) := HB.out.trans (b2.mono HB.out.size); clear b2 HCy; clear qu0 qu1 qu2 qu3 ql0 ql1 ql2 ql3 qb0 qb1 qb2 qb3 qd qz; have k2 := HT.out.1; have qu0 := k2.cu 0 (by decide); have qu1 := k2.cu 1 (by decide); have qu2 := k2.cu 2 (by decide); have qu3 := k2.cu 3 (by decide); have ql0 := k2.cl 0 (by decide); have ql1 := k2.cl 1 (by decide); have ql2 := k2.cl 2 (by decide); have ql3 := k2.cl 3 (by decide); have qb0 := k2.cb 0 (by decide); have qb1 := k2.cb 1 (by decide); have qb2 := k2.cb 2 (by decide); have qb3 := k2.cb 3 (by decide); have qd := k2.cd; have qz := k2.lt; clear k2)
      | (go_at_call 7; refine Calls.mono (HDy.out _ HT.out.2) ?_; rintro e w3 ⟨rfl, b3⟩; have HT : Hid (TabAt w3 w.heap.size t ∧ Below w.heap.size w w3) := tabNext HT.out b3; have HB : Hid (Below w1.heap.size w1 w3) := HB.out.trans (b3.mono HB.out.size); clear b3 HDy; clear qu0 qu1 qu2 qu3 ql0 ql1 ql2 ql3 qb0 qb1 qb2 qb3 qd qz)
      | (go_at_call 8; refine Calls.mono (same_any none none 0 0 0 _ (by decide) (fun k hk => by omega)) ?_; rintro e w4 ⟨rfl, b4⟩; have HT : Hid (TabAt w4 w.heap.size t ∧ Below w.heap.size w w4) := tabNext HT.out b4; have HB : Hid (Below w1.heap.size w1 w4) := HB.out.trans (b4.mono HB.out.size); clear b4)
      | (go_at_call 9; refine Calls.mono (likeOps_any am ao cm cap xs _ (HM.out.1.below HB.out) (HOp.out.below HT.out.2)) ?_; rintro e w8 ⟨rfl, b8⟩; have HT : Hid (TabAt w8 w.heap.size t ∧ Below w.heap.size w w8) := tabNext HT.out b8; have HB : Hid (Below w1.heap.size w1 w8) := HB.out.trans (b8.mono HB.out.size); clear b8)
      | (go_at_call 4; refine Calls.mono (HW.out _ HT.out.2) ?_; rintro e w9 ⟨rfl, b9⟩; have HB9 : Hid (Below w.heap.size w w9) := (tabNext HT.out b9).2; clear b9 HW))
    go_ret
    exact ⟨rfl, HB9.out⟩
theorem law_ltells (ao : Option Addr) (cap : Nat) (xs : List O) (t : Tab) (w : World) (h : OpsAt w ao xs) (hl : xs.length ≤ 8796093021952) (hG : Bnds w) :
    Calls Tryz.prog 3 #[.slice ao xs.length cap, t.val] w fun e w' => e = .returned (.bool true) ∧ Below w.heap.size w w' := by
  by_cases h1 : 60 < xs.length
  · by_cases h2 : xs.length ≤ 1024
    · have HW : Hid (∀ W, Below w.heap.size w W → Calls Tryz.prog 4 #[] W fun e w' => e = .returned (.bool true) ∧ Below W.heap.size W w') := fun W hb => wakes_any W (hG.below hb hG.big)
      have i1 : (60 : Int) < (xs.length : Int) := by omega
      have i2 : (xs.length : Int) ≤ 1024 := by omega
      clear h hG h1 h2 hl
      unfold Tab.val
      go_enter Tryz.func3, Tryz.ntmps3
      go_wp2_with (first | (go_at_call 4; refine Calls.mono (HW.out _ (by go_grown)) ?_; rintro e w3 ⟨rfl, hb⟩; have HB3 : Hid (Below w.heap.size w w3) := Below.trans (by go_grown) (hb.mono (by simp)); clear hb HW))
      go_ret
      exact ⟨rfl, HB3.out⟩
    · have he : ¬ lisE t xs = 0 := fun e => h2 (lis_all e).2.1
      exact ltells_bad ao cap xs t w h hl hG (.inr ⟨by simp; omega, by simp; omega⟩) (lisE t xs) (fun am cm W q1 q2 q3 => cycles_no am cm xs t W q1 q2 q3 he) fun W hb => refCycles_no ao cap xs t W (h.below hb) he
  · by_cases he : lisE t xs = 0
    · cases hu : hvU t xs
      · exact ltells_bad ao cap xs t w h hl hG (.inl (by simp; omega)) 21 (fun am cm W q1 q2 q3 => cycles_unit am cm xs t W q1 q2 q3 he hu) fun W hb => refCycles_unit ao cap xs t W (h.below hb) (by omega) he hu
      · exact ltells_ok ao cap xs t w h hl hG (by omega) he hu
    · exact ltells_bad ao cap xs t w h hl hG (.inl (by simp; omega)) (lisE t xs) (fun am cm W q1 q2 q3 => cycles_no am cm xs t W q1 q2 q3 he) fun W hb => refCycles_no ao cap xs t W (h.below hb) he
end Go.Proofs.YtnckkhamkkaljaaGreatDoor.Ls
