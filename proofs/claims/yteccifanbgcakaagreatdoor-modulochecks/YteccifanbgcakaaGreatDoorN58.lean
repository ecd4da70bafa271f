/- ModuloChecks over the program: a plan is right just if it keeps all dependences from round to round, and all units. Conditions: the lists lie in memory, the variables as the program lays them. -/
import Derived.Test.YteccifanbgcakaaGreatDoorN57
import Derived.Test.YteccifanbgcakaaGreatDoorN40
import Derived.Test.YteccifanbgcakaaGreatDoorN54
import Derived.Test.YteccifanbgcakaaGreatDoorN41
namespace Go.Proofs.YteccifanbgcakaaGreatDoor.Mo
open Go.ChangeShapes Go.WideShapes Go.ChangeAt Go.RowKit
open _root_.Go.Proofs.YteccifanbgcakaaGreatDoor.Op _root_.Go.Proofs.YteccifanbgcakaaGreatDoor.So _root_.Go.Proofs.YteccifanbgcakaaGreatDoor.Dp _root_.Go.Proofs.YteccifanbgcakaaGreatDoor.Bn
open _root_.Go.Proofs.YteccifanbgcakaaGreatDoor.Ls (clN clN_at clN_lt Nl arC arC_all arC_yes arC_no areCycles_any)
open _root_.Go.Proofs.YteccifanbgcakaaGreatDoor.Rv (RAt Few frB tkF tk_few take_any evOk NwOut ring_ok tn addK)
open _root_.Go.Proofs.YteccifanbgcakaaGreatDoor.Tb (Tab TabAt Bnds)
set_option maxRecDepth 20000

set_option maxHeartbeats 2000000 in
theorem same_big (a1 a2 : Option Addr) (n c1 c2 : Nat) (w : World) (hn : (n : Int) ≤ 9000000000000000000) (h : ∀ k, k < n → ∃ b1 b2 f2 v, a1 = some ⟨b1, 0, none⟩ ∧ a2 = some ⟨b2, f2, none⟩ ∧ b1 < w.heap.size ∧ b2 < w.heap.size ∧ w.cell? ⟨b1, k, none⟩ = some (.int .i64 v) ∧ w.cell? ⟨b2, f2 + k, none⟩ = some (.int .i64 v)) :
    Calls Tryz.prog 12 #[.slice a1 n c1, .slice a2 n c2] w fun e w' => e = .returned (.bool true) ∧ Below w.heap.size w w' := by
  have HE : Hid (∀ k, k < n → ∃ b1 b2 f2 v, a1 = some ⟨b1, 0, none⟩ ∧ a2 = some ⟨b2, f2, none⟩ ∧ b1 < w.heap.size ∧ b2 < w.heap.size ∧ w.cell? ⟨b1, k, none⟩ = some (.int .i64 v) ∧ w.cell? ⟨b2, f2 + k, none⟩ = some (.int .i64 v)) := h
  clear h
  go_enter Tryz.func12, Tryz.ntmps12
  go_wp2_with fail
  go_loopw [5] (fun i wr => ∃ (k q : Nat), k ≤ n ∧ i = .int .i64 k ∧ wr = w.drewN q) (fun i _ => n - (intOf i).toNat)
  case atStart => exact ⟨0, 0, by omega, rfl, rfl⟩
  case round =>
    rename World => wy
    obtain ⟨k, q, hk, rfl, rfl⟩ := hrel
    by_cases hlt : k < n
    · have j0 : (0 : Int) ≤ (k : Int) := by omega
      have j1 : (k : Int) < (n : Int) := by omega
      obtain ⟨b1, b2, f2, v, rfl, rfl, l1, l2, f0, g0⟩ := HE.out k hlt
      clear HE
      have f0 : (w.drewN q).cell? _ = _ := f0
      have g0 : (w.drewN q).cell? _ = _ := g0
      have l1 : b1 < (w.drewN q).heap.size := l1
      have l2 : b2 < (w.drewN q).heap.size := l2
      generalize hWq : w.drewN q = W at *
      go_wp2_with fail
      go_quiet (fail)
      go_wp2_with fail
      go_roundw
      case rel => exact ⟨k + 1, q + nq, by omega, by go_num, by rw [← hWq]; simp⟩
      case measure => simp [intOf]; omega
    · have j1 : ¬ (k : Int) < (n : Int) := by omega
      go_wp2_with fail
      go_ret
      have B0 := Below.refl w.heap.size w
      exact ⟨rfl, B0.os, B0.tape, B0.output, B0.size, B0.block⟩
theorem ncells_one (n : Nat) (g : Nat → Int) : ∀ u ∈ ncells n g, u.oneCell' = true := fun u hu => by
  obtain ⟨k, -, rfl⟩ := List.mem_map.1 hu
  rfl
theorem row_split {w2 : World} {base n e s : Nat} {v2 : Value} {ns : List Value} (h : w2.ownsRow base e s v2 n ns) : ∃ a2 c2, v2 = .slice a2 n c2 ∧ w2.ownsRow base e s (.slice a2 n c2) n ns ∧ n ≤ c2 := by
  rcases h.2 with ⟨e, e0⟩ | ⟨q, cp, cur, e, -, -, h4, -⟩
  · exact ⟨none, 0, by rw [e, e0], by rw [e] at h; rw [e0] at h ⊢; exact h, by omega⟩
  · exact ⟨_, _, e, by rw [e] at h; exact h, h4⟩
/-- Where ModuloChecks has come to: its table, its plan, and the plan of its own. -/
structure Mn (w W : World) (t : Tab) (E : Int) (a : Option Addr) (n ccap : Nat) (S : Int) (a2 : Option Addr) (c2 : Nat) (g : Nat → Int) : Prop where
  x : Cx w W t E a n ccap S
  m : At W (w.heap.size + 2) #[.int .i64 E, .slice a2 n c2, .int .i64 S]
  c : ∀ k, k < n → ∃ b, a2 = some ⟨b, 0, none⟩ ∧ b < W.heap.size ∧ W.cell? ⟨b, k, none⟩ = some (.int .i64 (g k))
theorem Mn.next {w W W' : World} {t : Tab} {E : Int} {a : Option Addr} {n ccap : Nat} {S : Int} {a2 : Option Addr} {c2 : Nat} {g : Nat → Int} (h : Mn w W t E a n ccap S a2 c2 g) (b : Below W.heap.size W W') : Mn w W' t E a n ccap S a2 c2 g := ⟨h.x.next b, h.m.below b h.m.lt, fun k hk => by
  obtain ⟨q, e, h1, h2⟩ := h.c k hk
  exact ⟨q, e, Nat.lt_of_lt_of_le h1 b.size, by rw [(bcell b).1 _ _ h1]; exact h2⟩⟩
theorem Mn.nl {w W : World} {t : Tab} {E : Int} {a : Option Addr} {n ccap : Nat} {S : Int} {a2 : Option Addr} {c2 : Nat} {g : Nat → Int} (h : Mn w W t E a n ccap S a2 c2 g) (hr : ∀ k, k < n → -9223372036854775808 ≤ g k ∧ g k ≤ 9223372036854775807) : Nl W a2 n g := ⟨fun h0 => by
  obtain ⟨b, e, h1, -⟩ := h.c 0 h0
  refine ⟨b, 0, e, h1, fun k hk => ?_⟩
  obtain ⟨b', e', -, h3⟩ := h.c k hk
  rw [e] at e'
  injection e' with e'
  injection e' with e' _ _
  rw [Nat.zero_add, e']; exact h3, hr⟩
theorem mn_base (w : World) (t : Tab) (E S : Int) (a : Option Addr) (n ccap : Nat) : Cx w ((((w.alloc (.cells t.cells 25)).alloc (.cells #[.int .i64 E, .slice a n ccap, .int .i64 S] 28)).alloc (.cells #[.int .i64 E, .slice a n ccap, .int .i64 S] 28)).alloc (.cells #[] 3)) t E a n ccap S ∧ At ((((w.alloc (.cells t.cells 25)).alloc (.cells #[.int .i64 E, .slice a n ccap, .int .i64 S] 28)).alloc (.cells #[.int .i64 E, .slice a n ccap, .int .i64 S] 28)).alloc (.cells #[] 3)) (w.heap.size + 2) #[.int .i64 E, .slice a n ccap, .int .i64 S] := by
  have x0 := cx_new w t E S a n ccap
  have a3 := At.new ((w.alloc (.cells t.cells 25)).alloc (.cells #[.int .i64 E, .slice a n ccap, .int .i64 S] 28)) #[.int .i64 E, .slice a n ccap, .int .i64 S] 28
  rw [show ((w.alloc (.cells t.cells 25)).alloc (.cells #[.int .i64 E, .slice a n ccap, .int .i64 S] 28)).heap.size = w.heap.size + 2 by simp] at a3
  exact ⟨(x0.next ((Below.refl _ _).alloc (Nat.le_refl _) _)).next ((Below.refl _ _).alloc (Nat.le_refl _) _), a3.alloc _⟩
theorem mn_none (w : World) (t : Tab) (E S : Int) (g : Nat → Int) : Mn w ((((w.alloc (.cells t.cells 25)).alloc (.cells #[.int .i64 E, .slice none 0 0, .int .i64 S] 28)).alloc (.cells #[.int .i64 E, .slice (some ⟨w.heap.size + 1 + 1 + 1, 0, none⟩) 0 0, .int .i64 S] 28)).alloc (.cells #[] 3)) t E none 0 0 S (some ⟨w.heap.size + 1 + 1 + 1, 0, none⟩) 0 g := by
  have x0 := cx_new w t E S none 0 0
  have a3 := At.new ((w.alloc (.cells t.cells 25)).alloc (.cells #[.int .i64 E, .slice none 0 0, .int .i64 S] 28)) #[.int .i64 E, .slice (some ⟨w.heap.size + 1 + 1 + 1, 0, none⟩) 0 0, .int .i64 S] 28
  rw [show ((w.alloc (.cells t.cells 25)).alloc (.cells #[.int .i64 E, .slice none 0 0, .int .i64 S] 28)).heap.size = w.heap.size + 2 by simp] at a3
  exact ⟨(x0.next ((Below.refl _ _).alloc (Nat.le_refl _) _)).next ((Below.refl _ _).alloc (Nat.le_refl _) _), a3.alloc _, fun k hk => by omega⟩
theorem mn_at {w w2 : World} {t : Tab} {E : Int} {a : Option Addr} {n ccap : Nat} {S : Int} (hgrow : ((((w.alloc (.cells t.cells 25)).alloc (.cells #[.int .i64 E, .slice a n ccap, .int .i64 S] 28)).alloc (.cells #[.int .i64 E, .slice a n ccap, .int .i64 S] 28)).alloc (.cells #[] 3)).grownBy w2 (some (w.heap.size + 3))) : At w2 (w.heap.size + 2) #[.int .i64 E, .slice a n ccap, .int .i64 S] := by
  have hz : ((((w.alloc (.cells t.cells 25)).alloc (.cells #[.int .i64 E, .slice a n ccap, .int .i64 S] 28)).alloc (.cells #[.int .i64 E, .slice a n ccap, .int .i64 S] 28)).alloc (.cells #[] 3)).heap.size = w.heap.size + 4 := by simp
  exact (mn_base w t E S a n ccap).2.below ((grown_fr hgrow).below (B := w.heap.size + 3) (by omega) fun k hk e => by
    have e : w.heap.size + 3 = k := by simpa using e
    omega) (by omega)
theorem mn_of {w w2 : World} {t : Tab} {E : Int} {a : Option Addr} {n ccap : Nat} {S : Int} {a2 : Option Addr} {c2 : Nat} {g : Nat → Int} (hgrow : ((((w.alloc (.cells t.cells 25)).alloc (.cells #[.int .i64 E, .slice a n ccap, .int .i64 S] 28)).alloc (.cells #[.int .i64 E, .slice a n ccap, .int .i64 S] 28)).alloc (.cells #[] 3)).grownBy w2 (some (w.heap.size + 3))) (hrow : w2.ownsRow (w.heap.size + 3) 3 1 (.slice a2 n c2) n (ncells n g)) : Mn w (w2.setCell ⟨w.heap.size + 2, 1, none⟩ (.slice a2 n c2)) t E a n ccap S a2 c2 g := by
  obtain ⟨x1, m1⟩ := mn_base w t E S a n ccap
  have hz : ((((w.alloc (.cells t.cells 25)).alloc (.cells #[.int .i64 E, .slice a n ccap, .int .i64 S] 28)).alloc (.cells #[.int .i64 E, .slice a n ccap, .int .i64 S] 28)).alloc (.cells #[] 3)).heap.size = w.heap.size + 4 := by simp
  have hb : Below (w.heap.size + 3) ((((w.alloc (.cells t.cells 25)).alloc (.cells #[.int .i64 E, .slice a n ccap, .int .i64 S] 28)).alloc (.cells #[.int .i64 E, .slice a n ccap, .int .i64 S] 28)).alloc (.cells #[] 3)) w2 := (grown_fr hgrow).below (by omega) fun k hk e => by
    have e : w.heap.size + 3 = k := by simpa using e
    omega
  have x2 : Cx w w2 t E a n ccap S := ⟨x1.t.below hb (by omega), x1.p.below hb (by omega), x1.up.trans (hb.mono (by omega))⟩
  have m2 := m1.below hb (by omega)
  have gS : Fr (One (w.heap.size + 2)) w2 (w2.setCell ⟨w.heap.size + 2, 1, none⟩ (.slice a2 n c2)) := (Fr.refl (One (w.heap.size + 2)) w2).setCell (.inr rfl) _ _
  have hS : Below (w.heap.size + 2) w2 (w2.setCell ⟨w.heap.size + 2, 1, none⟩ (.slice a2 n c2)) := gS.below (by have := m2.lt; omega) fun k hk e => by have e : k = w.heap.size + 2 := e; omega
  refine ⟨⟨x2.t.below hS (by omega), x2.p.below hS (by omega), x2.up.trans (hS.mono (by omega))⟩, Ls.atSet m2 (j := 1) (show 1 < 3 by omega) _, fun k hk => ?_⟩
  rcases hrow.2 with ⟨-, e0⟩ | ⟨b, cap2, cur, e, hb3, -⟩
  · omega
  · injection e with e1 _ _
    subst e1
    have h1 := (hrow.lt b rfl).2
    refine ⟨b, rfl, Nat.lt_of_lt_of_le h1 gS.size, ?_⟩
    rw [gS.cell h1 (fun e => by have e : b = w.heap.size + 2 := e; omega), hrow.cellAt k (by omega)]
    simp [ncells, hk]
set_option maxHeartbeats 16000000 in
theorem law_checks (a ao : Option Addr) (n ccap cap : Nat) (xs : List O) (t : Tab) (g : Nat → Int) (E S : Int) (w : World) (hN : Nc w a ccap n g) (h : OpsAt w ao xs) (hG : Bnds w) :
    Calls Tryz.prog 3 #[.slice ao xs.length cap, t.val, .agg #[.int .i64 E, .slice a n ccap, .int .i64 S]] w fun e w' => e = .returned (.bool true) ∧ Below w.heap.size w w' := by
  have hg := hN.nl
  have hsm := hN.sm
  have HW : Hid (∀ W, Below w.heap.size w W → Calls Tryz.prog 8 #[] W fun e w' => e = .returned (.bool true) ∧ Below W.heap.size W w') := fun W hb => wakes_any W (hG.below hb hG.big)
  have hlen := h.len
  have hli : (xs.length : Int) ≤ 8796093022208 := by omega
  have hni : (n : Int) ≤ 17592186044400 := by omega
  by_cases hl : 70 < xs.length
  · have hl' : (70 : Int) < (xs.length : Int) := by omega
    have HT0 : Hid (Cx w ((w.alloc (.cells #[.int .i64 (t.u 0), .int .i64 (t.u 1), .int .i64 (t.u 2), .int .i64 (t.u 3), .int .i64 (t.l 0), .int .i64 (t.l 1), .int .i64 (t.l 2), .int .i64 (t.l 3), .int .i64 (t.b 0), .int .i64 (t.b 1), .int .i64 (t.b 2), .int .i64 (t.b 3), .int .i64 t.d] 25)).alloc (.cells #[.int .i64 E, .slice a n ccap, .int .i64 S] 28)) t E a n ccap S) := cx_new w t E S a n ccap
    clear h hG hg hN
    unfold Tab.val
    go_enter Tryz.func3, Tryz.ntmps3
    go_wp2_with (first
      | (go_at_call 8; refine Calls.mono (HW.out _ HT0.out.up) ?_; rintro e w9 ⟨rfl, b9⟩; have HB9 : Hid (Below w.heap.size w w9) := (HT0.out.next b9).up; clear b9 HW HT0))
    go_ret
    exact ⟨rfl, HB9.out⟩
  · have hl' : ¬ (70 : Int) < (xs.length : Int) := by omega
    have HCk : Hid (∀ W a2 c2 oa oc, Mn w W t E a n ccap S a2 c2 g → OpsAt W oa xs → xs.length ≤ oc → Calls Tryz.prog 10 #[.slice oa xs.length oc, .agg #[.int .i64 (t.u 0), .int .i64 (t.u 1), .int .i64 (t.u 2), .int .i64 (t.u 3), .int .i64 (t.l 0), .int .i64 (t.l 1), .int .i64 (t.l 2), .int .i64 (t.l 3), .int .i64 (t.b 0), .int .i64 (t.b 1), .int .i64 (t.b 2), .int .i64 (t.b 3), .int .i64 t.d], .agg #[.int .i64 E, .slice a2 n c2, .int .i64 S]] W fun e w' => e = .returned (.bool (mcB t xs n g E S)) ∧ Below W.heap.size W w') := fun W a2 c2 oa oc hm ho hc => check_any a2 oa n c2 oc xs t g E S W (hm.nl hg.rg) ho hc (hG.below hm.x.up hG.big) (by omega)
    have HRc : Hid (∀ W, Below w.heap.size w W → Calls Tryz.prog 11 #[.slice ao xs.length cap, .agg #[.int .i64 (t.u 0), .int .i64 (t.u 1), .int .i64 (t.u 2), .int .i64 (t.u 3), .int .i64 (t.l 0), .int .i64 (t.l 1), .int .i64 (t.l 2), .int .i64 (t.l 3), .int .i64 (t.b 0), .int .i64 (t.b 1), .int .i64 (t.b 2), .int .i64 (t.b 3), .int .i64 t.d], .agg #[.int .i64 E, .slice a n ccap, .int .i64 S]] W fun e w' => e = .returned (.bool (mcB t xs n g E S)) ∧ Below W.heap.size W w') := fun W hb => refCheck_any a ao n ccap cap xs t g E S W (hg.up hb) (h.below hb) (by omega)
    have HSm : Hid (∀ W a2 c2, Mn w W t E a n ccap S a2 c2 g → Calls Tryz.prog 12 #[.slice a2 n c2, .slice a n ccap] W fun e w' => e = .returned (.bool true) ∧ Below W.heap.size W w') := fun W a2 c2 hm => same_big a2 a n c2 ccap W (by omega) fun k hk => by
      obtain ⟨b, e, h1, h2⟩ := hm.c k hk
      obtain ⟨b2, f2, e2, h3, h4⟩ := (hg.up hm.x.up).is (by omega)
      exact ⟨b, b2, f2, g k, e, e2, h1, h3, h2, h4 k hk⟩
    have HLk : Hid (∀ W oa oc, Below w.heap.size w W → OpsAt W oa xs → Calls Tryz.prog 13 #[.slice oa xs.length oc, .slice ao xs.length cap] W fun e w' => e = .returned (.bool true) ∧ Below W.heap.size W w') := fun W oa oc hb ho => likeOps_any oa ao oc cap xs W ho (h.below hb)
    have HCo : Hid (∀ W, Below w.heap.size w W → Calls Tryz.prog 9 #[.slice ao xs.length cap] W fun e w' => ∃ oa oc, e = .returned (.slice oa xs.length oc) ∧ OpsAt w' oa xs ∧ xs.length ≤ oc ∧ Below W.heap.size W w') := fun W hb => by
      refine (copiedOps_any ao cap xs W (h.below hb) (by omega)).mono ?_
      rintro e w' ⟨oa, oc, rfl, hr, hb2⟩
      obtain ⟨a', c', e, -, hc⟩ := row_split hr
      injection e with e1 _ e3
      subst e1 e3
      exact ⟨oa, oc, rfl, opsAt_row hr h.ok (by omega), hc, hb2⟩
    obtain ⟨i0, hi, hi2⟩ := Option.map_eq_some_iff.1 Dp.info3
    simp only [Prod.mk.injEq] at hi2
    obtain ⟨hz0, hz1, hz2⟩ := hi2
    have HI : Hid (Tryz.prog.info? 3 = some i0 ∧ i0.zero = some (.int .i64 0) ∧ i0.size = 1 ∧ i0.bytes = 8) := ⟨hi, hz0, hz1, hz2⟩
    clear hi hz0 hz1 hz2
    generalize mcB t xs n g E S = bc at *
    rcases hN.al with ⟨rfl, rfl, rfl⟩ | ⟨x, rfl, hnews, hx⟩
    · have HM0 : Hid (Mn w ((((w.alloc (.cells #[.int .i64 (t.u 0), .int .i64 (t.u 1), .int .i64 (t.u 2), .int .i64 (t.u 3), .int .i64 (t.l 0), .int .i64 (t.l 1), .int .i64 (t.l 2), .int .i64 (t.l 3), .int .i64 (t.b 0), .int .i64 (t.b 1), .int .i64 (t.b 2), .int .i64 (t.b 3), .int .i64 t.d] 25)).alloc (.cells #[.int .i64 E, .slice none 0 0, .int .i64 S] 28)).alloc (.cells #[.int .i64 E, .slice (some ⟨w.heap.size + 1 + 1 + 1, 0, none⟩) 0 0, .int .i64 S] 28)).alloc (.cells #[] 3)) t E none 0 0 S (some ⟨w.heap.size + 1 + 1 + 1, 0, none⟩) 0 g) := mn_none w t E S g
      clear h hG hg hN
      unfold Tab.val
      go_enter Tryz.func3, Tryz.ntmps3
      go_upto_region 5 with fail
      generalize ((((w.alloc (.cells #[.int .i64 (t.u 0), .int .i64 (t.u 1), .int .i64 (t.u 2), .int .i64 (t.u 3), .int .i64 (t.l 0), .int .i64 (t.l 1), .int .i64 (t.l 2), .int .i64 (t.l 3), .int .i64 (t.b 0), .int .i64 (t.b 1), .int .i64 (t.b 2), .int .i64 (t.b 3), .int .i64 t.d] 25)).alloc (.cells #[.int .i64 E, .slice none 0 0, .int .i64 S] 28)).alloc (.cells #[.int .i64 E, .slice (some ⟨w.heap.size + 1 + 1 + 1, 0, none⟩) 0 0, .int .i64 S] 28)).alloc (.cells #[] 3)) = X at *
      have HQ0 : Hid (Mn w X t E none 0 0 S (some ⟨w.heap.size + 1 + 1 + 1, 0, none⟩) 0 g) := HM0.out
      clear HM0 HI
      go_upto_region 6 with (first
        | (go_at_call 9; refine Calls.mono (HCo.out _ HQ0.out.x.up) ?_; rintro e WM ⟨oa, oc, rfl, o5, k5, b5⟩; have HQ : Hid (Mn w WM t E none 0 0 S (some ⟨w.heap.size + 1 + 1 + 1, 0, none⟩) 0 g ∧ OpsAt WM oa xs) := ⟨HQ0.out.next b5, o5⟩; have hoc : xs.length ≤ oc := k5; clear b5 o5 k5 HCo HQ0))
      have HCk : Hid (∀ W, Mn w W t E none 0 0 S (some ⟨w.heap.size + 1 + 1 + 1, 0, none⟩) 0 g → OpsAt W oa xs → Calls Tryz.prog 10 #[.slice oa xs.length oc, .agg #[.int .i64 (t.u 0), .int .i64 (t.u 1), .int .i64 (t.u 2), .int .i64 (t.u 3), .int .i64 (t.l 0), .int .i64 (t.l 1), .int .i64 (t.l 2), .int .i64 (t.l 3), .int .i64 (t.b 0), .int .i64 (t.b 1), .int .i64 (t.b 2), .int .i64 (t.b 3), .int .i64 t.d], .agg #[.int .i64 E, .slice (some ⟨w.heap.size + 1 + 1 + 1, 0, none⟩) 0 0, .int .i64 S]] W fun e w' => e = .returned (.bool bc) ∧ Below W.heap.size W w') := fun W hm ho => HCk.out W _ _ oa oc hm ho hoc
      have HSm : Hid (∀ W, Mn w W t E none 0 0 S (some ⟨w.heap.size + 1 + 1 + 1, 0, none⟩) 0 g → Calls Tryz.prog 12 #[.slice (some ⟨w.heap.size + 1 + 1 + 1, 0, none⟩) 0 0, .slice none 0 0] W fun e w' => e = .returned (.bool true) ∧ Below W.heap.size W w') := fun W hm => HSm.out W _ _ hm
      have HLk : Hid (∀ W, Below w.heap.size w W → OpsAt W oa xs → Calls Tryz.prog 13 #[.slice oa xs.length oc, .slice ao xs.length cap] W fun e w' => e = .returned (.bool true) ∧ Below W.heap.size W w') := fun W hb ho => HLk.out W oa oc hb ho
      have HQd : Hid (Mn w WM.drew t E none 0 0 S (some ⟨w.heap.size + 1 + 1 + 1, 0, none⟩) 0 g ∧ OpsAt WM.drew oa xs) := ⟨HQ.out.1.next (drew_up _), HQ.out.2.below (drew_up _)⟩
      refine wp_region_held_drew (S := fun Z => Cx w Z t E none 0 0 S ∧ At Z (w.heap.size + 2) #[.int .i64 E, .slice (some ⟨w.heap.size + 1 + 1 + 1, 0, none⟩) 0 0, .int .i64 S]) (by kernel_rfl) ⟨HQd.out.1.x, HQd.out.1.m⟩ (fun hHeld => ?_)
      refine wpAnyH_take (i := 0) (v := .slice oa xs.length oc) rfl (by kernel_rfl) (by kernel_rfl) (by kernel_rfl) (fun _ _ _ h => h) (Or.inl ⟨by rfl, fun w' hSw => by (go_simp)⟩) hHeld ?_
      simp only [Act.put, List.setIfInBounds_toArray, List.set_cons_zero, List.set_cons_succ, List.getElem_cons_zero, List.getElem_toArray]
      refine wpAnyH_take (i := 1) (v := .agg #[.int .i64 (t.u 0), .int .i64 (t.u 1), .int .i64 (t.u 2), .int .i64 (t.u 3), .int .i64 (t.l 0), .int .i64 (t.l 1), .int .i64 (t.l 2), .int .i64 (t.l 3), .int .i64 (t.b 0), .int .i64 (t.b 1), .int .i64 (t.b 2), .int .i64 (t.b 3), .int .i64 t.d]) rfl (by kernel_rfl) (by kernel_rfl) (by kernel_rfl) (fun _ _ _ h => h) (Or.inl ⟨by rfl, fun w' hSw => by (have k2 := hSw.1.t; have qu0 := k2.cu 0 (by decide); have qu1 := k2.cu 1 (by decide); have qu2 := k2.cu 2 (by decide); have qu3 := k2.cu 3 (by decide); have ql0 := k2.cl 0 (by decide); have ql1 := k2.cl 1 (by decide); have ql2 := k2.cl 2 (by decide); have ql3 := k2.cl 3 (by decide); have qb0 := k2.cb 0 (by decide); have qb1 := k2.cb 1 (by decide); have qb2 := k2.cb 2 (by decide); have qb3 := k2.cb 3 (by decide); have qd := k2.cd; have qz := k2.lt; clear k2; go_simp)⟩) hHeld ?_
      simp only [Act.put, List.setIfInBounds_toArray, List.set_cons_zero, List.set_cons_succ, List.getElem_cons_zero, List.getElem_cons_succ, List.getElem_toArray]
      refine wpAnyH_take (i := 2) (v := .agg #[.int .i64 E, .slice (some ⟨w.heap.size + 1 + 1 + 1, 0, none⟩) 0 0, .int .i64 S]) rfl (by kernel_rfl) (by kernel_rfl) (by kernel_rfl) (fun _ _ _ h => h) (Or.inl ⟨by rfl, fun w' hSw => by (have y0 := hSw.2.c 0 _ rfl; have y1 := hSw.2.c 1 _ rfl; have y2 := hSw.2.c 2 _ rfl; have yl := hSw.2.lt; go_simp)⟩) hHeld ?_
      simp only [Act.put, List.setIfInBounds_toArray, List.set_cons_zero, List.set_cons_succ, List.getElem_cons_zero, List.getElem_cons_succ, List.getElem_toArray]
      refine wpAnyH_take (i := 4) (v := .slice ao xs.length cap) rfl (by kernel_rfl) (by kernel_rfl) (by kernel_rfl) (fun _ _ _ h => h) (Or.inl ⟨by rfl, fun w' hSw => by (go_simp)⟩) hHeld ?_
      simp only [Act.put, List.setIfInBounds_toArray, List.set_cons_zero, List.set_cons_succ, List.getElem_cons_zero, List.getElem_cons_succ, List.getElem_toArray]
      refine wpAnyH_take (i := 5) (v := .agg #[.int .i64 (t.u 0), .int .i64 (t.u 1), .int .i64 (t.u 2), .int .i64 (t.u 3), .int .i64 (t.l 0), .int .i64 (t.l 1), .int .i64 (t.l 2), .int .i64 (t.l 3), .int .i64 (t.b 0), .int .i64 (t.b 1), .int .i64 (t.b 2), .int .i64 (t.b 3), .int .i64 t.d]) rfl (by kernel_rfl) (by kernel_rfl) (by kernel_rfl) (fun _ _ _ h => h) (Or.inl ⟨by rfl, fun w' hSw => by (have k2 := hSw.1.t; have qu0 := k2.cu 0 (by decide); have qu1 := k2.cu 1 (by decide); have qu2 := k2.cu 2 (by decide); have qu3 := k2.cu 3 (by decide); have ql0 := k2.cl 0 (by decide); have ql1 := k2.cl 1 (by decide); have ql2 := k2.cl 2 (by decide); have ql3 := k2.cl 3 (by decide); have qb0 := k2.cb 0 (by decide); have qb1 := k2.cb 1 (by decide); have qb2 := k2.cb 2 (by decide); have qb3 := k2.cb 3 (by decide); have qd := k2.cd; have qz := k2.lt; clear k2; go_simp)⟩) hHeld ?_
      simp only [Act.put, List.setIfInBounds_toArray, List.set_cons_zero, List.set_cons_succ, List.getElem_cons_zero, List.getElem_cons_succ, List.getElem_toArray]
      refine wpAnyH_take (i := 6) (v := .agg #[.int .i64 E, .slice none 0 0, .int .i64 S]) rfl (by kernel_rfl) (by kernel_rfl) (by kernel_rfl) (fun _ _ _ h => h) (Or.inl ⟨by rfl, fun w' hSw => by (have y0 := hSw.1.p.c 0 _ rfl; have y1 := hSw.1.p.c 1 _ rfl; have y2 := hSw.1.p.c 2 _ rfl; have yl := hSw.1.p.lt; go_simp)⟩) hHeld ?_
      simp only [Act.put, List.setIfInBounds_toArray, List.set_cons_zero, List.set_cons_succ, List.getElem_cons_zero, List.getElem_cons_succ, List.getElem_toArray]
      refine wpAnyH_ready (rs := [3]) (by kernel_rfl) (by simp) ?_
      refine AllReadyH.cons rfl (fun K hK => ?_) AllReadyH.nil
      go_simp
      refine Calls.mono (HCk.out _ HQd.out.1 HQd.out.2) ?_
      rintro e w3 ⟨rfl, b3⟩
      have HQ3 : Hid (Mn w w3 t E none 0 0 S (some ⟨w.heap.size + 1 + 1 + 1, 0, none⟩) 0 g ∧ OpsAt w3 oa xs) := ⟨HQd.out.1.next b3, HQd.out.2.below b3⟩; clear b3 HCk HQd
      refine hK.out _ _ ⟨HQ3.out.1.x, HQ3.out.1.m⟩ (fun hHeld => ?_)
      clear hK K
      refine wpAnyH_ready (rs := [7]) (by kernel_rfl) (by simp) ?_
      refine AllReadyH.cons rfl (fun K hK => ?_) AllReadyH.nil
      go_simp
      refine Calls.mono (HRc.out _ HQ3.out.1.x.up) ?_
      rintro e w4 ⟨rfl, b4⟩
      have HQ4 : Hid (Mn w w4 t E none 0 0 S (some ⟨w.heap.size + 1 + 1 + 1, 0, none⟩) 0 g ∧ OpsAt w4 oa xs) := ⟨HQ3.out.1.next b4, HQ3.out.2.below b4⟩; clear b4 HRc HQ3
      refine hK.out _ _ ⟨HQ4.out.1.x, HQ4.out.1.m⟩ (fun hHeld => ?_)
      clear hK K
      refine wpAnyH_take (i := 8) (v := .bool true) rfl (by kernel_rfl) (by kernel_rfl) (by kernel_rfl) (fun _ _ _ h => h) (Or.inl ⟨by rfl, fun w' hSw => by (go_simp)⟩) hHeld ?_
      simp only [Act.put, List.setIfInBounds_toArray, List.set_cons_zero, List.set_cons_succ, List.getElem_cons_zero, List.getElem_cons_succ, List.getElem_toArray]
      refine wpAnyH_take (i := 9) (v := .bool true) rfl (by kernel_rfl) (by kernel_rfl) (by kernel_rfl) (fun _ _ _ h => h) (Or.inl ⟨by rfl, fun w' hSw => by (go_simp)⟩) hHeld ?_
      simp only [Act.put, List.setIfInBounds_toArray, List.set_cons_zero, List.set_cons_succ, List.getElem_cons_zero, List.getElem_cons_succ, List.getElem_toArray]
      refine wpAnyH_done (by kernel_rfl) ?_ _
      clear hHeld
      have m1 := HQ4.out.1.m.c 1 _ rfl
      have mz := HQ4.out.1.m.lt
      have p1 := HQ4.out.1.x.p.c 1 _ rfl
      have pz := HQ4.out.1.x.p.lt
      go_wp2_with (first
        | (go_at_call 12; refine Calls.mono (HSm.out _ HQ4.out.1) ?_; rintro e w5 ⟨rfl, b5⟩; have HQ5 : Hid (Mn w w5 t E none 0 0 S (some ⟨w.heap.size + 1 + 1 + 1, 0, none⟩) 0 g ∧ OpsAt w5 oa xs) := ⟨HQ4.out.1.next b5, HQ4.out.2.below b5⟩; clear b5 HSm HQ4 m1 mz p1 pz)
        | (go_at_call 13; refine Calls.mono (HLk.out _ HQ5.out.1.x.up HQ5.out.2) ?_; rintro e w6 ⟨rfl, b6⟩; have HQ6 : Hid (Cx w w6 t E none 0 0 S) := (HQ5.out.1.next b6).x; clear b6 HLk HQ5)
        | (go_at_call 8; refine Calls.mono (HW.out _ HQ6.out.up) ?_; rintro e w7 ⟨rfl, b7⟩; have HB7 : Hid (Below w.heap.size w w7) := (HQ6.out.next b7).up; clear b7 HW HQ6))
      go_ret
      exact ⟨rfl, HB7.out⟩
    · have HOwn : Hid (((((w.alloc (.cells #[.int .i64 (t.u 0), .int .i64 (t.u 1), .int .i64 (t.u 2), .int .i64 (t.u 3), .int .i64 (t.l 0), .int .i64 (t.l 1), .int .i64 (t.l 2), .int .i64 (t.l 3), .int .i64 (t.b 0), .int .i64 (t.b 1), .int .i64 (t.b 2), .int .i64 (t.b 3), .int .i64 t.d] 25)).alloc (.cells #[.int .i64 E, .slice (some x) n ccap, .int .i64 S] 28)).alloc (.cells #[.int .i64 E, .slice (some x) n ccap, .int .i64 S] 28)).alloc (.cells #[] 3)).ownsRow (w.heap.size + 3) 3 1 (.slice (some ⟨w.heap.size + 3, 0, none⟩) 0 0) 0 []) := ⟨rfl, .inr ⟨w.heap.size + 3, 0, #[], rfl, Nat.le_refl _, (by
        have h9 := @Array.getElem?_push_size _ (((w.heap.push (.cells t.cells 25)).push (.cells #[.int .i64 E, .slice (some x) n ccap, .int .i64 S] 28)).push (.cells #[.int .i64 E, .slice (some x) n ccap, .int .i64 S] 28)) (.cells #[] 3)
        simp only [Array.size_push] at h9
        exact h9), by omega, by unfold maxLen; omega, rfl, rfl⟩⟩
      have HNew : Hid (∀ j u, (ncells n g)[j]? = some u → ((((w.alloc (.cells #[.int .i64 (t.u 0), .int .i64 (t.u 1), .int .i64 (t.u 2), .int .i64 (t.u 3), .int .i64 (t.l 0), .int .i64 (t.l 1), .int .i64 (t.l 2), .int .i64 (t.l 3), .int .i64 (t.b 0), .int .i64 (t.b 1), .int .i64 (t.b 2), .int .i64 (t.b 3), .int .i64 t.d] 25)).alloc (.cells #[.int .i64 E, .slice (some x) n ccap, .int .i64 S] 28)).alloc (.cells #[.int .i64 E, .slice (some x) n ccap, .int .i64 S] 28)).alloc (.cells #[] 3)).cell? (x.add j) = some u) := fun j u hu => by
        have h1 := hnews j u hu
        have hb : Below w.heap.size w ((((w.alloc (.cells #[.int .i64 (t.u 0), .int .i64 (t.u 1), .int .i64 (t.u 2), .int .i64 (t.u 3), .int .i64 (t.l 0), .int .i64 (t.l 1), .int .i64 (t.l 2), .int .i64 (t.l 3), .int .i64 (t.b 0), .int .i64 (t.b 1), .int .i64 (t.b 2), .int .i64 (t.b 3), .int .i64 t.d] 25)).alloc (.cells #[.int .i64 E, .slice (some x) n ccap, .int .i64 S] 28)).alloc (.cells #[.int .i64 E, .slice (some x) n ccap, .int .i64 S] 28)).alloc (.cells #[] 3)) := by go_grown
        have hn0 : ¬ n = 0 := fun e => by subst e; simp [ncells] at hu
        rcases hx with hx | hx
        · exact absurd hx hn0
        · rw [hb.cell (p := x.add j) (by unfold Addr.add; split <;> simpa using hx)]; exact h1
      clear h hG hg hN hnews hx
      unfold Tab.val
      go_enter Tryz.func3, Tryz.ntmps3
      go_upto_region 5 with (first
        | (at_builtin; refine wpList_append_own _ rfl _ _ 26 rfl (w.heap.size + 3) 3 i0 (.int .i64 0) 1 8 Tryz.underlying26 HI.out.1 HI.out.2.1 HI.out.2.2.1 HI.out.2.2.2 rfl (by decide) _ 0 [] rfl HOwn.out x n ccap (ncells n g) rfl (by simp [ncells]) HNew.out (ncells_one n g) (by unfold maxLen; omega) (by omega) (by simp) ?_; intro v2 w2 hown2 hgrow2 hnil; have hrow0 : w2.ownsRow (w.heap.size + 3) 3 1 v2 n (ncells n g) := (by have := hown2; simp only [Nat.zero_add, List.nil_append] at this; exact this); obtain ⟨a2, c2, hv2, hrow, hcc⟩ := row_split hrow0; subst hv2; have HM2 : Hid (Mn w (w2.setCell ⟨w.heap.size + 2, 1, none⟩ (.slice a2 n c2)) t E (some x) n ccap S a2 c2 g) := mn_of hgrow2 hrow; have hA := mn_at (t := t) (E := E) (S := S) (a := some x) (n := n) (ccap := ccap) hgrow2; have m1 := hA.c 1 _ rfl; have f1 := hA.f 1; have l1 := hA.lt; clear hA; clear hown2 hgrow2 hnil hrow0 hrow hcc))
      clear m1 f1 l1 HOwn HNew
      generalize w2.setCell ⟨w.heap.size + 2, 1, none⟩ (.slice a2 n c2) = X at *
      have HQ0 : Hid (Mn w X t E (some x) n ccap S a2 c2 g) := HM2.out
      clear HM2 HI
      go_upto_region 6 with (first
        | (go_at_call 9; refine Calls.mono (HCo.out _ HQ0.out.x.up) ?_; rintro e WM ⟨oa, oc, rfl, o5, k5, b5⟩; have HQ : Hid (Mn w WM t E (some x) n ccap S a2 c2 g ∧ OpsAt WM oa xs) := ⟨HQ0.out.next b5, o5⟩; have hoc : xs.length ≤ oc := k5; clear b5 o5 k5 HCo HQ0))
      have HCk : Hid (∀ W, Mn w W t E (some x) n ccap S a2 c2 g → OpsAt W oa xs → Calls Tryz.prog 10 #[.slice oa xs.length oc, .agg #[.int .i64 (t.u 0), .int .i64 (t.u 1), .int .i64 (t.u 2), .int .i64 (t.u 3), .int .i64 (t.l 0), .int .i64 (t.l 1), .int .i64 (t.l 2), .int .i64 (t.l 3), .int .i64 (t.b 0), .int .i64 (t.b 1), .int .i64 (t.b 2), .int .i64 (t.b 3), .int .i64 t.d], .agg #[.int .i64 E, .slice a2 n c2, .int .i64 S]] W fun e w' => e = .returned (.bool bc) ∧ Below W.heap.size W w') := fun W hm ho => HCk.out W _ _ oa oc hm ho hoc
      have HSm : Hid (∀ W, Mn w W t E (some x) n ccap S a2 c2 g → Calls Tryz.prog 12 #[.slice a2 n c2, .slice (some x) n ccap] W fun e w' => e = .returned (.bool true) ∧ Below W.heap.size W w') := fun W hm => HSm.out W _ _ hm
      have HLk : Hid (∀ W, Below w.heap.size w W → OpsAt W oa xs → Calls Tryz.prog 13 #[.slice oa xs.length oc, .slice ao xs.length cap] W fun e w' => e = .returned (.bool true) ∧ Below W.heap.size W w') := fun W hb ho => HLk.out W oa oc hb ho
      have HQd : Hid (Mn w WM.drew t E (some x) n ccap S a2 c2 g ∧ OpsAt WM.drew oa xs) := ⟨HQ.out.1.next (drew_up _), HQ.out.2.below (drew_up _)⟩
      refine wp_region_held_drew (S := fun Z => Cx w Z t E (some x) n ccap S ∧ At Z (w.heap.size + 2) #[.int .i64 E, .slice a2 n c2, .int .i64 S]) (by kernel_rfl) ⟨HQd.out.1.x, HQd.out.1.m⟩ (fun hHeld => ?_)
      refine wpAnyH_take (i := 0) (v := .slice oa xs.length oc) rfl (by kernel_rfl) (by kernel_rfl) (by kernel_rfl) (fun _ _ _ h => h) (Or.inl ⟨by rfl, fun w' hSw => by (go_simp)⟩) hHeld ?_
      simp only [Act.put, List.setIfInBounds_toArray, List.set_cons_zero, List.set_cons_succ, List.getElem_cons_zero, List.getElem_toArray]
      refine wpAnyH_take (i := 1) (v := .agg #[.int .i64 (t.u 0), .int .i64 (t.u 1), .int .i64 (t.u 2), .int .i64 (t.u 3), .int .i64 (t.l 0), .int .i64 (t.l 1), .int .i64 (t.l 2), .int .i64 (t.l 3), .int .i64 (t.b 0), .int .i64 (t.b 1), .int .i64 (t.b 2), .int .i64 (t.b 3), .int .i64 t.d]) rfl (by kernel_rfl) (by kernel_rfl) (by kernel_rfl) (fun _ _ _ h => h) (Or.inl ⟨by rfl, fun w' hSw => by (have k2 := hSw.1.t; have qu0 := k2.cu 0 (by decide); have qu1 := k2.cu 1 (by decide); have qu2 := k2.cu 2 (by decide); have qu3 := k2.cu 3 (by decide); have ql0 := k2.cl 0 (by decide); have ql1 := k2.cl 1 (by decide); have ql2 := k2.cl 2 (by decide); have ql3 := k2.cl 3 (by decide); have qb0 := k2.cb 0 (by decide); have qb1 := k2.cb 1 (by decide); have qb2 := k2.cb 2 (by decide); have qb3 := k2.cb 3 (by decide); have qd := k2.cd; have qz := k2.lt; clear k2; go_simp)⟩) hHeld ?_
      simp only [Act.put, List.setIfInBounds_toArray, List.set_cons_zero, List.set_cons_succ, List.getElem_cons_zero, List.getElem_cons_succ, List.getElem_toArray]
      refine wpAnyH_take (i := 2) (v := .agg #[.int .i64 E, .slice a2 n c2, .int .i64 S]) rfl (by kernel_rfl) (by kernel_rfl) (by kernel_rfl) (fun _ _ _ h => h) (Or.inl ⟨by rfl, fun w' hSw => by (have y0 := hSw.2.c 0 _ rfl; have y1 := hSw.2.c 1 _ rfl; have y2 := hSw.2.c 2 _ rfl; have yl := hSw.2.lt; go_simp)⟩) hHeld ?_
      simp only [Act.put, List.setIfInBounds_toArray, List.set_cons_zero, List.set_cons_succ, List.getElem_cons_zero, List.getElem_cons_succ, List.getElem_toArray]
      refine wpAnyH_take (i := 4) (v := .slice ao xs.length cap) rfl (by kernel_rfl) (by kernel_rfl) (by kernel_rfl) (fun _ _ _ h => h) (Or.inl ⟨by rfl, fun w' hSw => by (go_simp)⟩) hHeld ?_
      simp only [Act.put, List.setIfInBounds_toArray, List.set_cons_zero, List.set_cons_succ, List.getElem_cons_zero, List.getElem_cons_succ, List.getElem_toArray]
      refine wpAnyH_take (i := 5) (v := .agg #[.int .i64 (t.u 0), .int .i64 (t.u 1), .int .i64 (t.u 2), .int .i64 (t.u 3), .int .i64 (t.l 0), .int .i64 (t.l 1), .int .i64 (t.l 2), .int .i64 (t.l 3), .int .i64 (t.b 0), .int .i64 (t.b 1), .int .i64 (t.b 2), .int .i64 (t.b 3), .int .i64 t.d]) rfl (by kernel_rfl) (by kernel_rfl) (by kernel_rfl) (fun _ _ _ h => h) (Or.inl ⟨by rfl, fun w' hSw => by (have k2 := hSw.1.t; have qu0 := k2.cu 0 (by decide); have qu1 := k2.cu 1 (by decide); have qu2 := k2.cu 2 (by decide); have qu3 := k2.cu 3 (by decide); have ql0 := k2.cl 0 (by decide); have ql1 := k2.cl 1 (by decide); have ql2 := k2.cl 2 (by decide); have ql3 := k2.cl 3 (by decide); have qb0 := k2.cb 0 (by decide); have qb1 := k2.cb 1 (by decide); have qb2 := k2.cb 2 (by decide); have qb3 := k2.cb 3 (by decide); have qd := k2.cd; have qz := k2.lt; clear k2; go_simp)⟩) hHeld ?_
      simp only [Act.put, List.setIfInBounds_toArray, List.set_cons_zero, List.set_cons_succ, List.getElem_cons_zero, List.getElem_cons_succ, List.getElem_toArray]
      refine wpAnyH_take (i := 6) (v := .agg #[.int .i64 E, .slice (some x) n ccap, .int .i64 S]) rfl (by kernel_rfl) (by kernel_rfl) (by kernel_rfl) (fun _ _ _ h => h) (Or.inl ⟨by rfl, fun w' hSw => by (have y0 := hSw.1.p.c 0 _ rfl; have y1 := hSw.1.p.c 1 _ rfl; have y2 := hSw.1.p.c 2 _ rfl; have yl := hSw.1.p.lt; go_simp)⟩) hHeld ?_
      simp only [Act.put, List.setIfInBounds_toArray, List.set_cons_zero, List.set_cons_succ, List.getElem_cons_zero, List.getElem_cons_succ, List.getElem_toArray]
      refine wpAnyH_ready (rs := [3]) (by kernel_rfl) (by simp) ?_
      refine AllReadyH.cons rfl (fun K hK => ?_) AllReadyH.nil
      go_simp
      refine Calls.mono (HCk.out _ HQd.out.1 HQd.out.2) ?_
      rintro e w3 ⟨rfl, b3⟩
      have HQ3 : Hid (Mn w w3 t E (some x) n ccap S a2 c2 g ∧ OpsAt w3 oa xs) := ⟨HQd.out.1.next b3, HQd.out.2.below b3⟩; clear b3 HCk HQd
      refine hK.out _ _ ⟨HQ3.out.1.x, HQ3.out.1.m⟩ (fun hHeld => ?_)
      clear hK K
      refine wpAnyH_ready (rs := [7]) (by kernel_rfl) (by simp) ?_
      refine AllReadyH.cons rfl (fun K hK => ?_) AllReadyH.nil
      go_simp
      refine Calls.mono (HRc.out _ HQ3.out.1.x.up) ?_
      rintro e w4 ⟨rfl, b4⟩
      have HQ4 : Hid (Mn w w4 t E (some x) n ccap S a2 c2 g ∧ OpsAt w4 oa xs) := ⟨HQ3.out.1.next b4, HQ3.out.2.below b4⟩; clear b4 HRc HQ3
      refine hK.out _ _ ⟨HQ4.out.1.x, HQ4.out.1.m⟩ (fun hHeld => ?_)
      clear hK K
      refine wpAnyH_take (i := 8) (v := .bool true) rfl (by kernel_rfl) (by kernel_rfl) (by kernel_rfl) (fun _ _ _ h => h) (Or.inl ⟨by rfl, fun w' hSw => by (go_simp)⟩) hHeld ?_
      simp only [Act.put, List.setIfInBounds_toArray, List.set_cons_zero, List.set_cons_succ, List.getElem_cons_zero, List.getElem_cons_succ, List.getElem_toArray]
      refine wpAnyH_take (i := 9) (v := .bool true) rfl (by kernel_rfl) (by kernel_rfl) (by kernel_rfl) (fun _ _ _ h => h) (Or.inl ⟨by rfl, fun w' hSw => by (go_simp)⟩) hHeld ?_
      simp only [Act.put, List.setIfInBounds_toArray, List.set_cons_zero, List.set_cons_succ, List.getElem_cons_zero, List.getElem_cons_succ, List.getElem_toArray]
      refine wpAnyH_done (by kernel_rfl) ?_ _
      clear hHeld
      have m1 := HQ4.out.1.m.c 1 _ rfl
      have mz := HQ4.out.1.m.lt
      have p1 := HQ4.out.1.x.p.c 1 _ rfl
      have pz := HQ4.out.1.x.p.lt
      go_wp2_with (first
        | (go_at_call 12; refine Calls.mono (HSm.out _ HQ4.out.1) ?_; rintro e w5 ⟨rfl, b5⟩; have HQ5 : Hid (Mn w w5 t E (some x) n ccap S a2 c2 g ∧ OpsAt w5 oa xs) := ⟨HQ4.out.1.next b5, HQ4.out.2.below b5⟩; clear b5 HSm HQ4 m1 mz p1 pz)
        | (go_at_call 13; refine Calls.mono (HLk.out _ HQ5.out.1.x.up HQ5.out.2) ?_; rintro e w6 ⟨rfl, b6⟩; have HQ6 : Hid (Cx w w6 t E (some x) n ccap S) := (HQ5.out.1.next b6).x; clear b6 HLk HQ5)
        | (go_at_call 8; refine Calls.mono (HW.out _ HQ6.out.up) ?_; rintro e w7 ⟨rfl, b7⟩; have HB7 : Hid (Below w.heap.size w w7) := (HQ6.out.next b7).up; clear b7 HW HQ6))
      go_ret
      exact ⟨rfl, HB7.out⟩
end Go.Proofs.YteccifanbgcakaaGreatDoor.Mo
