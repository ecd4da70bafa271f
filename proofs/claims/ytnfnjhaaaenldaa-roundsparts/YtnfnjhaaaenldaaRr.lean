/- The rows of so many rounds as the document's own answer gathers them, read off by the walk. Conditions: the plan may be, and is not too long. -/
import Derived.Test.YtnfnjhaaaenldaaRo
namespace Go.Proofs.Ytnfnjhaaaenldaa.Ro
open Go.ChangeShapes Go.WideShapes Go.ChangeAt Go.RowKit
open _root_.Go.Proofs.Ytnfnjhaaaenldaa.Op _root_.Go.Proofs.Ytnfnjhaaaenldaa.So
open _root_.Go.Proofs.Ytnfnjhaaaenldaa.Sp (Pr)
open _root_.Go.Proofs.Ytnfnjhaaaenldaa.Ss
set_option maxRecDepth 20000

theorem rrows_none (E S : Int) (pa : Option Addr) (L pc : Nat) (w : World) :
    Calls Try.prog 16 #[.agg #[.int .i64 E, .slice pa L pc, .int .i64 S], .int .i64 0] w fun e w' => e = .returned (.slice none 0 0) ∧ Below w.heap.size w w' := by
  go_enter Try.func16, Try.ntmps16
  go_wp2
  go_ret
  exact ⟨rfl, (Below.refl _ _).alloc (Nat.le_refl _) _⟩
/-- The plan's box. -/
structure Px (W : World) (B pb rb : Nat) (E S : Int) (pa : Option Addr) (L pc : Nat) (cy : Nat → Int) : Prop where
  e : W.cell? ⟨pb, 0, none⟩ = some (.int .i64 E)
  l : W.cell? ⟨pb, 1, none⟩ = some (.slice pa L pc)
  s : W.cell? ⟨pb, 2, none⟩ = some (.int .i64 S)
  cy : Nl W rb pa L cy
  p1 : pb < rb
  rb : rb < B
  sz : B ≤ W.heap.size
theorem Px.fr {W W' : World} {B pb rb : Nat} {E S : Int} {pa : Option Addr} {L pc : Nat} {cy : Nat → Int} (h : Px W B pb rb E S pa L pc cy) (g : Fr (Gx B rb) W W') : Px W' B pb rb E S pa L pc cy := by
  have h2 := h.p1
  have h4 := h.rb
  have h5 := h.sz
  have k2 : ¬ Gx B rb pb := fun e => by rcases e with e | e <;> omega
  exact ⟨by rw [g.cell (by omega) k2]; exact h.e, by rw [g.cell (by omega) k2]; exact h.l, by rw [g.cell (by omega) k2]; exact h.s, h.cy.fr (by omega) g fun k hk e => by rcases e with e | e <;> omega, h2, h4, Nat.le_trans h5 g.size⟩
set_option maxHeartbeats 8000000 in
theorem rrows_some (E S : Int) (pa : Option Addr) (L pc : Nat) (cy : Nat → Int) (n N : Nat) (w : World) (hA : Nl w w.heap.size pa L cy) (hF : Fair L E S cy) (hn0 : 0 < n) (hn : n ≤ 65536) (hN : (N : Int) = ((n : Int) - 1 + S) * E) (hN2 : N ≤ 65536) :
    Calls Try.prog 16 #[.agg #[.int .i64 E, .slice pa L pc, .int .i64 S], .int .i64 (n : Int)] w fun e w' => ∃ v, e = .returned v ∧ Below w.heap.size w w' ∧ Rd w' v N (rowP E cy (evR L n)) := by
  obtain ⟨i0, hi, hi2⟩ := Option.map_eq_some_iff.1 info35
  simp only [Prod.mk.injEq] at hi2
  obtain ⟨hz0, hz1, hz2⟩ := hi2
  have HI : Hid (Try.prog.info? 35 = some i0 ∧ i0.zero = some (.slice none 0 0) ∧ i0.size = 1 ∧ i0.bytes = 24) := ⟨hi, hz0, hz1, hz2⟩
  obtain ⟨jj, hj, hj2⟩ := Option.map_eq_some_iff.1 info37
  simp only [Prod.mk.injEq] at hj2
  obtain ⟨hy0, hy1, hy2⟩ := hj2
  have HJ : Hid (Try.prog.info? 37 = some jj ∧ jj.zero = some (.agg #[.int .i64 0, .int .i64 0]) ∧ jj.size = 2 ∧ jj.bytes = 16) := ⟨hj, hy0, hy1, hy2⟩
  have HF : Hid (Fair L E S cy ∧ (N : Int) = ((n : Int) - 1 + S) * E) := ⟨hF, hN⟩
  obtain ⟨e1, e2, hL, -, -, -, s1, s2⟩ := hF
  have HU : Hid (Below w.heap.size w ((w.alloc (.cells #[.int .i64 E, .slice pa L pc, .int .i64 S] 24)).alloc (.cells (madeCells #[.slice none 0 0] N) 35))) := ((Below.refl _ _).alloc (Nat.le_refl _) _).alloc (by simp) _
  have HG : Hid (Gt ((w.alloc (.cells #[.int .i64 E, .slice pa L pc, .int .i64 S] 24)).alloc (.cells (madeCells #[.slice none 0 0] N) 35)) (w.heap.size + 1 + 1) (w.heap.size + 1) N ((w.alloc (.cells #[.int .i64 E, .slice pa L pc, .int .i64 S] 24)).alloc (.cells (madeCells #[.slice none 0 0] N) 35)) (rowP E cy (evR L 0))) := by
    refine ⟨Fr.refl _ _, fun _ => .slice none 0 0, ?_⟩
    have h := rs_new (w.alloc (.cells #[.int .i64 E, .slice pa L pc, .int .i64 S] 24)) N (w.heap.size + 1 + 1) (by simp) (Below.refl _ _) (by simp)
    rw [World.size_alloc] at h
    exact h
  have HB : Hid (Px ((w.alloc (.cells #[.int .i64 E, .slice pa L pc, .int .i64 S] 24)).alloc (.cells (madeCells #[.slice none 0 0] N) 35)) (w.heap.size + 1 + 1) w.heap.size (w.heap.size + 1) E S pa L pc cy) := by
    refine ⟨?_, ?_, ?_, ⟨fun h0 => ?_⟩, by omega, by omega, by simp⟩
    · exact ((At.new w #[.int .i64 E, .slice pa L pc, .int .i64 S] 24).alloc _).c 0 _ rfl
    · exact ((At.new w #[.int .i64 E, .slice pa L pc, .int .i64 S] 24).alloc _).c 1 _ rfl
    · exact ((At.new w #[.int .i64 E, .slice pa L pc, .int .i64 S] 24).alloc _).c 2 _ rfl
    · obtain ⟨b, f, e, hb, hx⟩ := hA.is h0
      exact ⟨b, f, e, by omega, fun k hk => by rw [(bcell HU.out).1 _ _ hb]; exact hx k hk⟩
  obtain ⟨hm1, hm2⟩ := mul_small (a := (n : Int) - 1 + S) (b := E) (by omega) (by omega) (by omega) (by omega)
  have hmm : ((n : Int) - 1 + S) * E = (N : Int) := hN.symm
  have hw2 : IntKind.i64.wrap ((n : Int) - 1 + S) = (n : Int) - 1 + S := by rw [IntKind.wrap_i64]; omega
  have hz : ((n : Int) == 0) = false := by simp; omega
  have hzz : ¬ (n : Int) = 0 := by omega
  have hN0 : (N : Int) ≤ 65536 := by omega
  rw [← hN] at hm1 hm2
  clear hi hz0 hz1 hz2 hA hN hj hy0 hy1 hy2
  go_enter Try.func16, Try.ntmps16
  go_upto_region 4 with (first
    | (at_make; refine wpList_make_row _ rfl _ _ 25 rfl 35 i0 (.slice none 0 0) Try.underlying25 HI.out.1 HI.out.2.1 HI.out.2.2.1 rfl .i64 .i64 N rfl rfl (by rw [HI.out.2.2.2]; omega) (by omega) ?_))
  generalize ((w.alloc (.cells #[.int .i64 E, .slice pa L pc, .int .i64 S] 24)).alloc (.cells (madeCells #[.slice none 0 0] N) 35)) = W1 at *
  obtain ⟨rb, hrb⟩ : ∃ rb, rb = w.heap.size + 1 := ⟨_, rfl⟩
  rw [← hrb] at HB HG ⊢
  have HR : Hid (rb = w.heap.size + 1) := hrb
  clear HI hrb
  go_wp2_with fail
  go_loopw [6] (fun v wr => ∃ k : Nat, k ≤ n ∧ v = .int .i64 k ∧ Gt W1 (rb + 1) rb N wr (rowP E cy (evR L k))) (fun v _ => n - (intOf v).toNat)
  case atStart => exact ⟨0, by omega, rfl, HG.out⟩
  case round =>
    rename World => wr
    obtain ⟨k, hk, rfl, hq⟩ := hrel
    have HQ : Hid (Gt W1 (rb + 1) rb N wr (rowP E cy (evR L k))) := hq
    clear hq HG
    by_cases hlt : k < n
    · have k1 : (k : Int) < (n : Int) := by omega
      go_wp2_with fail
      go_loopw [7] (fun v wz => ∃ j : Nat, j ≤ L ∧ v = .int .i64 j ∧ Gt W1 (rb + 1) rb N wz (rowP E cy (evR L k ++ (List.range j).map fun i : Nat => ((i : Int), (k : Int))))) (fun v _ => L - (intOf v).toNat)
      case atStart => exact ⟨0, by omega, rfl, by simpa using HQ.out⟩
      case round =>
        rename World => wz
        obtain ⟨j, hj, rfl, hq⟩ := hrel
        have HZ : Hid (Gt W1 (rb + 1) rb N wz (rowP E cy (evR L k ++ (List.range j).map fun i : Nat => ((i : Int), (k : Int))))) := hq
        clear hq HQ
        have bx := HB.out.fr HZ.out.fr
        have x1 := bx.l
        by_cases hjl : j < L
        · have j0 : (0 : Int) ≤ (j : Int) := by omega
          have j1 : (j : Int) < (L : Int) := by omega
          obtain ⟨m0, m1, m2⟩ := cyc_lt e1 hlt (HF.out.1.c0 j hjl) (HF.out.1.c2 j hjl)
          rw [← HF.out.2] at m2
          obtain ⟨-, m3⟩ := mul_small (a := (k : Int)) (b := E) (by omega) (by omega) (by omega) (by omega)
          have m4 := HF.out.1.c1 j hjl
          obtain ⟨c, hc⟩ : ∃ c : Nat, (c : Int) = (k : Int) * E + cy j := ⟨((k : Int) * E + cy j).toNat, by omega⟩
          have HRw : Hid (rowP E cy (evR L k ++ (List.range (j + 1)).map fun i : Nat => ((i : Int), (k : Int))) = updR (rowP E cy (evR L k ++ (List.range j).map fun i : Nat => ((i : Int), (k : Int)))) c (rowP E cy (evR L k ++ (List.range j).map fun i : Nat => ((i : Int), (k : Int))) c ++ [((j : Int), (k : Int))])) := by
            rw [List.range_succ, List.map_append, ← List.append_assoc]
            funext d
            refine (rowP_app (c := c) ?_ d).trans ?_
            · show (k : Int) * E + cy (Int.toNat (j : Int)) = c
              rw [Int.toNat_natCast]; exact hc.symm
            · rfl
          have hlen : (rowP E cy (evR L k ++ (List.range j).map fun i : Nat => ((i : Int), (k : Int))) c).length ≤ 2000000000 := by
            refine Nat.le_trans (rowP_len _ _ _ _) ?_
            have := Nat.mul_le_mul hn hL
            have h2 : k * L ≤ n * L := Nat.mul_le_mul_right L hk
            have h3 : n * L ≤ 65536 * 64 := this
            simp [evR_len]; omega
          generalize rowP E cy (evR L k ++ (List.range j).map fun i : Nat => ((i : Int), (k : Int))) = row at *
          have hcN : c < N := by omega
          obtain ⟨pb2, pf2, rfl, pl, px⟩ := bx.cy.is (by omega)
          have x0 := bx.e
          have x3 := px j hjl
          have hw3 : IntKind.i64.wrap ((k : Int) * E) = (k : Int) * E := by rw [IntKind.wrap_i64]; omega
          have hce : (k : Int) * E + cy j = (c : Int) := hc.symm
          clear hc
          generalize cy j = z at *
          generalize hm : (k : Int) * E = m at *
          have l2 := bx.rb
          have l3 := bx.sz
          clear bx px
          go_upto_region 10 with fail
          go_quiet (fail)
          have HQ2 : Hid (Gt W1 (rb + 1) rb N (wz.drewN nq) row) := HZ.out.up ⟨rfl, rfl, rfl, Nat.le_refl _, fun _ _ => rfl⟩
          have l4 : rb < (wz.drewN nq).heap.size := Nat.lt_of_lt_of_le l2 l3
          clear HZ x0 x1 x3
          generalize wz.drewN nq = X at *
          obtain ⟨f, hf⟩ := HQ2.out.rs
          have HF2 : Hid (Rs X (rb + 1) rb N f row) := hf
          have y2 := hf.c c hcN
          have HO : Hid (X.ownsRow (rb + 1) 37 2 (f c) (row c).length (pcells (row c))) := hf.o c hcN
          have c0 : (0 : Int) ≤ (c : Int) := by omega
          have c1 : (c : Int) < (N : Int) := by omega
          clear hf
          have HP : Hid (∀ W' w4 g cap, Below X.heap.size X W' → W'.grownBy w4 (f c).ownBlock → w4.ownsRow (rb + 1) 37 2 (.slice (some ⟨g, 0, none⟩) ((row c).length + 1) cap) ((row c).length + 1) (pcells (row c) ++ [.int .i64 (j : Int), .int .i64 (k : Int)]) → ((f c).ownBlock = some g ∨ X.heap.size ≤ g) → (w4.cell? ⟨rb, c, none⟩ = some (f c) ∧ w4.frozen? ⟨rb, c, none⟩ = false ∧ rb < w4.heap.size) ∧ Gt W1 (rb + 1) rb N (w4.setCell ⟨rb, c, none⟩ (.slice (some ⟨g, 0, none⟩) ((row c).length + 1) cap)) (updR row c (row c ++ [((j : Int), (k : Int))]))) := by
            intro W' w4 g cap h1 h2 h3 h4
            obtain ⟨a1, a2, a3⟩ := HF2.out.next (x := ((j : Int), (k : Int))) h1 h2 hcN h3 h4
            exact ⟨a2, (HQ2.out.fr.same a1).setCell (.inr (.inl rfl)) _ _, _, a3⟩
          clear HQ2 HF2
          generalize f c = v at *
          generalize hrl : row c = rl at *
          have l6 : ¬ rb = X.heap.size := by omega
          have l8 : ¬ X.heap.size = rb := by omega
          go_wp2_with (first
            | (at_builtin; refine wpList_append_lies _ rfl _ _ 35 rfl (rb + 1) 37 jj (.agg #[.int .i64 0, .int .i64 0]) 2 16 Try.underlying35 HJ.out.1 HJ.out.2.1 HJ.out.2.2.1 HJ.out.2.2.2 rfl (by decide) v rl.length (pcells rl) rfl (HO.out.alloc _) ⟨X.heap.size, 0, none⟩ 1 1 [.int .i64 (j : Int), .int .i64 (k : Int)] rfl rfl (World.news_of_block (heap_alloc_new X (.cells #[.int .i64 (j : Int), .int .i64 (k : Int)] 37))) (by simp [Value.oneCell']) (by decide) (by unfold maxLen; omega) (by omega) (by simp; omega) _ rfl ?_; intro g cap w4 hown hgrow hg hlt3; have HP3 : Hid _ := HP.out _ w4 g cap ((Below.refl _ _).alloc (Nat.le_refl _) _) hgrow hown (hg.imp id fun e => by rw [e]; simp); have z1 := HP3.out.1.1; have z2 := HP3.out.1.2.1; have z3 := HP3.out.1.2.2; clear hown hgrow hg hlt3))
          go_roundw
          case rel => exact ⟨j + 1, by omega, by go_num, by rw [HRw.out]; exact HP3.out.2⟩
          case measure => simp [intOf]; omega
        · obtain rfl : j = L := by omega
          have j1 : ¬ (j : Int) < (j : Int) := by omega
          have HZ2 : Hid (Gt W1 (rb + 1) rb N wz (rowP E cy (evR j (k + 1)))) := by rw [evR_succ]; exact HZ.out
          clear HZ bx
          go_wp2_with fail
          go_roundw
          case rel => exact ⟨k + 1, by omega, by go_num, HZ2.out⟩
          case measure => simp [intOf]; omega
    · obtain rfl : k = n := by omega
      have k1 : ¬ (k : Int) < (k : Int) := by omega
      go_wp2_with fail
      go_ret
      refine ⟨_, rfl, ?_, ?_⟩
      · have h := HQ.out.fr.below (B := w.heap.size) HU.out.size fun q hq e => by
          have := HR.out
          rcases e with e | e <;> omega
        exact HU.out.trans h
      · obtain ⟨f, hf⟩ := HQ.out.rs
        exact Rd.of hf
end Go.Proofs.Ytnfnjhaaaenldaa.Ro
