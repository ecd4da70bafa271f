/- One operation is gathered into the rows of all rounds (the closure of rowsOf), read off the program by the walk. Conditions: the plan and the rows lie in memory, and no cycle is beyond the rows. -/
import Derived.Test.YtnfnjhaaaenldaaMe
namespace Go.Proofs.Ytnfnjhaaaenldaa.Ro
open Go.ChangeShapes Go.WideShapes Go.ChangeAt Go.RowKit
open _root_.Go.Proofs.Ytnfnjhaaaenldaa.Op _root_.Go.Proofs.Ytnfnjhaaaenldaa.So
open _root_.Go.Proofs.Ytnfnjhaaaenldaa.Sp (Pr)
open _root_.Go.Proofs.Ytnfnjhaaaenldaa.Ss
set_option maxRecDepth 20000

/-- The plan's box, the number of rounds, the rows' variable. -/
structure Bx (W : World) (B nb pb rv rb n N : Nat) (E S : Int) (pa : Option Addr) (L pc : Nat) (cy : Nat → Int) : Prop where
  n : W.cell? ⟨nb, 0, none⟩ = some (.int .i64 (n : Int))
  e : W.cell? ⟨pb, 0, none⟩ = some (.int .i64 E)
  l : W.cell? ⟨pb, 1, none⟩ = some (.slice pa L pc)
  s : W.cell? ⟨pb, 2, none⟩ = some (.int .i64 S)
  v : W.cell? ⟨rv, 0, none⟩ = some (.slice (some ⟨rb, 0, none⟩) N N)
  cy : Nl W rb pa L cy
  n1 : nb < rb
  p1 : pb < rb
  v1 : rb < rv
  v2 : rv < B
  sz : B ≤ W.heap.size
theorem Bx.fr {W W' : World} {B nb pb rv rb n N : Nat} {E S : Int} {pa : Option Addr} {L pc : Nat} {cy : Nat → Int} (h : Bx W B nb pb rv rb n N E S pa L pc cy) (g : Fr (Gx B rb) W W') : Bx W' B nb pb rv rb n N E S pa L pc cy := by
  have h1 := h.n1
  have h2 := h.p1
  have h3 := h.v1
  have h4 := h.v2
  have h5 := h.sz
  have k1 : ¬ Gx B rb nb := fun e => by rcases e with e | e <;> omega
  have k2 : ¬ Gx B rb pb := fun e => by rcases e with e | e <;> omega
  have k3 : ¬ Gx B rb rv := fun e => by rcases e with e | e <;> omega
  exact ⟨by rw [g.cell (by omega) k1]; exact h.n, by rw [g.cell (by omega) k2]; exact h.e, by rw [g.cell (by omega) k2]; exact h.l, by rw [g.cell (by omega) k2]; exact h.s, by rw [g.cell (by omega) k3]; exact h.v, h.cy.fr (by omega) g fun k hk e => by rcases e with e | e <;> omega, h1, h2, h3, h4, Nat.le_trans h5 g.size⟩
theorem cyc_lt {E S c : Int} {r n : Nat} (hE : 1 ≤ E) (hr : r < n) (h0 : 0 ≤ c) (h1 : c < S * E) : 0 ≤ (r : Int) * E ∧ 0 ≤ (r : Int) * E + c ∧ (r : Int) * E + c < ((n : Int) - 1 + S) * E := by
  have a : 0 ≤ (r : Int) * E := Int.mul_nonneg (by omega) (by omega)
  have b : (r : Int) * E ≤ ((n : Int) - 1) * E := Int.mul_le_mul_of_nonneg_right (by omega) (by omega)
  have c' : ((n : Int) - 1 + S) * E = ((n : Int) - 1) * E + S * E := Int.add_mul _ _ _
  refine ⟨a, by omega, by omega⟩
theorem mul_small {a b : Int} (a0 : 0 ≤ a) (a1 : a ≤ 1000000) (b0 : 0 ≤ b) (b1 : b ≤ 1000000) : 0 ≤ a * b ∧ a * b ≤ 1000000000000 := by
  have h1 := Int.mul_le_mul_of_nonneg_right a1 b0
  have h2 := Int.mul_nonneg a0 b0
  omega
set_option maxHeartbeats 4000000 in
theorem gather_any (w1 : World) (B nb pb rv rb n N : Nat) (E S : Int) (pa : Option Addr) (L pc : Nat) (cy : Nat → Int) (op : Nat) (ev : List Pr) (w : World) (hB : Bx w1 B nb pb rv rb n N E S pa L pc cy) (hG : Gt w1 B rb N w (rowP E cy ev))
    (hE : 1 ≤ E) (hE2 : E ≤ 65536) (hn : n ≤ 65536) (hop : op < L) (hc0 : 0 ≤ cy op) (hc1 : cy op < S * E) (hc2 : cy op ≤ 65536) (hN : (N : Int) = ((n : Int) - 1 + S) * E) (hev : ev.length ≤ 1000000000) :
    Calls Try.prog 19 #[.int .i64 (op : Int), .pointer (some ⟨nb, 0, none⟩), .pointer (some ⟨pb, 0, none⟩), .pointer (some ⟨rv, 0, none⟩)] w fun e w' => e = .returned (.tuple #[]) ∧ Gt w1 B rb N w' (rowP E cy (ev ++ (List.range n).map fun r : Nat => ((op : Int), (r : Int)))) := by
  have HB : Hid (∀ W, Fr (Gx B rb) w1 W → Bx W B nb pb rv rb n N E S pa L pc cy) := fun W h => hB.fr h
  have HG : Hid (Gt w1 B rb N w (rowP E cy ev)) := hG
  obtain ⟨i0, hi, hi2⟩ := Option.map_eq_some_iff.1 info37
  simp only [Prod.mk.injEq] at hi2
  obtain ⟨hz0, hz1, hz2⟩ := hi2
  have HI : Hid (Try.prog.info? 37 = some i0 ∧ i0.zero = some (.agg #[.int .i64 0, .int .i64 0]) ∧ i0.size = 2 ∧ i0.bytes = 16) := ⟨hi, hz0, hz1, hz2⟩
  have HN : Hid ((N : Int) = ((n : Int) - 1 + S) * E) := hN
  have hcn := (HB.out w hG.fr).n
  clear hi hz0 hz1 hz2 hG hB hN
  have o0 : (0 : Int) ≤ (op : Int) := by omega
  have o1 : (op : Int) < (L : Int) := by omega
  go_enter Try.func19, Try.ntmps19
  go_wp2_with fail
  clear hcn
  go_loopw [8] (fun v wr => ∃ k : Nat, k ≤ n ∧ v = .int .i64 k ∧ Gt w1 B rb N wr (rowP E cy (ev ++ (List.range k).map fun r : Nat => ((op : Int), (r : Int))))) (fun v _ => n - (intOf v).toNat)
  case atStart => exact ⟨0, by omega, rfl, by simpa using HG.out⟩
  case round =>
    rename World => wr
    obtain ⟨k, hk, rfl, hq⟩ := hrel
    have HQ : Hid (Gt w1 B rb N wr (rowP E cy (ev ++ (List.range k).map fun r : Nat => ((op : Int), (r : Int))))) := hq
    clear hq HG
    by_cases hlt : k < n
    · have k1 : (k : Int) < (n : Int) := by omega
      obtain ⟨m0, m1, m2⟩ := cyc_lt hE hlt hc0 hc1
      rw [← HN.out] at m2
      obtain ⟨-, m3⟩ := mul_small (a := (k : Int)) (b := E) (by omega) (by omega) (by omega) (by omega)
      obtain ⟨c, hc⟩ : ∃ c : Nat, (c : Int) = (k : Int) * E + cy op := ⟨((k : Int) * E + cy op).toNat, by omega⟩
      have HR : Hid (rowP E cy (ev ++ (List.range (k + 1)).map fun r : Nat => ((op : Int), (r : Int))) = updR (rowP E cy (ev ++ (List.range k).map fun r : Nat => ((op : Int), (r : Int)))) c (rowP E cy (ev ++ (List.range k).map fun r : Nat => ((op : Int), (r : Int))) c ++ [((op : Int), (k : Int))])) := by
        rw [List.range_succ, List.map_append, ← List.append_assoc]
        funext d
        refine (rowP_app (c := c) ?_ d).trans ?_
        · show (k : Int) * E + cy (Int.toNat (op : Int)) = c
          rw [Int.toNat_natCast]; exact hc.symm
        · rfl
      have hlen : (rowP E cy (ev ++ (List.range k).map fun r : Nat => ((op : Int), (r : Int))) c).length ≤ 2000000000 := by
        refine Nat.le_trans (rowP_len _ _ _ _) ?_
        simp; omega
      generalize rowP E cy (ev ++ (List.range k).map fun r : Nat => ((op : Int), (r : Int))) = row at *
      have hcN : c < N := by omega
      have bx := HB.out wr HQ.out.fr
      obtain ⟨pb2, pf2, rfl, pl, px⟩ := bx.cy.is (by omega)
      have x1 := bx.e
      have x2 := bx.l
      have x3 := px op hop
      have hw1 : IntKind.i64.wrap ((k : Int) * E) = (k : Int) * E := by rw [IntKind.wrap_i64]; omega
      have hw2 : IntKind.i64.wrap ((k : Int) * E + cy op) = (k : Int) * E + cy op := by rw [IntKind.wrap_i64]; omega
      rw [← hc] at hw2
      have hce : (k : Int) * E + cy op = (c : Int) := hc.symm
      clear hc
      generalize cy op = z at *
      generalize hm : (k : Int) * E = m at *
      clear bx px
      go_wp2_with fail
      go_quiet (fail)
      have HQ2 : Hid (Gt w1 B rb N (wr.drewN nq) row) := HQ.out.up ⟨rfl, rfl, rfl, Nat.le_refl _, fun _ _ => rfl⟩
      clear HQ x1 x2 x3
      generalize wr.drewN nq = X at *
      have bx := HB.out X HQ2.out.fr
      have y1 := bx.v
      have l1 := bx.v1
      have l2 := bx.v2
      have l3 := bx.sz
      obtain ⟨f, hf⟩ := HQ2.out.rs
      have HF : Hid (Rs X B rb N f row) := hf
      have y2 := hf.c c hcN
      have HO : Hid (X.ownsRow B 37 2 (f c) (row c).length (pcells (row c))) := hf.o c hcN
      have c0 : (0 : Int) ≤ (c : Int) := by omega
      have c1 : (c : Int) < (N : Int) := by omega
      have HV : Hid (∀ W, Fr (Gx B rb) X W → W.cell? ⟨rv, 0, none⟩ = some (.slice (some ⟨rb, 0, none⟩) N N)) := fun W h => (HB.out W (HQ2.out.fr.same h)).v
      clear hf bx
      have HP : Hid (∀ W' w4 g cap, Below X.heap.size X W' → W'.grownBy w4 (f c).ownBlock → w4.ownsRow B 37 2 (.slice (some ⟨g, 0, none⟩) ((row c).length + 1) cap) ((row c).length + 1) (pcells (row c) ++ [.int .i64 (op : Int), .int .i64 (k : Int)]) → ((f c).ownBlock = some g ∨ X.heap.size ≤ g) → (w4.cell? ⟨rv, 0, none⟩ = some (.slice (some ⟨rb, 0, none⟩) N N)) ∧ (w4.cell? ⟨rb, c, none⟩ = some (f c) ∧ w4.frozen? ⟨rb, c, none⟩ = false ∧ rb < w4.heap.size) ∧ Gt w1 B rb N (w4.setCell ⟨rb, c, none⟩ (.slice (some ⟨g, 0, none⟩) ((row c).length + 1) cap)) (updR row c (row c ++ [((op : Int), (k : Int))]))) := by
        intro W' w4 g cap h1 h2 h3 h4
        obtain ⟨a1, a2, a3⟩ := HF.out.next (x := ((op : Int), (k : Int))) h1 h2 hcN h3 h4
        exact ⟨HV.out w4 a1, a2, (HQ2.out.fr.same a1).setCell (.inr (.inl rfl)) _ _, _, a3⟩
      clear HQ2 HF HV hlt
      generalize f c = v at *
      generalize hrl : row c = rl at *
      go_wp2_with fail
      have e1 : X.drew.heap.size = X.heap.size := rfl
      have l4 : rb < X.heap.size := by omega
      have l5 : rv < X.heap.size := by omega
      have l6 : ¬ rb = X.heap.size := by omega
      have l7 : ¬ rv = X.heap.size := by omega
      have l8 : ¬ X.heap.size = rb := by omega
      have l9 : ¬ X.heap.size = rv := by omega
      go_region_law
        ((refine step_append_lies _ (by rfl) _ _ 35 (by rfl) B 37 i0 (.agg #[.int .i64 0, .int .i64 0]) 2 16 Try.underlying35 HI.out.1 HI.out.2.1 HI.out.2.2.1 HI.out.2.2.2 rfl (by decide) v rl.length (pcells rl) (by rfl) (HO.out.drew.alloc _) ⟨X.heap.size, 0, none⟩ 1 1 [.int .i64 (op : Int), .int .i64 (k : Int)] (by rfl) rfl (World.news_of_block (heap_alloc_new X.drew (.cells #[.int .i64 (op : Int), .int .i64 (k : Int)] 37))) (by simp [Value.oneCell']) (by decide) (by unfold maxLen; omega) (by omega) (by simp; omega) _ rfl ?_; intro g cap w4 hown hgrow hg hlt3; have HP3 : Hid _ := HP.out _ w4 g cap ((drew_up X).alloc (Nat.le_refl _) _) hgrow hown (hg.imp id fun e => by rw [e]; simp); have z0 := HP3.out.1; have z1 := HP3.out.2.1.1; have z2 := HP3.out.2.1.2.1; have z3 := HP3.out.2.1.2.2; clear hown hgrow hg hlt3))
      all_goals
        go_wp2_with fail
        go_roundw
        case rel => exact ⟨k + 1, by omega, by go_num, by rw [HR.out]; exact HP3.out.2.2⟩
        case measure => simp [intOf]; omega
    · obtain rfl : k = n := by omega
      have k1 : ¬ (k : Int) < (k : Int) := by omega
      go_wp2_with fail
      go_end0
      exact ⟨rfl, HQ.out⟩
end Go.Proofs.Ytnfnjhaaaenldaa.Ro
