/- The rows of so many rounds (rowsOf), read off the program by the walk: all operations are gathered, then each row is put into order. Conditions: the plan may be, and is not too long. -/
import Derived.Test.YtnfnjhaaaenldaaRq
import Derived.Deep.OwnRows
import Derived.OwnWalk
namespace Go.Proofs.Ytnfnjhaaaenldaa.Ro
open Go.ChangeShapes Go.WideShapes Go.ChangeAt Go.RowKit
open _root_.Go.Proofs.Ytnfnjhaaaenldaa.Op _root_.Go.Proofs.Ytnfnjhaaaenldaa.So
open _root_.Go.Proofs.Ytnfnjhaaaenldaa.Sp (Pr)
open _root_.Go.Proofs.Ytnfnjhaaaenldaa.Ss
set_option maxRecDepth 20000

theorem info35 : (Try.prog.info? 35).map (fun i => (i.zero, i.size, i.bytes)) = some (some (.slice none 0 0), 1, 24) := by kernel_rfl
/-- What a plan may be. -/
structure Fair (L : Nat) (E S : Int) (cy : Nat → Int) : Prop where
  e1 : 1 ≤ E
  e2 : E ≤ 65536
  l : L ≤ 64
  c0 : ∀ i, i < L → 0 ≤ cy i
  c1 : ∀ i, i < L → cy i ≤ 65536
  c2 : ∀ i, i < L → cy i < S * E
  s1 : 1 ≤ S
  s2 : S ≤ 65537
theorem rs_new (W : World) (N B : Nat) (hB : W.heap.size < B) {W' : World} (hW : Below (W.heap.size + 1) (W.alloc (.cells (madeCells #[.slice none 0 0] N) 35)) W') (hs : B ≤ W'.heap.size) : Rs W' B W.heap.size N (fun _ => .slice none 0 0) (fun _ => []) := by
  have h := At.new W (madeCells #[.slice none 0 0] N) 35
  refine ⟨fun c hc => ?_, fun k => ?_, fun c _ => World.ownsRow_nil _ _ _ _, fun _ _ _ _ h => absurd rfl h, hB, hs⟩
  · rw [(bcell hW).1 _ _ (by omega)]
    exact h.c c (.slice none 0 0) (by rw [← Array.getElem?_toList, toList_madeCells_one]; simp [hc])
  · rw [(bcell hW).2 _ _ (by omega)]
    exact h.f k
theorem rowsOf_none (E S : Int) (pa : Option Addr) (L pc : Nat) (w : World) :
    Calls Try.prog 14 #[.agg #[.int .i64 E, .slice pa L pc, .int .i64 S], .int .i64 0] w fun e w' => e = .returned (.slice none 0 0) ∧ Below w.heap.size w w' := by
  go_enter Try.func14, Try.ntmps14
  go_wp2
  go_ret
  exact ⟨rfl, ((Below.refl _ _).alloc (Nat.le_refl _) _).alloc (by simp) _⟩
set_option maxHeartbeats 8000000 in
theorem rowsOf_some (E S : Int) (pa : Option Addr) (L pc : Nat) (cy : Nat → Int) (n N : Nat) (w : World) (hA : Nl w w.heap.size pa L cy) (hF : Fair L E S cy) (hn0 : 0 < n) (hn : n ≤ 65536) (hN : (N : Int) = ((n : Int) - 1 + S) * E) (hN2 : N ≤ 65536) :
    Calls Try.prog 14 #[.agg #[.int .i64 E, .slice pa L pc, .int .i64 S], .int .i64 (n : Int)] w fun e w' => ∃ v, e = .returned v ∧ Below w.heap.size w w' ∧ Rd w' v N (rowP E cy (evR L n)) := by
  obtain ⟨i0, hi, hi2⟩ := Option.map_eq_some_iff.1 info35
  simp only [Prod.mk.injEq] at hi2
  obtain ⟨hz0, hz1, hz2⟩ := hi2
  have HI : Hid (Try.prog.info? 35 = some i0 ∧ i0.zero = some (.slice none 0 0) ∧ i0.size = 1 ∧ i0.bytes = 24) := ⟨hi, hz0, hz1, hz2⟩
  have HF : Hid (Fair L E S cy ∧ (N : Int) = ((n : Int) - 1 + S) * E) := ⟨hF, hN⟩
  have HA : Hid (Nl w w.heap.size pa L cy) := hA
  obtain ⟨e1, e2, hL, -, -, -, s1, s2⟩ := hF
  have HS : Hid (w.heap.size + 1 + 1 = ((w.alloc (.cells #[.int .i64 E, .slice pa L pc, .int .i64 S] 24)).alloc (.cells #[.int .i64 (n : Int)] 3)).heap.size) := show _ = _ by simp
  have HU : Hid (Below w.heap.size w ((((w.alloc (.cells #[.int .i64 E, .slice pa L pc, .int .i64 S] 24)).alloc (.cells #[.int .i64 (n : Int)] 3)).alloc (.cells (madeCells #[.slice none 0 0] N) 35)).alloc (.cells #[.slice (some ⟨w.heap.size + 1 + 1, 0, none⟩) N N] 25))) := ((((Below.refl _ _).alloc (Nat.le_refl _) _).alloc (by simp) _).alloc (by simp; omega) _).alloc (by simp; omega) _
  have HG : Hid (Gt ((((w.alloc (.cells #[.int .i64 E, .slice pa L pc, .int .i64 S] 24)).alloc (.cells #[.int .i64 (n : Int)] 3)).alloc (.cells (madeCells #[.slice none 0 0] N) 35)).alloc (.cells #[.slice (some ⟨w.heap.size + 1 + 1, 0, none⟩) N N] 25)) (w.heap.size + 1 + 1 + 1 + 1) (w.heap.size + 1 + 1) N ((((w.alloc (.cells #[.int .i64 E, .slice pa L pc, .int .i64 S] 24)).alloc (.cells #[.int .i64 (n : Int)] 3)).alloc (.cells (madeCells #[.slice none 0 0] N) 35)).alloc (.cells #[.slice (some ⟨w.heap.size + 1 + 1, 0, none⟩) N N] 25)) (rowP E cy (evC n 0))) := by
    refine ⟨Fr.refl _ _, fun _ => .slice none 0 0, ?_⟩
    rw [HS.out]
    exact rs_new _ N _ (by omega) ((Below.refl _ _).alloc (by simp) _) (by simp)
  have HB : Hid (Bx ((((w.alloc (.cells #[.int .i64 E, .slice pa L pc, .int .i64 S] 24)).alloc (.cells #[.int .i64 (n : Int)] 3)).alloc (.cells (madeCells #[.slice none 0 0] N) 35)).alloc (.cells #[.slice (some ⟨w.heap.size + 1 + 1, 0, none⟩) N N] 25)) (w.heap.size + 1 + 1 + 1 + 1) (w.heap.size + 1) w.heap.size (w.heap.size + 1 + 1 + 1) (w.heap.size + 1 + 1) n N E S pa L pc cy) := by
    refine ⟨?_, ?_, ?_, ?_, ?_, ⟨fun h0 => ?_⟩, by omega, by omega, by omega, by omega, by simp⟩
    · have h := ((At.new (w.alloc (.cells #[.int .i64 E, .slice pa L pc, .int .i64 S] 24)) #[.int .i64 (n : Int)] 3).alloc (.cells (madeCells #[.slice none 0 0] N) 35)).alloc (.cells #[.slice (some ⟨w.heap.size + 1 + 1, 0, none⟩) N N] 25)
      rw [World.size_alloc] at h
      exact h.c 0 _ rfl
    · exact ((((At.new w #[.int .i64 E, .slice pa L pc, .int .i64 S] 24).alloc _).alloc _).alloc _).c 0 _ rfl
    · exact ((((At.new w #[.int .i64 E, .slice pa L pc, .int .i64 S] 24).alloc _).alloc _).alloc _).c 1 _ rfl
    · exact ((((At.new w #[.int .i64 E, .slice pa L pc, .int .i64 S] 24).alloc _).alloc _).alloc _).c 2 _ rfl
    · have h := At.new (((w.alloc (.cells #[.int .i64 E, .slice pa L pc, .int .i64 S] 24)).alloc (.cells #[.int .i64 (n : Int)] 3)).alloc (.cells (madeCells #[.slice none 0 0] N) 35)) #[.slice (some ⟨w.heap.size + 1 + 1, 0, none⟩) N N] 25
      rw [World.size_alloc, World.size_alloc, World.size_alloc] at h
      exact h.c 0 _ rfl
    · obtain ⟨b, f, e, hb, hx⟩ := HA.out.is h0
      exact ⟨b, f, e, by omega, fun k hk => by rw [(bcell HU.out).1 _ _ hb]; exact hx k hk⟩
  clear HS
  obtain ⟨hm1, hm2⟩ := mul_small (a := (n : Int) - 1 + S) (b := E) (by omega) (by omega) (by omega) (by omega)
  have hmm : ((n : Int) - 1 + S) * E = (N : Int) := hN.symm
  have hw2 : IntKind.i64.wrap ((n : Int) - 1 + S) = (n : Int) - 1 + S := by rw [IntKind.wrap_i64]; omega
  have hz : ((n : Int) == 0) = false := by simp; omega
  have hzz : ¬ (n : Int) = 0 := by omega
  have hN0 : (N : Int) ≤ 65536 := by omega
  rw [← hN] at hm1 hm2
  clear hi hz0 hz1 hz2 hA hN
  go_enter Try.func14, Try.ntmps14
  go_upto_region 4 with (first
    | (at_make; refine wpList_make_row _ rfl _ _ 25 rfl 35 i0 (.slice none 0 0) Try.underlying25 HI.out.1 HI.out.2.1 HI.out.2.2.1 rfl .i64 .i64 N rfl rfl (by rw [HI.out.2.2.2]; omega) (by omega) ?_))
  generalize ((((w.alloc (.cells #[.int .i64 E, .slice pa L pc, .int .i64 S] 24)).alloc (.cells #[.int .i64 (n : Int)] 3)).alloc (.cells (madeCells #[.slice none 0 0] N) 35)).alloc (.cells #[.slice (some ⟨w.heap.size + 1 + 1, 0, none⟩) N N] 25)) = W1 at *
  obtain ⟨rb, hrb⟩ : ∃ rb, rb = w.heap.size + 1 + 1 := ⟨_, rfl⟩
  rw [← hrb] at HB HG ⊢
  have HR : Hid (rb = w.heap.size + 1 + 1) := hrb
  have x1 := HB.out.l
  have x2 := HB.out.v
  clear HI HA hrb
  go_wp2_with fail
  clear x1 x2
  go_loopw [25] (fun v wr => ∃ k : Nat, k ≤ L ∧ v = .int .i64 k ∧ Gt W1 (rb + 1 + 1) rb N wr (rowP E cy (evC n k))) (fun v _ => L - (intOf v).toNat)
  case atStart => exact ⟨0, by omega, rfl, HG.out⟩
  case round =>
    rename World => wr
    obtain ⟨k, hk, rfl, hq⟩ := hrel
    have HQ : Hid (Gt W1 (rb + 1 + 1) rb N wr (rowP E cy (evC n k))) := hq
    clear hq HG
    by_cases hlt : k < L
    · have k1 : (k : Int) < (L : Int) := by omega
      have HX : Hid _ := gather_any W1 (rb + 1 + 1) (w.heap.size + 1) w.heap.size (rb + 1) rb n N E S pa L pc cy k (evC n k) wr HB.out HQ.out e1 e2 hn hlt (HF.out.1.c0 k hlt) (HF.out.1.c2 k hlt) (HF.out.1.c1 k hlt) HF.out.2 (by rw [evC_len]; have := Nat.mul_le_mul (show k ≤ 64 by omega) hn; omega)
      clear HQ
      go_wp2_with (first | (go_at_call 19; refine Calls.mono HX.out ?_; rintro e w2 ⟨rfl, hq⟩; have HQ : Hid (Gt W1 (rb + 1 + 1) rb N w2 (rowP E cy (evC n (k + 1)))) := (by rw [evC_succ]; exact hq); clear hq HX))
      go_roundw
      case rel => exact ⟨k + 1, by omega, by go_num, HQ.out⟩
      case measure => simp [intOf]; omega
    · obtain rfl : k = L := by omega
      have k1 : ¬ (k : Int) < (k : Int) := by omega
      have x2 := (HB.out.fr HQ.out.fr).v
      obtain ⟨f, hf⟩ := Rq.of HQ.out
      have HQ2 : Hid (Rq W1 wr (rb + 1 + 1) rb N f (rowP E cy (evC n k))) := hf
      clear hf HQ
      go_wp2_with fail
      clear x2
      go_loopw [34] (fun v wz => ∃ j : Nat, j ≤ N ∧ v = .int .i64 j ∧ Rq W1 wz (rb + 1 + 1) rb N f (fun c => if c < j then rowP E cy (evR k n) c else rowP E cy (evC n k) c)) (fun v _ => N - (intOf v).toNat)
      case atStart => exact ⟨0, by omega, rfl, HQ2.out⟩
      case round =>
        rename World => wz
        obtain ⟨j, hj, rfl, hq⟩ := hrel
        have HQ : Hid (Rq W1 wz (rb + 1 + 1) rb N f (fun c => if c < j then rowP E cy (evR k n) c else rowP E cy (evC n k) c)) := hq
        clear hq HQ2
        by_cases hjn : j < N
        · have j0 : (0 : Int) ≤ (j : Int) := by omega
          have j1 : (j : Int) < (N : Int) := by omega
          have x3 := HQ.out.c j hjn
          have HX : Hid _ := rise_row (E := E) (cy := cy) (L := k) (n := n) HQ.out hjn (by rw [if_neg (by omega)]) (by have := Nat.mul_le_mul hL hn; omega)
          clear HQ
          go_wp2_with (first | (go_at_call 20; refine Calls.mono HX.out ?_; rintro e w2 ⟨rfl, hq⟩; have HQ : Hid (Rq W1 w2 (rb + 1 + 1) rb N f (updR (fun c => if c < j then rowP E cy (evR k n) c else rowP E cy (evC n k) c) j (rowP E cy (evR k n) j))) := hq; clear hq HX x3))
          go_roundw
          case rel => exact ⟨j + 1, by omega, by go_num, by
            have e : updR (fun c => if c < j then rowP E cy (evR k n) c else rowP E cy (evC n k) c) j (rowP E cy (evR k n) j) = fun c => if c < j + 1 then rowP E cy (evR k n) c else rowP E cy (evC n k) c := by
              funext c
              unfold updR
              by_cases h : c = j
              · subst h; rw [if_pos rfl, if_pos (by omega)]
              · rw [if_neg h]; show (if c < j then _ else _) = _
                by_cases h2 : c < j
                · rw [if_pos h2, if_pos (by omega)]
                · rw [if_neg h2, if_neg (by omega)]
            rw [← e]; exact HQ.out⟩
          case measure => simp [intOf]; omega
        · obtain rfl : j = N := by omega
          have j1 : ¬ (j : Int) < (j : Int) := by omega
          have x2 := (HB.out.fr HQ.out.fr).v
          go_wp2_with fail
          go_ret
          refine ⟨_, rfl, ?_, ?_⟩
          · have h := HQ.out.fr.below (B := w.heap.size) (Nat.le_trans HU.out.size (Nat.le_refl _)) fun q hq e => by
              have := HR.out
              rcases e with e | e <;> omega
            exact HU.out.trans h
          · obtain ⟨a, cap, e3, h3, h4⟩ := HQ.out.rd.is
            refine ⟨a, cap, e3, h3, fun h0 => ?_⟩
            obtain ⟨b, o, eb, hb, hc⟩ := h4 h0
            refine ⟨b, o, eb, hb, fun c hcj => ?_⟩
            have := hc c hcj
            rw [if_pos hcj] at this
            exact this
end Go.Proofs.Ytnfnjhaaaenldaa.Ro
