/- Loop, and what the statements wake by (wakes), read off the program by the walk. Conditions: the list lies in memory, the variables as the program lays them. -/
import Derived.Test.YthdpgimdakmdgaaDoorEk
namespace Go.Proofs.YthdpgimdakmdgaaDoor.Dp
open Go.ChangeShapes Go.WideShapes Go.ChangeAt Go.RowKit
open _root_.Go.Proofs.YthdpgimdakmdgaaDoor.Op _root_.Go.Proofs.YthdpgimdakmdgaaDoor.So
open _root_.Go.Proofs.YthdpgimdakmdgaaDoor.Tb (Tab TabAt Bnds)
set_option maxRecDepth 20000

set_option maxHeartbeats 4000000 in
theorem loop_any (ao : Option Addr) (cap : Nat) (xs : List O) (t : Tab) (w : World) (h : OpsAt w ao xs) (hcap : xs.length ≤ cap) (hG : Bnds w) :
    Calls Tryd.prog 13 #[.slice ao xs.length cap, t.val] w (EdOut w (lisE t xs) (erE t xs (loopE t xs))) := by
  have HC : Hid (∀ W, Below w.heap.size w W → Calls Tryd.prog 22 #[.slice ao xs.length cap, t.val] W fun e w' => e = .returned (.int .i64 (lisE t xs)) ∧ Below W.heap.size W w') := fun W hb => lis_any ao cap xs t W (hG.below hb hG.big) (h.below hb)
  unfold erE
  by_cases he : lisE t xs = 0
  · rw [if_pos he]
    obtain ⟨ht, hn, hok⟩ := lis_all he
    have hpt := pts_ok t xs (fun o ho => ⟨h.ok o ho, okL_okO (hok o ho)⟩) ht
    have HN : Hid (∀ W, Below w.heap.size w W → Calls Tryd.prog 23 #[.slice ao xs.length cap, t.val] W fun e w' => e = .returned (.pointer (some ⟨W.heap.size + 1, 0, none⟩)) ∧ Fm W w' ao xs.length cap (ptsL t xs) (.slice none 0 0) []) := fun W hb => (new_any ao cap xs t W (h.below hb) (fun o ho => okL_okO (hok o ho)) hn).mono fun e w' h' => by
      obtain ⟨h1, vp, h2⟩ := h'
      exact ⟨h1, fm_of h2⟩
    have HWi : Hid (∀ W0 W ve es, Below w.heap.size w W0 → Fm W0 W ao xs.length cap (ptsL t xs) ve es → es.length ≤ 100000000 → Calls Tryd.prog 24 #[.pointer (some ⟨W0.heap.size + 1, 0, none⟩)] W fun r w' => r = .returned (.tuple #[]) ∧ ∃ ve', Fm W0 w' ao xs.length cap (ptsL t xs) ve' (es ++ withinE xs (ptsL t xs) xs.length)) := fun W0 W ve es hb hf hl => fm_within hf (h.below hb) hcap (ptsL_len t xs) hn hpt hl
    have HAc : Hid (∀ W0 W ve es, Below w.heap.size w W0 → Fm W0 W ao xs.length cap (ptsL t xs) ve es → es.length ≤ 100000000 → Calls Tryd.prog 25 #[.pointer (some ⟨W0.heap.size + 1, 0, none⟩)] W fun r w' => r = .returned (.tuple #[]) ∧ ∃ ve', Fm W0 w' ao xs.length cap (ptsL t xs) ve' (es ++ acrossE xs (ptsL t xs) xs.length)) := fun W0 W ve es hb hf hl => fm_across hf (h.below hb) (ptsL_len t xs) hn hpt hl
    have HWl : Hid ((withinE xs (ptsL t xs) xs.length).length ≤ 100000000) := Nat.le_trans (withinE_len _ _ _ hn) (by omega)
    rw [he] at HC ⊢
    clear h hcap hG hok hpt ht he
    unfold loopE
    generalize ptsL t xs = ps at *
    unfold Tab.val at *
    go_enter Tryd.func13, Tryd.ntmps13
    go_wp2_with (first
      | (go_at_call 22; refine Calls.mono (HC.out _ (by go_grown)) ?_; rintro e w1 ⟨rfl, hb⟩; have HT : Hid (Tc w w1 t) := Tc.start w t rfl hb; have s1 := HT.out.t; have tu0 := s1.cu 0 (by decide); have tu1 := s1.cu 1 (by decide); have tu2 := s1.cu 2 (by decide); have tu3 := s1.cu 3 (by decide); have tl0 := s1.cl 0 (by decide); have tl1 := s1.cl 1 (by decide); have tl2 := s1.cl 2 (by decide); have tl3 := s1.cl 3 (by decide); have tb0 := s1.cb 0 (by decide); have tb1 := s1.cb 1 (by decide); have tb2 := s1.cb 2 (by decide); have tb3 := s1.cb 3 (by decide); have td := s1.cd; have tl := s1.lt; clear hb s1 HC)
      | (go_at_call 23; refine Calls.mono (HN.out _ HT.out.up) ?_; rintro e w2 ⟨rfl, hf⟩; have HF : Hid (Fm w1 w2 ao xs.length cap ps (.slice none 0 0) []) := hf; clear hf HN tu0 tu1 tu2 tu3 tl0 tl1 tl2 tl3 tb0 tb1 tb2 tb3 td tl)
      | (go_at_call 24; refine Calls.mono (HWi.out w1 _ _ _ HT.out.up HF.out (by simp)) ?_; rintro e w3 ⟨rfl, ve, hf⟩; have HF4 : Hid (Fm w1 w3 ao xs.length cap ps ve (withinE xs ps xs.length)) := hf; clear hf HF HWi)
      | (go_at_call 25; refine Calls.mono (HAc.out w1 _ _ _ HT.out.up HF4.out HWl.out) ?_; rintro e w4 ⟨rfl, ve2, hf⟩; have HF3 : Hid (Fm w1 w4 ao xs.length cap ps ve2 (withinE xs ps xs.length ++ acrossE xs ps xs.length)) := hf; have c2 := hf.fe.c; have fl := hf.fe.lt; clear hf HF4 HAc))
    go_ret2
    obtain ⟨a, c, e, ho⟩ := eOwn_of HF3.out.fe.row (B' := w.heap.size) (by have := HT.out.up.size; omega)
    exact ⟨a, c, by rw [e]; rfl, ho, HT.out.up.trans (HF3.out.up.mono HT.out.up.size)⟩
  · rw [if_neg he]
    have he2 : (lisE t xs != 0) = true := by simpa using he
    generalize lisE t xs = er at *
    clear h hcap hG
    unfold Tab.val at *
    go_enter Tryd.func13, Tryd.ntmps13
    go_wp2_with (first
      | (go_at_call 22; refine Calls.mono (HC.out _ (by go_grown)) ?_; rintro e w1 ⟨rfl, hb⟩; have HT : Hid (Tc w w1 t) := Tc.start w t rfl hb; clear hb HC))
    go_ret2
    exact ⟨none, 0, rfl, World.ownsRow_nil _ _ _ _, HT.out.up⟩
theorem eOwn_at {B c : Nat} {w : World} {a : Option Addr} {es : List Ed} (h : EOwn B w a c es) {k : Nat} (hk : k < es.length) :
    ∃ b, a = some ⟨b, 0, none⟩ ∧ b < w.heap.size ∧ B ≤ b ∧ w.cell? ⟨b, k * 5, none⟩ = some (.int .i64 es[k].f) ∧ w.cell? ⟨b, k * 5 + 1, none⟩ = some (.int .i64 es[k].t) ∧ w.cell? ⟨b, k * 5 + 2, none⟩ = some (.int .i64 es[k].l) ∧ w.cell? ⟨b, k * 5 + 3, none⟩ = some (.int .i64 es[k].d) ∧ w.cell? ⟨b, k * 5 + 4, none⟩ = some (.int .i8 es[k].y) := by
  have h0 : w.ownsRow B 51 5 (.slice a es.length c) es.length (ecells es) := h
  rcases h0.2 with ⟨-, e⟩ | ⟨b, cap, cur, e, g1, -⟩
  · omega
  · injection e with e1 e2 e3
    subst e1
    have hb := (h0.lt b rfl).2
    have k5 : ∀ j, j < 5 → w.cell? ⟨b, k * 5 + j, none⟩ = es[k].cells[j]? := fun j hj => by
      rw [h0.cellAt _ (by have : k * 5 + j < (k + 1) * 5 := by omega
                          exact Nat.lt_of_lt_of_le this (Nat.mul_le_mul_right 5 hk)), ecells_at es k hk j hj]
    exact ⟨b, rfl, hb, g1, k5 0 (by omega), k5 1 (by omega), k5 2 (by omega), k5 3 (by omega), k5 4 (by omega)⟩
theorem EOwn.up {B c : Nat} {w w' : World} {a : Option Addr} {es : List Ed} (h : EOwn B w a c es) (hb : Below w.heap.size w w') : EOwn B w' a c es := row_up h hb
end Go.Proofs.YthdpgimdakmdgaaDoor.Dp
