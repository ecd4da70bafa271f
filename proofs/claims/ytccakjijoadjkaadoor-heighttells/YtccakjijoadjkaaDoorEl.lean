/- Loop, and what the statements wake by (wakes), read off the program by the walk. Conditions: the list lies in memory, the variables as the program lays them. -/
import Derived.Test.YtccakjijoadjkaaDoorEk
namespace Go.Proofs.YtccakjijoadjkaaDoor.Dp
open Go.ChangeShapes Go.WideShapes Go.ChangeAt Go.RowKit
open _root_.Go.Proofs.YtccakjijoadjkaaDoor.Op _root_.Go.Proofs.YtccakjijoadjkaaDoor.So
open _root_.Go.Proofs.YtccakjijoadjkaaDoor.Tb (Tab TabAt Bnds)
set_option maxRecDepth 20000

set_option maxHeartbeats 4000000 in
theorem loop_any (ao : Option Addr) (cap : Nat) (xs : List O) (t : Tab) (w : World) (h : OpsAt w ao xs) (hcap : xs.length ≤ cap) (hG : Bnds w) :
    Calls Tryd.prog 11 #[.slice ao xs.length cap, t.val] w (EdOut w (lisE t xs) (erE t xs (loopE t xs))) := by
  have HC : Hid (∀ W, Below w.heap.size w W → Calls Tryd.prog 29 #[.slice ao xs.length cap, t.val] W fun e w' => e = .returned (.int .i64 (lisE t xs)) ∧ Below W.heap.size W w') := fun W hb => lis_any ao cap xs t W (hG.below hb hG.big) (h.below hb)
  unfold erE
  by_cases he : lisE t xs = 0
  · rw [if_pos he]
    obtain ⟨ht, hn, hok⟩ := lis_all he
    have hpt := pts_ok t xs (fun o ho => ⟨h.ok o ho, okL_okO (hok o ho)⟩) ht
    have HN : Hid (∀ W, Below w.heap.size w W → Calls Tryd.prog 30 #[.slice ao xs.length cap, t.val] W fun e w' => e = .returned (.pointer (some ⟨W.heap.size + 1, 0, none⟩)) ∧ Fm W w' ao xs.length cap (ptsL t xs) (.slice none 0 0) []) := fun W hb => (new_any ao cap xs t W (h.below hb) (fun o ho => okL_okO (hok o ho)) hn).mono fun e w' h' => by
      obtain ⟨h1, vp, h2⟩ := h'
      exact ⟨h1, fm_of h2⟩
    have HWi : Hid (∀ W0 W ve es, Below w.heap.size w W0 → Fm W0 W ao xs.length cap (ptsL t xs) ve es → es.length ≤ 100000000 → Calls Tryd.prog 31 #[.pointer (some ⟨W0.heap.size + 1, 0, none⟩)] W fun r w' => r = .returned (.tuple #[]) ∧ ∃ ve', Fm W0 w' ao xs.length cap (ptsL t xs) ve' (es ++ withinE xs (ptsL t xs) xs.length)) := fun W0 W ve es hb hf hl => fm_within hf (h.below hb) hcap (ptsL_len t xs) hn hpt hl
    have HAc : Hid (∀ W0 W ve es, Below w.heap.size w W0 → Fm W0 W ao xs.length cap (ptsL t xs) ve es → es.length ≤ 100000000 → Calls Tryd.prog 37 #[.pointer (some ⟨W0.heap.size + 1, 0, none⟩)] W fun r w' => r = .returned (.tuple #[]) ∧ ∃ ve', Fm W0 w' ao xs.length cap (ptsL t xs) ve' (es ++ acrossE xs (ptsL t xs) xs.length)) := fun W0 W ve es hb hf hl => fm_across hf (h.below hb) (ptsL_len t xs) hn hpt hl
    have HWl : Hid ((withinE xs (ptsL t xs) xs.length).length ≤ 100000000) := Nat.le_trans (withinE_len _ _ _ hn) (by omega)
    rw [he] at HC ⊢
    clear h hcap hG hok hpt ht he
    unfold loopE
    generalize ptsL t xs = ps at *
    unfold Tab.val at *
    go_enter Tryd.func11, Tryd.ntmps11
    go_wp2_with (first
      | (go_at_call 29; refine Calls.mono (HC.out _ (by go_grown)) ?_; rintro e w1 ⟨rfl, hb⟩; have HT : Hid (Tc w w1 t) := Tc.start w t rfl hb; have s1 := HT.out.t; have tu0 := s1.cu 0 (by decide); have tu1 := s1.cu 1 (by decide); have tu2 := s1.cu 2 (by decide); have tu3 := s1.cu 3 (by decide); have tl0 := s1.cl 0 (by decide); have tl1 := s1.cl 1 (by decide); have tl2 := s1.cl 2 (by decide); have tl3 := s1.cl 3 (by decide); have tb0 := s1.cb 0 (by decide); have tb1 := s1.cb 1 (by decide); have tb2 := s1.cb 2 (by decide); have tb3 := s1.cb 3 (by decide); have td := s1.cd; have tl := s1.lt; clear hb s1 HC)
      | (go_at_call 30; refine Calls.mono (HN.out _ HT.out.up) ?_; rintro e w2 ⟨rfl, hf⟩; have HF : Hid (Fm w1 w2 ao xs.length cap ps (.slice none 0 0) []) := hf; clear hf HN tu0 tu1 tu2 tu3 tl0 tl1 tl2 tl3 tb0 tb1 tb2 tb3 td tl)
      | (go_at_call 31; refine Calls.mono (HWi.out w1 _ _ _ HT.out.up HF.out (by simp)) ?_; rintro e w3 ⟨rfl, ve, hf⟩; have HF4 : Hid (Fm w1 w3 ao xs.length cap ps ve (withinE xs ps xs.length)) := hf; clear hf HF HWi)
      | (go_at_call 37; refine Calls.mono (HAc.out w1 _ _ _ HT.out.up HF4.out HWl.out) ?_; rintro e w4 ⟨rfl, ve2, hf⟩; have HF3 : Hid (Fm w1 w4 ao xs.length cap ps ve2 (withinE xs ps xs.length ++ acrossE xs ps xs.length)) := hf; have c2 := hf.fe.c; have fl := hf.fe.lt; clear hf HF4 HAc))
    go_ret2
    obtain ⟨a, c, e, ho⟩ := eOwn_of HF3.out.fe.row (B' := w.heap.size) (by have := HT.out.up.size; omega)
    exact ⟨a, c, by rw [e]; rfl, ho, HT.out.up.trans (HF3.out.up.mono HT.out.up.size)⟩
  · rw [if_neg he]
    have he2 : (lisE t xs != 0) = true := by simpa using he
    generalize lisE t xs = er at *
    clear h hcap hG
    unfold Tab.val at *
    go_enter Tryd.func11, Tryd.ntmps11
    go_wp2_with (first
      | (go_at_call 29; refine Calls.mono (HC.out _ (by go_grown)) ?_; rintro e w1 ⟨rfl, hb⟩; have HT : Hid (Tc w w1 t) := Tc.start w t rfl hb; clear hb HC))
    go_ret2
    exact ⟨none, 0, rfl, World.ownsRow_nil _ _ _ _, HT.out.up⟩
theorem eOwn_at {B c : Nat} {w : World} {a : Option Addr} {es : List Ed} (h : EOwn B w a c es) {k : Nat} (hk : k < es.length) :
    ∃ b, a = some ⟨b, 0, none⟩ ∧ b < w.heap.size ∧ B ≤ b ∧ w.cell? ⟨b, k * 5, none⟩ = some (.int .i64 es[k].f) ∧ w.cell? ⟨b, k * 5 + 1, none⟩ = some (.int .i64 es[k].t) ∧ w.cell? ⟨b, k * 5 + 2, none⟩ = some (.int .i64 es[k].l) ∧ w.cell? ⟨b, k * 5 + 3, none⟩ = some (.int .i64 es[k].d) ∧ w.cell? ⟨b, k * 5 + 4, none⟩ = some (.int .i8 es[k].y) := by
  have h0 : w.ownsRow B 38 5 (.slice a es.length c) es.length (ecells es) := h
  rcases h0.2 with ⟨-, e⟩ | ⟨b, cap, cur, e, g1, -⟩
  · omega
  · injection e with e1 e2 e3
    subst e1
    have hb := (h0.lt b rfl).2
    have k5 : ∀ j, j < 5 → w.cell? ⟨b, k * 5 + j, none⟩ = es[k].cells[j]? := fun j hj => by
      rw [h0.cellAt _ (by have : k * 5 + j < (k + 1) * 5 := by omega
                          exact Nat.lt_of_lt_of_le this (Nat.mul_le_mul_right 5 hk)), ecells_at es k hk j hj]
    exact ⟨b, rfl, hb, g1, k5 0 (by omega), k5 1 (by omega), k5 2 (by omega), k5 3 (by omega), k5 4 (by omega)⟩
theorem EOwn.up {B c : Nat} {w w' : World} {a : Option Addr} {es : List Ed} (h : EOwn B w a c es) (hb : Below w.heap.size w w') : EOwn B w' a c es := row_up h hb
/-- The list and the table that the statements wake by. -/
def wl : List O := [⟨1, 1, 0, 0, 0⟩, ⟨12, 2, 1, 1, 0⟩, ⟨2, 1, 2, 1, 0⟩, ⟨17, 0, 1, 0, 0⟩]
def wt4 : Tab := ⟨fun _ => 1, fun k => if k = 1 then 3 else if k = 2 then 2 else 1, fun _ => 1, 0⟩
theorem wl_ok : ∀ o ∈ wl, o.Ok := fun o h => by
  simp only [wl, List.mem_cons, List.not_mem_nil, or_false] at h
  rcases h with rfl | rfl | rfl | rfl <;> constructor <;> decide
theorem wl_lis : lisE wt4 wl = 0 := by decide
theorem wl_len : (ofE wt4 wl).length = 6 := by kernel_rfl
theorem wl_0 : (ofE wt4 wl)[0]? = some ⟨0, 1, 1, 0, 0⟩ := by kernel_rfl
theorem wl_3 : (ofE wt4 wl)[3]? = some ⟨1, 2, 3, 0, 0⟩ := by kernel_rfl
abbrev wlC : Array Value := #[.int .i8 1, .int .u8 1, .int .u8 0, .int .u8 0, .int .i64 0, .int .i8 12, .int .u8 2, .int .u8 1, .int .u8 1, .int .i64 0, .int .i8 2, .int .u8 1, .int .u8 2, .int .u8 1, .int .i64 0, .int .i8 17, .int .u8 0, .int .u8 1, .int .u8 0, .int .i64 0]
theorem wl_at (w : World) (t : TypeId) : OpsAt (w.alloc (.cells wlC t)) (some ⟨w.heap.size, 0, none⟩) wl := by
  have h := At.new w wlC t
  refine ⟨wl_ok, by decide, fun _ => ⟨w.heap.size, 0, rfl, h.lt, fun i hi => ?_⟩⟩
  have hi : i < 4 := hi
  match i, hi with
  | 0, _ => exact ⟨h.c 0 _ rfl, h.c 1 _ rfl, h.c 2 _ rfl, h.c 3 _ rfl, h.c 4 _ rfl⟩
  | 1, _ => exact ⟨h.c 5 _ rfl, h.c 6 _ rfl, h.c 7 _ rfl, h.c 8 _ rfl, h.c 9 _ rfl⟩
  | 2, _ => exact ⟨h.c 10 _ rfl, h.c 11 _ rfl, h.c 12 _ rfl, h.c 13 _ rfl, h.c 14 _ rfl⟩
  | 3, _ => exact ⟨h.c 15 _ rfl, h.c 16 _ rfl, h.c 17 _ rfl, h.c 18 _ rfl, h.c 19 _ rfl⟩
set_option maxHeartbeats 4000000 in
theorem wakes_any (w : World) (hG : Bnds w) : Calls Tryd.prog 14 #[] w fun e w' => e = .returned (.bool true) ∧ Below w.heap.size w w' := by
  have HF : Hid (∀ W, Below w.heap.size w W → OpsAt W (some ⟨w.heap.size, 0, none⟩) wl → Calls Tryd.prog 9 #[.slice (some ⟨w.heap.size, 0, none⟩) 4 4, .agg #[.int .i64 1, .int .i64 1, .int .i64 1, .int .i64 1, .int .i64 1, .int .i64 3, .int .i64 2, .int .i64 1, .int .i64 1, .int .i64 1, .int .i64 1, .int .i64 1, .int .i64 0]] W fun e w' => ∃ b c, e = .returned (.tuple #[.slice (some ⟨b, 0, none⟩) 6 c, .int .i64 0]) ∧ b < w'.heap.size ∧ (w'.cell? ⟨b, 0, none⟩ = some (.int .i64 0) ∧ w'.cell? ⟨b, 1, none⟩ = some (.int .i64 1) ∧ w'.cell? ⟨b, 2, none⟩ = some (.int .i64 1) ∧ w'.cell? ⟨b, 3, none⟩ = some (.int .i64 0) ∧ w'.cell? ⟨b, 4, none⟩ = some (.int .i8 0)) ∧ (w'.cell? ⟨b, 15, none⟩ = some (.int .i64 1) ∧ w'.cell? ⟨b, 16, none⟩ = some (.int .i64 2) ∧ w'.cell? ⟨b, 17, none⟩ = some (.int .i64 3) ∧ w'.cell? ⟨b, 18, none⟩ = some (.int .i64 0) ∧ w'.cell? ⟨b, 19, none⟩ = some (.int .i8 0)) ∧ Below W.heap.size W w') := fun W hb ho => by
    refine (of_any _ 4 wl wt4 W ho (by decide) (hG.below hb hG.big)).mono ?_
    rintro e w' ⟨a, c, rfl, h1, h2⟩
    have e1 : erE wt4 wl (ofE wt4 wl) = ofE wt4 wl := by unfold erE; rw [if_pos wl_lis]
    rw [e1] at h1 ⊢
    have hl := wl_len
    obtain ⟨b, rfl, l1, -, f0, f1, f2, f3, f4⟩ := eOwn_at h1 (k := 0) (by omega)
    obtain ⟨b', e, -, -, g0, g1, g2, g3, g4⟩ := eOwn_at h1 (k := 3) (by omega)
    cases e
    have i0 : (ofE wt4 wl)[0]'(by omega) = ⟨0, 1, 1, 0, 0⟩ := by have := wl_0; rw [List.getElem?_eq_getElem (by omega)] at this; exact Option.some.inj this
    have i3 : (ofE wt4 wl)[3]'(by omega) = ⟨1, 2, 3, 0, 0⟩ := by have := wl_3; rw [List.getElem?_eq_getElem (by omega)] at this; exact Option.some.inj this
    rw [i0] at f0 f1 f2 f3 f4
    rw [i3] at g0 g1 g2 g3 g4
    exact ⟨b, c, by rw [hl, wl_lis], l1, ⟨f0, f1, f2, f3, f4⟩, ⟨g0, g1, g2, g3, g4⟩, h2⟩
  have HW : Hid (OpsAt (w.alloc (.cells wlC 40)) (some ⟨w.heap.size, 0, none⟩) wl) := wl_at w 40
  clear hG
  go_enter Tryd.func14, Tryd.ntmps14
  go_wp2_with (first
    | (go_at_call 9; refine Calls.mono (HF.out _ (by go_grown) (HW.out.below (by go_grown))) ?_; rintro e w1 ⟨b, c, rfl, bl, ⟨f0, f1, f2, f3, f4⟩, ⟨g0, g1, g2, g3, g4⟩, hb⟩; have HB : Hid (Below w.heap.size w w1) := Below.trans (by go_grown) (hb.mono (by simp; omega)); clear hb HF HW))
  go_ret
  exact ⟨rfl, HB.out⟩
end Go.Proofs.YtccakjijoadjkaaDoor.Dp
