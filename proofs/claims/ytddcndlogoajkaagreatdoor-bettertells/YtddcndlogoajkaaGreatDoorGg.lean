/- A block folded in its place (foldBlock): read off the program by the walk. Conditions: the program has lists of its own; the block is a program's. -/
import Derived.Test.YtddcndlogoajkaaGreatDoorGe
import Derived.Deep.RegionHeld
import Derived.Deep.RegionHeld3
namespace Go.Proofs.YtddcndlogoajkaaGreatDoor.L8.Bt
open Go.ChangeShapes Go.WideShapes Go.ChangeAt Go.RowKit Go.Great
open _root_.Go.Proofs.YtddcndlogoajkaaGreatDoor.L8.Op _root_.Go.Proofs.YtddcndlogoajkaaGreatDoor.L8.So
open _root_.Go.Proofs.YtddcndlogoajkaaGreatDoor.L8.Lv (rdL wOf PsOk)
set_option maxRecDepth 20000

theorem turn_any (oa ba : Option Addr) (on oc bn bc : Nat) (f a t e v : Int) (w : World) :
    Calls Tryz.prog 37 #[.agg #[.slice oa on oc, .int .i8 f, .int .u8 a, .slice ba bn bc, .int .i64 t, .int .i64 e], .int .i64 v] w fun r w' => r = .returned (.int .i64 (if v = 0 then e else t)) ∧ Below w.heap.size w w' := by
  have hb : Below w.heap.size w (w.alloc (.cells #[.slice oa on oc, .int .i8 f, .int .u8 a, .slice ba bn bc, .int .i64 t, .int .i64 e] 49)) := below_al _
  have HB : Hid _ := hb
  clear hb
  by_cases h : v = 0
  · subst h
    simp only [if_true]
    go_enter Tryz.func37, Tryz.ntmps37
    go_wp2
    go_ret
    exact ⟨rfl, HB.out⟩
  · rw [if_neg h]
    have h' : (v == 0) = false := by simpa using h
    go_enter Tryz.func37, Tryz.ntmps37
    go_wp2
    go_ret
    exact ⟨rfl, HB.out⟩
/-- A block's cells and its lists while it is folded: os, bs as they stand; K: what is known at the end of Ops, in block q. -/
structure Fb (W W' : World) (g k : Nat) (x : Bk) (p : Pl) (os bs : List O) (X : Nat → Prop) : Prop where
  c : BAt W' g (k * 6) x p
  o : Oz W' p.oa os
  b : Oz W' p.ba bs
  f : Fr X W W'
  lt : g < W'.heap.size
  z : ∀ j : Nat, W'.frozen? ⟨g, j, none⟩ = false
theorem Fb.next {W W' W2 : World} {g k : Nat} {x : Bk} {p : Pl} {os bs : List O} {X : Nat → Prop} (h : Fb W W' g k x p os bs X) (hb : Below W'.heap.size W' W2) : Fb W W2 g k x p os bs X :=
  ⟨h.c.below hb h.lt, h.o.below hb, h.b.below hb, h.f.then hb, Nat.lt_of_lt_of_le h.lt hb.size, fun j => by rw [(bcell hb).2 _ _ h.lt]; exact h.z j⟩
theorem lk_len {a : Option Addr} {xs ys : List O} {j : Nat} (h : Lk a xs j) (e : ys.length = xs.length) : Lk a ys j := ⟨by rw [e]; exact h.1, h.2⟩
/-- One block of a program of lists of its own has turned. -/
theorem Pr.put {w w' : World} {z g : Nat} {own : Nat → Nat} {qs : List Bk} (h : Pr w z own g qs) {k : Nat} (_hk : k < qs.length) {X : Nat → Prop} (hF : Fr X w w') (hX : ∀ j, X j → j = g ∨ own j = 2 + 2 * k ∨ own j = 3 + 2 * k)
    (hc : ∀ j, (j < k * 6 ∨ k * 6 + 6 ≤ j) → w'.cell? ⟨g, j, none⟩ = w.cell? ⟨g, j, none⟩) (hz : ∀ j : Nat, w'.frozen? ⟨g, j, none⟩ = false) {x' : Bk} {p' : Pl} (hb : BAt w' g (k * 6) x' p') (hl : x'.ops.length ≤ p'.oc) (h1 : Oz w' p'.oa x'.ops) (h2 : Oz w' p'.ba x'.body)
    (h3 : ∀ j, Lk p'.oa x'.ops j → own j = 2 + 2 * k) (h4 : ∀ j, Lk p'.ba x'.body j → own j = 3 + 2 * k) (hok : x'.Ok ∧ (∀ o ∈ x'.ops, o.Ok) ∧ (∀ o ∈ x'.body, o.Ok) ∧ x'.ops.length ≤ 8192 ∧ x'.body.length ≤ 8192) : Pr w' z own g (qs.set k x') := by
  have hg1 := h.g1
  refine ⟨h.old, h.g1, Nat.lt_of_lt_of_le h.lt hF.size, hz, by simpa using h.n, fun x hx => ?_, fun i hi => ?_⟩
  · rcases List.mem_or_eq_of_mem_set hx with hm | rfl
    · exact h.ok x hm
    · exact hok
  · have hi' : i < qs.length := by simpa using hi
    by_cases e : k = i
    · subst e
      simp only [List.getElem_set_self]
      exact ⟨p', hb, hl, h1, h2, h3, h4⟩
    · simp only [List.getElem_set_ne e]
      obtain ⟨p, b1, b2, b3, b4, b5, b6⟩ := h.is i hi'
      have key : ∀ d u, d < 6 → w.cell? ⟨g, i * 6 + d, none⟩ = some u → w'.cell? ⟨g, i * 6 + d, none⟩ = some u := fun d u hd q => by rw [hc _ (by omega)]; exact q
      refine ⟨p, ⟨key 0 _ (by omega) b1.c0, key 1 _ (by omega) b1.c1, key 2 _ (by omega) b1.c2, key 3 _ (by omega) b1.c3, key 4 _ (by omega) b1.c4, key 5 _ (by omega) b1.c5⟩, b2, b3.fr hF fun j q x => ?_, b4.fr hF fun j q x => ?_, b5, b6⟩
      · have := b5 j q
        rcases hX j x with r | r | r
        · subst r; omega
        · omega
        · omega
      · have := b6 j q
        rcases hX j x with r | r | r
        · subst r; omega
        · omega
        · omega
end Go.Proofs.YtddcndlogoajkaaGreatDoor.L8.Bt
namespace Go.Proofs.YtddcndlogoajkaaGreatDoor.L8.Bt
open Go.ChangeShapes Go.WideShapes Go.ChangeAt Go.RowKit Go.Great
open _root_.Go.Proofs.YtddcndlogoajkaaGreatDoor.L8.Op _root_.Go.Proofs.YtddcndlogoajkaaGreatDoor.L8.So
open _root_.Go.Proofs.YtddcndlogoajkaaGreatDoor.L8.Lv (rdL wOf PsOk)
set_option maxRecDepth 20000

theorem lk_old {W : World} {a : Option Addr} {xs : List O} {j : Nat} (h : Oz W a xs) (q : Lk a xs j) : j < W.heap.size := by
  obtain ⟨h0, b, rfl, rfl⟩ := q
  obtain ⟨b', e, ho⟩ := h h0
  injection e with e; injection e with e _
  rw [e]; exact ho.lt
theorem setCells_size (b : Nat) : ∀ (vs : List Value) (o : Nat) (w : World), (w.setCells b o vs).heap.size = w.heap.size
  | [], _, _ => rfl
  | v :: r, o, w => by rw [World.setCells, setCells_size b r]; simp
/-- The facts, laid at the end of memory. -/
theorem fk_laid (w : World) (K : Kn) (t : TypeId) : Fk ((w.alloc (.cells (fA kn0) t)).setCells w.heap.size 0 (fA K).toList) w.heap.size K ∧ Below w.heap.size w ((w.alloc (.cells (fA kn0) t)).setCells w.heap.size 0 (fA K).toList) := by
  have h := Op.At.new w (fA kn0) t
  have hb : Below w.heap.size w (w.alloc (.cells (fA kn0) t)) := below_al _
  have hc : ∀ j, j < (fA K).toList.length → ((w.alloc (.cells (fA kn0) t)).cell? ⟨w.heap.size, 0 + j, none⟩).isSome = true := fun j hj => by
    rw [fA_len] at hj
    rw [Nat.zero_add, h.c j _ (fA_get kn0 j hj)]; rfl
  have hi : ∀ (j : Nat) (hj : j < 64), ((w.alloc (.cells (fA kn0) t)).setCells w.heap.size 0 (fA K).toList).cell? ⟨w.heap.size, j, none⟩ = some (fF K j) := fun j hj => by
    have hl : j < (fA K).toList.length := by rw [fA_len]; exact hj
    have := World.cell?_setCells_in w.heap.size (fA K).toList 0 _ hc j hl
    rw [Nat.zero_add] at this
    rw [this]
    have h2 := fA_get K j hj
    rw [← Array.getElem?_toList, List.getElem?_eq_getElem hl] at h2
    exact h2
  refine ⟨⟨by rw [setCells_size]; exact h.lt, fun j => by rw [World.frozen?_setCells]; exact h.f j, fun r hr => ?_, fun r hr => ?_⟩, hb.trans ((fr_setCells (X := One w.heap.size) rfl _ _ (Fr.refl _ _)).below hb.size fun k hk q => by have q : k = w.heap.size := q; omega)⟩
  · rw [hi _ (by omega)]
    unfold fF
    rw [if_pos (by omega), show r * 2 / 2 = r by omega]
  · rw [hi _ (by omega)]
    unfold fF
    rw [if_neg (by omega), show (r * 2 + 1) / 2 = r by omega]
theorem facts_there (w : World) (t : TypeId) : (w.alloc (.cells (fA kn0) t)).there w.heap.size 0 64 := fun j hj => by
  have h := Op.At.new w (fA kn0) t
  rw [Nat.zero_add]
  exact ⟨by rw [h.c j _ (fA_get _ j hj)]; rfl, h.f j⟩
set_option maxHeartbeats 8000000 in
theorem foldBlock_any {W : World} {z g : Nat} {own : Nat → Nat} {qs : List Bk} {n : Nat} (h : Pr W z own g qs) {k : Nat} (hk : k < qs.length) (hb : BkOk qs[k] n) :
    Calls Tryz.prog 20 #[.pointer (some ⟨g, k * 6, none⟩)] W fun e w' => e = .returned (.tuple #[]) ∧ Pr w' z own g (qs.set k (fdBk qs[k])) ∧ Fr (fun j => own j ≠ 0) W w' := by
  obtain ⟨p, hbat, hcap, hozo, hozb, hlo, hlb⟩ := h.is k hk
  obtain ⟨-, -, -, hl8, hb8⟩ := h.ok _ (List.getElem_mem hk)
  have hH := h
  have hkn := fdK_in kn0 qs[k].ops kin0 hb.o
  have hreg : qs[k].fin = 1 → qs[k].a < 32 := fun q => Lv.end_reg hb.e (by omega)
  have hxa0 := hb.ok.a0
  have hbk := hb
  generalize hx : qs[k] = x at *
  obtain ⟨xo, xf, xa, xb, xt, xe⟩ := x
  obtain ⟨oa, oc, ba, bc⟩ := p
  simp only at hbat hcap hozo hozb hlo hlb hl8 hb8 hkn hreg hxa0
  obtain ⟨X, hX⟩ : ∃ X : Nat → Prop, X = fun j => Lk oa xo j ∨ Lk ba xb j := ⟨_, rfl⟩
  have hXo : ∀ j, X j → own j = 2 + 2 * k ∨ own j = 3 + 2 * k := fun j q => by
    rw [hX] at q
    exact q.imp (hlo j) (hlb j)
  have hXg : ¬ X g := fun q => by have := hXo g q; have := h.g1; omega
  have HFo : Hid (Calls Tryz.prog 36 #[.slice oa xo.length oc] W fun e w' => e = .returned (.agg (fA (fdK kn0 xo))) ∧ Fb W w' g k ⟨xo, xf, xa, xb, xt, xe⟩ ⟨oa, oc, ba, bc⟩ (fdL kn0 xo) xb X) := by
    refine (foldList_any oa oc xo W hozo hbk.o hl8).mono ?_
    rintro e w' ⟨rfl, h1, h2⟩
    have hg : ¬ Lk oa xo g := fun q => hXg (by rw [hX]; exact .inl q)
    exact ⟨rfl, BAt.fr hbat h2 h.lt hg, h1, hozb.fr h2 fun j q1 q2 => by have := hlb j q1; have := hlo j q2; omega, h2.mono fun j _ q => by rw [hX]; exact .inl q, Nat.lt_of_lt_of_le h.lt h2.size, fun j => by rw [h2.frozen h.lt hg]; exact h.fz j⟩
  have HFb : Hid (∀ W2, Fb W W2 g k ⟨xo, xf, xa, xb, xt, xe⟩ ⟨oa, oc, ba, bc⟩ (fdL kn0 xo) xb X → Calls Tryz.prog 36 #[.slice ba xb.length bc] W2 fun e w' => e = .returned (.agg (fA (fdK kn0 xb))) ∧ Fb W w' g k ⟨xo, xf, xa, xb, xt, xe⟩ ⟨oa, oc, ba, bc⟩ (fdL kn0 xo) (fdL kn0 xb) X ∧ Fr (Lk ba xb) W2 w') := fun W2 h3 => by
    refine (foldList_any ba bc xb W2 h3.b hbk.b hb8).mono ?_
    rintro e w' ⟨rfl, h1, h2⟩
    have hg : ¬ Lk ba xb g := fun q => hXg (by rw [hX]; exact .inr q)
    refine ⟨rfl, ⟨BAt.fr h3.c h2 h3.lt hg, h3.o.fr h2 fun j q1 q2 => ?_, h1, h3.f.trans h2 fun j _ q => by rw [hX]; exact .inr q, Nat.lt_of_lt_of_le h3.lt h2.size, fun j => by rw [h2.frozen h3.lt hg]; exact h3.z j⟩, h2⟩
    have := hlo j (lk_len q1 (fdL_len kn0 xo).symm)
    have := hlb j q2
    omega
  have hKq : ∀ W' w', (∀ j, Lk ba xb j → j < W'.heap.size) → Fr (Lk ba xb) W' w' → True := fun _ _ _ _ => trivial
  have hold : ∀ j, Lk ba xb j → j < W.heap.size := fun j q => lk_old hozb q
  have HOld : Hid _ := hold
  have own0 : ∀ j, (X j ∨ j = g) → own j ≠ 0 := fun j q => by
    have := h.g1
    rcases q with q | rfl
    · have := hXo j q; omega
    · omega
  have HP1 : Hid (brK ⟨xo, xf, xa, xb, xt, xe⟩ = false → ∀ w', Fb W w' g k ⟨xo, xf, xa, xb, xt, xe⟩ ⟨oa, oc, ba, bc⟩ (fdL kn0 xo) (fdL kn0 xb) X → Pr w' z own g (qs.set k (fdBk ⟨xo, xf, xa, xb, xt, xe⟩)) ∧ Fr (fun j => own j ≠ 0) W w') := fun hbr w' h3 => by
    have e : fdBk ⟨xo, xf, xa, xb, xt, xe⟩ = ⟨fdL kn0 xo, xf, xa, fdL kn0 xb, xt, xe⟩ := by unfold fdBk; rw [hbr, if_neg (by simp)]
    rw [e]
    obtain ⟨c0, c1, c2, c3, c4, c5⟩ := h3.c
    refine ⟨hH.put hk h3.f (fun j q => .inr (hXo j q)) (fun j _ => h3.f.cell hH.lt hXg j) h3.z (p' := ⟨oa, oc, ba, bc⟩) ⟨by rw [c0, fdL_len], c1, c2, by rw [c3, fdL_len], c4, c5⟩ (by rw [fdL_len]; exact hcap) h3.o h3.b (fun j q => hlo j (lk_len q (fdL_len kn0 xo).symm)) (fun j q => hlb j (lk_len q (fdL_len kn0 xb).symm)) ⟨⟨hbk.ok.f0, hbk.ok.f1, hbk.ok.a0, hbk.ok.a1, hbk.ok.t0, hbk.ok.t1, hbk.ok.e0, hbk.ok.e1⟩, fun o q => (fdL_ok kn0 xo hbk.o o q).1, fun o q => (fdL_ok kn0 xb hbk.b o q).1, by rw [fdL_len]; exact hl8, by rw [fdL_len]; exact hb8⟩, h3.f.mono fun j _ q => own0 j (.inl q)⟩
  have HP2 : Hid (brK ⟨xo, xf, xa, xb, xt, xe⟩ = true → ∀ w' r, wayK ⟨xo, xf, xa, xb, xt, xe⟩ = r → Fb W w' g k ⟨xo, xf, xa, xb, xt, xe⟩ ⟨oa, oc, ba, bc⟩ (fdL kn0 xo) (fdL kn0 xb) X → Pr ((((((w'.setCell ⟨g, k * 6, none⟩ (.slice oa xo.length oc)).setCell ⟨g, k * 6 + 1, none⟩ (.int .i8 0)).setCell ⟨g, k * 6 + 2, none⟩ (.int .u8 0)).setCell ⟨g, k * 6 + 3, none⟩ (.slice none 0 0)).setCell ⟨g, k * 6 + 4, none⟩ (.int .i64 r)).setCell ⟨g, k * 6 + 5, none⟩ (.int .i64 0)) z own g (qs.set k (fdBk ⟨xo, xf, xa, xb, xt, xe⟩)) ∧ Fr (fun j => own j ≠ 0) W ((((((w'.setCell ⟨g, k * 6, none⟩ (.slice oa xo.length oc)).setCell ⟨g, k * 6 + 1, none⟩ (.int .i8 0)).setCell ⟨g, k * 6 + 2, none⟩ (.int .u8 0)).setCell ⟨g, k * 6 + 3, none⟩ (.slice none 0 0)).setCell ⟨g, k * 6 + 4, none⟩ (.int .i64 r)).setCell ⟨g, k * 6 + 5, none⟩ (.int .i64 0))) := fun hbr w' r hr h3 => by
    have e : fdBk ⟨xo, xf, xa, xb, xt, xe⟩ = ⟨fdL kn0 xo, 0, 0, [], r, 0⟩ := by unfold fdBk; rw [hbr, if_pos rfl, hr]
    have hway : 0 ≤ r ∧ r ≤ 9223372036854775807 := by
      simp only [brK, Bool.and_eq_true, decide_eq_true_eq] at hbr
      rw [← hr]
      unfold wayK
      have t0 := Lv.end_thn hbk.e (by simp only; omega)
      have t1 := Lv.end_els hbk.e hbr.1
      have := hbk.ok.t1
      have := hbk.ok.e1
      simp only at t0 t1 this
      split
      · exact ⟨t1.1, hbk.ok.e1⟩
      · exact ⟨t0.1, hbk.ok.t1⟩
    rw [e]
    obtain ⟨c0, c1, c2, c3, c4, c5⟩ := h3.c
    have hF := (((((h3.f.mono (Y := fun j => X j ∨ j = g) fun j _ q => .inl q).setCell (b := g) (.inr (.inr rfl)) (k * 6) (.slice oa xo.length oc)).setCell (b := g) (.inr (.inr rfl)) (k * 6 + 1) (.int .i8 0)).setCell (b := g) (.inr (.inr rfl)) (k * 6 + 2) (.int .u8 0)).setCell (b := g) (.inr (.inr rfl)) (k * 6 + 3) (.slice none 0 0)).setCell (b := g) (.inr (.inr rfl)) (k * 6 + 4) (.int .i64 r) |>.setCell (b := g) (.inr (.inr rfl)) (k * 6 + 5) (.int .i64 0)
    have hG := (((((Fr.refl (One g) w').setCell (b := g) (.inr rfl) (k * 6) (.slice oa xo.length oc)).setCell (b := g) (.inr rfl) (k * 6 + 1) (.int .i8 0)).setCell (b := g) (.inr rfl) (k * 6 + 2) (.int .u8 0)).setCell (b := g) (.inr rfl) (k * 6 + 3) (.slice none 0 0)).setCell (b := g) (.inr rfl) (k * 6 + 4) (.int .i64 r) |>.setCell (b := g) (.inr rfl) (k * 6 + 5) (.int .i64 0)
    refine ⟨hH.put hk hF (fun j q => q.elim (fun q => .inr (hXo j q)) .inl) (fun j q => ?_) (fun j => ?_) (p' := ⟨oa, oc, none, 0⟩) ⟨?_, ?_, ?_, ?_, ?_, ?_⟩ (by rw [fdL_len]; exact hcap) (h3.o.fr hG fun j q1 q2 => ?_) (fun q => by simp at q) (fun j q => hlo j (lk_len q (fdL_len kn0 xo).symm)) (fun j q => by have := q.1; simp at this) ⟨⟨by simp, by simp, by simp, by simp, hway.1 |> fun q => by simp only; omega, hway.2, by simp, by simp⟩, fun o q => (fdL_ok kn0 xo hbk.o o q).1, fun o q => by simp at q, by rw [fdL_len]; exact hl8, by simp⟩, hF.mono fun j _ q => own0 j q⟩
    · rw [co (by omega), co (by omega), co (by omega), co (by omega), co (by omega), co (by omega)]; exact h3.f.cell hH.lt hXg j
    · simp only [World.frozen?_setCell]; exact h3.z j
    · rw [co (by omega), co (by omega), co (by omega), co (by omega), co (by omega), cs c0, fdL_len]
    · rw [co (by omega), co (by omega), co (by omega), co (by omega), cs ((co (by omega)).trans c1)]
    · rw [co (by omega), co (by omega), co (by omega), cs ((co (by omega)).trans ((co (by omega)).trans c2))]
    · rw [co (by omega), co (by omega), cs ((co (by omega)).trans ((co (by omega)).trans ((co (by omega)).trans c3)))]
      rfl
    · rw [co (by omega), cs ((co (by omega)).trans ((co (by omega)).trans ((co (by omega)).trans ((co (by omega)).trans c4))))]
    · rw [cs ((co (by omega)).trans ((co (by omega)).trans ((co (by omega)).trans ((co (by omega)).trans ((co (by omega)).trans c5)))))]
    · have q2 : j = g := q2
      have := hlo j (lk_len q1 (fdL_len kn0 xo).symm)
      have := hH.g1
      subst q2
      omega
  have hgl := h.lt
  obtain ⟨K, hK⟩ : ∃ K, K = fdK kn0 xo := ⟨_, rfl⟩
  obtain ⟨A, hA⟩ : ∃ A, A = fA K := ⟨_, rfl⟩
  rw [← hK, ← hA] at HFo
  rw [← hK] at hkn
  have hAs : A.size = 64 := by rw [hA]; unfold fA; simp
  have HK : Hid (K = fdK kn0 xo) := hK
  have HST : Hid (∀ w1 : World, (w1.alloc (.cells (fA kn0) 90)).there w1.heap.size 0 A.size) := fun w1 => by
    rw [hAs]; exact facts_there w1 90
  have HSI : Hid ((Tryz.prog.info? 90).map (·.size) = some A.size) := by rw [hAs]; exact info90
  have HS1 : Hid (A.all (·.oneCell') = true) := by rw [hA]; exact fA_one K
  have HLd : Hid (∀ w1 : World, Fk ((w1.alloc (.cells (fA kn0) 90)).setCells w1.heap.size 0 A.toList) w1.heap.size K ∧ Below w1.heap.size w1 ((w1.alloc (.cells (fA kn0) 90)).setCells w1.heap.size 0 A.toList)) := fun w1 => by rw [hA]; exact fk_laid w1 K 90
  obtain ⟨c0, c1, c2, c3, c4, c5⟩ := hbat
  clear hold own0 hlo hlb hXo hXg hcap hozo hozb hl8 hb8 hH hbk hx h hKq hX hK hA hb
  go_enter Tryz.func20, Tryz.ntmps20
  go_upto_region 1 with (first
    | (go_at_call 36; go_loud (refine Calls.mono HFo.out ?_; rintro e w1 ⟨rfl, h1⟩; have HB1 : Hid _ := h1; clear h1 HFo c0 c1 c2 c3 c4 c5))
    | (refine wpList_allocTo rfl (some 2) rfl (.pointer (some ⟨w1.heap.size, 0, none⟩)) (.cells (fA kn0) 90) (by kernel_rfl) ?_)
    | (refine wpList_store_mid rfl 90 (.tmp 2) (.tmp 7) rfl w1.heap.size 0 A rfl rfl (HST.out w1) HSI.out HS1.out ?_))
  simp only [Act.put, List.setIfInBounds_toArray, List.set_cons_zero, List.set_cons_succ]
  have H2 : Hid (Fb W ((w1.alloc (.cells (fA kn0) 90)).setCells w1.heap.size 0 A.toList) g k ⟨xo, xf, xa, xb, xt, xe⟩ ⟨oa, oc, ba, bc⟩ (fdL kn0 xo) xb X ∧ Fk ((w1.alloc (.cells (fA kn0) 90)).setCells w1.heap.size 0 A.toList) w1.heap.size K ∧ W.heap.size ≤ w1.heap.size) := ⟨HB1.out.next (HLd.out w1).2, (HLd.out w1).1, HB1.out.f.size⟩
  clear HB1 HLd HST HSI HS1 hAs
  generalize (w1.alloc (.cells (fA kn0) 90)).setCells w1.heap.size 0 A.toList = w2 at *
  generalize w1.heap.size = q at *
  clear w1
  obtain ⟨c0, c1, c2, c3, c4, c5⟩ := H2.out.1.c
  go_upto_region 2 with (first
    | (go_at_call 36; go_loud (refine Calls.mono (HFb.out w2 H2.out.1) ?_; rintro e w3 ⟨rfl, h1, h2⟩; have H3 : Hid (Fb W w3 g k ⟨xo, xf, xa, xb, xt, xe⟩ ⟨oa, oc, ba, bc⟩ (fdL kn0 xo) (fdL kn0 xb) X ∧ Fk w3 q K) := ⟨h1, H2.out.2.1.fr h2 fun u => by (have := HOld.out _ u; have := H2.out.2.2; omega)⟩; have hqg : W.heap.size ≤ q := H2.out.2.2; clear h1 h2 HFb c0 c1 c2 c3 c4 c5 H2)))
  obtain ⟨d0, d1, d2, d3, d4, d5⟩ := H3.out.1.c
  have hgq : ¬ g = q := by omega
  have hgq' : ¬ q = g := by omega
  by_cases hf : xf = 1
  · subst hf
    obtain ⟨a, rfl⟩ : ∃ a : Nat, xa = a := ⟨xa.toNat, by omega⟩
    have ha : a < 32 := by have := hreg rfl; omega
    have hai : (a : Int) < 32 := by omega
    have ha0 : (0 : Int) ≤ (a : Int) := by omega
    have k0 := H3.out.2.b a ha
    cases hKa : K a with
    | none =>
      rw [hKa] at k0
      have hbr : brK ⟨xo, 1, a, xb, xt, xe⟩ = false := by
        have e : fdK kn0 xo a = none := by rw [← HK.out]; exact hKa
        simp [brK, e]
      have HZ : Hid _ := HP1.out hbr
      clear hbr HP1 HP2 hKa HOld
      go_wp2_with fail
      go_end0
      exact ⟨rfl, HZ.out _ H3.out.1⟩
    | some v =>
      rw [hKa] at k0
      have hbr : brK ⟨xo, 1, a, xb, xt, xe⟩ = true := by
        have e : fdK kn0 xo a = some v := by rw [← HK.out]; exact hKa
        simp [brK, e]
      have hway : wayK ⟨xo, 1, a, xb, xt, xe⟩ = if v = 0 then xe else xt := by
        have e : fdK kn0 xo a = some v := by rw [← HK.out]; exact hKa
        simp [wayK, numK, e]
      have HZ : Hid _ := fun w' => HP2.out hbr w' _ hway
      clear hbr hway HP1 HP2 HOld
      go_upto_region 3 with fail
      have HDd : Hid (Fb W w3.drew g k ⟨xo, 1, a, xb, xt, xe⟩ ⟨oa, oc, ba, bc⟩ (fdL kn0 xo) (fdL kn0 xb) X) := H3.out.1.next (Below.refl _ _).drew
      have HQd : Hid (Fk w3.drew q K) := H3.out.2.below (Below.refl _ _).drew
      have hgl3 := HDd.out.lt
      clear d0 d1 d2 d3 d4 d5 H3 k0
      obtain ⟨d0, d1, d2, d3, d4, d5⟩ := HDd.out.c
      simp only at d0 d1 d2 d3 d4 d5
      refine wp_region_held_drew (S := (fun W' => W'.cell? ⟨g, k * 6, none⟩ = some (.slice oa xo.length oc) ∧ Fk W' q K)) (by kernel_rfl) ⟨d0, HQd.out⟩ (fun hHeld => ?_)
      generalize w3.drew = XD at *
      refine wpAnyH_take (i := 0) (v := .pointer (some ⟨g, k * 6, none⟩)) rfl (by kernel_rfl) (by kernel_rfl) (by kernel_rfl) (fun _ _ _ h => h) (Or.inl ⟨by rfl, fun w' hSw => by (go_simp)⟩) hHeld ?_
      simp only [Act.put, List.setIfInBounds_toArray, List.set_cons_zero, List.set_cons_succ, List.getElem_cons_zero, List.getElem_toArray]
      refine wpAnyH_take (i := 1) (v := .pointer (some ⟨g, k * 6, none⟩)) rfl (by kernel_rfl) (by kernel_rfl) (by kernel_rfl) (fun _ _ _ h => h) (Or.inl ⟨by rfl, fun w' hSw => by (go_simp)⟩) hHeld ?_
      simp only [Act.put, List.setIfInBounds_toArray, List.set_cons_zero, List.set_cons_succ, List.getElem_cons_zero, List.getElem_cons_succ, List.getElem_toArray]
      refine wpAnyH_take (i := 2) (v := .pointer (some ⟨g, k * 6, none⟩)) rfl (by kernel_rfl) (by kernel_rfl) (by kernel_rfl) (fun _ _ _ h => h) (Or.inl ⟨by rfl, fun w' hSw => by (go_simp)⟩) hHeld ?_
      simp only [Act.put, List.setIfInBounds_toArray, List.set_cons_zero, List.set_cons_succ, List.getElem_cons_zero, List.getElem_cons_succ, List.getElem_toArray]
      refine wpAnyH_take (i := 3) (v := .pointer (some ⟨g, k * 6, none⟩)) rfl (by kernel_rfl) (by kernel_rfl) (by kernel_rfl) (fun _ _ _ h => h) (Or.inl ⟨by rfl, fun w' hSw => by (go_simp)⟩) hHeld ?_
      simp only [Act.put, List.setIfInBounds_toArray, List.set_cons_zero, List.set_cons_succ, List.getElem_cons_zero, List.getElem_cons_succ, List.getElem_toArray]
      refine wpAnyH_take (i := 4) (v := .slice oa xo.length oc) rfl (by kernel_rfl) (by kernel_rfl) (by kernel_rfl) (fun _ _ _ h => h) (Or.inl ⟨by rfl, fun w' hSw => by (have g0 := hSw.1; clear hSw; go_simp)⟩) hHeld ?_
      simp only [Act.put, List.setIfInBounds_toArray, List.set_cons_zero, List.set_cons_succ, List.getElem_cons_zero, List.getElem_cons_succ, List.getElem_toArray]
      refine wpAnyH_take (i := 5) (v := .pointer (some ⟨g, k * 6, none⟩)) rfl (by kernel_rfl) (by kernel_rfl) (by kernel_rfl) (fun _ _ _ h => h) (Or.inl ⟨by rfl, fun w' hSw => by (go_simp)⟩) hHeld ?_
      simp only [Act.put, List.setIfInBounds_toArray, List.set_cons_zero, List.set_cons_succ, List.getElem_cons_zero, List.getElem_cons_succ, List.getElem_toArray]
      refine wpAnyH_take (i := 6) (v := .pointer (some ⟨g, k * 6, none⟩)) rfl (by kernel_rfl) (by kernel_rfl) (by kernel_rfl) (fun _ _ _ h => h) (Or.inl ⟨by rfl, fun w' hSw => by (go_simp)⟩) hHeld ?_
      simp only [Act.put, List.setIfInBounds_toArray, List.set_cons_zero, List.set_cons_succ, List.getElem_cons_zero, List.getElem_cons_succ, List.getElem_toArray]
      refine wpAnyH_take (i := 8) (v := .pointer (some ⟨g, k * 6, none⟩)) rfl (by kernel_rfl) (by kernel_rfl) (by kernel_rfl) (fun _ _ _ h => h) (Or.inl ⟨by rfl, fun w' hSw => by (go_simp)⟩) hHeld ?_
      simp only [Act.put, List.setIfInBounds_toArray, List.set_cons_zero, List.set_cons_succ, List.getElem_cons_zero, List.getElem_cons_succ, List.getElem_toArray]
      refine wpAnyH_take (i := 9) (v := .pointer (some ⟨g, k * 6, none⟩)) rfl (by kernel_rfl) (by kernel_rfl) (by kernel_rfl) (fun _ _ _ h => h) (Or.inl ⟨by rfl, fun w' hSw => by (go_simp)⟩) hHeld ?_
      simp only [Act.put, List.setIfInBounds_toArray, List.set_cons_zero, List.set_cons_succ, List.getElem_cons_zero, List.getElem_cons_succ, List.getElem_toArray]
      refine wpAnyH_take (i := 10) (v := .pointer (some ⟨g, k * 6 + 2, none⟩)) rfl (by kernel_rfl) (by kernel_rfl) (by kernel_rfl) (fun _ _ _ h => h) (Or.inl ⟨by rfl, fun w' hSw => by (go_simp)⟩) hHeld ?_
      simp only [Act.put, List.setIfInBounds_toArray, List.set_cons_zero, List.set_cons_succ, List.getElem_cons_zero, List.getElem_cons_succ, List.getElem_toArray]
      refine wpAnyH_ready (rs := [7, 11]) (by kernel_rfl) (by simp) ?_
      refine AllReadyH.cons rfl (fun KK hKK => ?_) (AllReadyH.cons rfl (fun KK hKK => ?_) AllReadyH.nil)
      · go_simp
        refine hKK.out _ _ ⟨d0, HQd.out⟩ (fun hHeld => ?_)
        clear hKK KK
        refine wpAnyH_ready (rs := [11]) (by kernel_rfl) (by simp) ?_
        refine AllReadyH.cons rfl (fun KK hKK => ?_) AllReadyH.nil
        go_simp
        refine hKK.out _ _ ⟨d0, HQd.out⟩ (fun hHeld => ?_)
        clear hKK KK
        refine wpAnyH_take (i := 12) (v := .pointer (some ⟨q, a * 2, none⟩)) rfl (by kernel_rfl) (by kernel_rfl) (by kernel_rfl) (fun _ _ _ h => h) (Or.inl ⟨by rfl, fun w' hSw => by (go_simp)⟩) hHeld ?_
        simp only [Act.put, List.setIfInBounds_toArray, List.set_cons_zero, List.set_cons_succ, List.getElem_cons_zero, List.getElem_cons_succ, List.getElem_toArray]
        refine wpAnyH_take (i := 13) (v := .pointer (some ⟨q, a * 2 + 1, none⟩)) rfl (by kernel_rfl) (by kernel_rfl) (by kernel_rfl) (fun _ _ _ h => h) (Or.inl ⟨by rfl, fun w' hSw => by (go_simp)⟩) hHeld ?_
        simp only [Act.put, List.setIfInBounds_toArray, List.set_cons_zero, List.set_cons_succ, List.getElem_cons_zero, List.getElem_cons_succ, List.getElem_toArray]
        refine wpAnyH_take (i := 14) (v := .int .i64 v) rfl (by kernel_rfl) (by kernel_rfl) (by kernel_rfl) (fun _ _ _ h => h) (Or.inl ⟨by rfl, fun w' hSw => by (have g0 := hSw.2.n a ha; rw [hKa] at g0; clear hSw; go_simp)⟩) hHeld ?_
        simp only [Act.put, List.setIfInBounds_toArray, List.set_cons_zero, List.set_cons_succ, List.getElem_cons_zero, List.getElem_cons_succ, List.getElem_toArray]
        refine wpAnyH_ready (rs := [15]) (by kernel_rfl) (by simp) ?_
        refine AllReadyH.cons rfl (fun KK hKK => ?_) AllReadyH.nil
        go_simp
        refine Calls.mono (turn_any _ _ _ _ _ _ _ _ _ _ _ _) ?_
        rintro e w5 ⟨rfl, hb⟩
        have HE : Hid (Fb W w5 g k ⟨xo, 1, a, xb, xt, xe⟩ ⟨oa, oc, ba, bc⟩ (fdL kn0 xo) (fdL kn0 xb) X) := HDd.out.next hb
        have e0 := HE.out.c.c0; have e1 := HE.out.c.c1; have e2 := HE.out.c.c2; have e3 := HE.out.c.c3; have e4 := HE.out.c.c4; have e5 := HE.out.c.c5
        have z0 := HE.out.z (k * 6); have z1 := HE.out.z (k * 6 + 1); have z2 := HE.out.z (k * 6 + 2); have z3 := HE.out.z (k * 6 + 3); have z4 := HE.out.z (k * 6 + 4); have z5 := HE.out.z (k * 6 + 5)
        have HQ5 : Hid (Fk w5 q K) := HQd.out.below hb
        clear hb d0 d1 d2 d3 d4 d5 HDd HQd
        refine hKK.out _ _ ⟨e0, HQ5.out⟩ (fun hHeld => ?_)
        clear hKK KK
        refine wpAnyH_take (i := 16) (v := .agg #[.slice oa xo.length oc, .int .i8 0, .int .u8 0, .slice none 0 0, .int .i64 (if v = 0 then xe else xt), .int .i64 0]) rfl (by kernel_rfl) (by kernel_rfl) (by kernel_rfl) (fun _ _ _ h => h) (Or.inl ⟨by rfl, fun w' hSw => by (go_simp)⟩) hHeld ?_
        simp only [Act.put, List.setIfInBounds_toArray, List.set_cons_zero, List.set_cons_succ, List.getElem_cons_zero, List.getElem_cons_succ, List.getElem_toArray]
        refine wpAnyH_take (i := 17) (v := .pointer (some ⟨g, k * 6, none⟩)) rfl (by kernel_rfl) (by kernel_rfl) (by kernel_rfl) (fun _ _ _ h => h) (Or.inl ⟨by rfl, fun w' hSw => by (go_simp)⟩) hHeld ?_
        simp only [Act.put, List.setIfInBounds_toArray, List.set_cons_zero, List.set_cons_succ, List.getElem_cons_zero, List.getElem_cons_succ, List.getElem_toArray]
        refine wpAnyH_ready (rs := [18]) (by kernel_rfl) (by simp) ?_
        refine AllReadyH.cons rfl (fun KK hKK => ?_) AllReadyH.nil
        go_simp
        refine hKK.out _ _ ⟨by rw [co (by omega), co (by omega), co (by omega), co (by omega), co (by omega)]; exact cs e0, HQ5.out.fr (X := One g) ((((((Fr.refl (One g) w5).setCell (b := g) (.inr rfl) _ _).setCell (b := g) (.inr rfl) _ _).setCell (b := g) (.inr rfl) _ _).setCell (b := g) (.inr rfl) _ _).setCell (b := g) (.inr rfl) _ _ |>.setCell (b := g) (.inr rfl) _ _) (fun u => hgq' u)⟩ (fun hHeld => ?_)
        clear hKK KK
        refine wpAnyH_done (by kernel_rfl) ?_ _
        have HR : Hid _ := HZ.out _ HE.out
        clear hHeld HE HQ5 e0 e1 e2 e3 e4 e5 z0 z1 z2 z3 z4 z5 HZ hKa hkn
        generalize (((((w5.setCell ⟨g, k * 6, none⟩ (.slice oa xo.length oc)).setCell ⟨g, k * 6 + 1, none⟩ (.int .i8 0)).setCell ⟨g, k * 6 + 2, none⟩ (.int .u8 0)).setCell ⟨g, k * 6 + 3, none⟩ (.slice none 0 0)).setCell ⟨g, k * 6 + 4, none⟩ (.int .i64 (if v = 0 then xe else xt))).setCell ⟨g, k * 6 + 5, none⟩ (.int .i64 0) = W6 at *
        go_end0
        exact ⟨rfl, HR.out⟩
      · go_simp
        refine hKK.out _ _ ⟨d0, HQd.out⟩ (fun hHeld => ?_)
        clear hKK KK
        refine wpAnyH_take (i := 12) (v := .pointer (some ⟨q, a * 2, none⟩)) rfl (by kernel_rfl) (by kernel_rfl) (by kernel_rfl) (fun _ _ _ h => h) (Or.inl ⟨by rfl, fun w' hSw => by (go_simp)⟩) hHeld ?_
        simp only [Act.put, List.setIfInBounds_toArray, List.set_cons_zero, List.set_cons_succ, List.getElem_cons_zero, List.getElem_cons_succ, List.getElem_toArray]
        refine wpAnyH_take (i := 13) (v := .pointer (some ⟨q, a * 2 + 1, none⟩)) rfl (by kernel_rfl) (by kernel_rfl) (by kernel_rfl) (fun _ _ _ h => h) (Or.inl ⟨by rfl, fun w' hSw => by (go_simp)⟩) hHeld ?_
        simp only [Act.put, List.setIfInBounds_toArray, List.set_cons_zero, List.set_cons_succ, List.getElem_cons_zero, List.getElem_cons_succ, List.getElem_toArray]
        refine wpAnyH_take (i := 14) (v := .int .i64 v) rfl (by kernel_rfl) (by kernel_rfl) (by kernel_rfl) (fun _ _ _ h => h) (Or.inl ⟨by rfl, fun w' hSw => by (have g0 := hSw.2.n a ha; rw [hKa] at g0; clear hSw; go_simp)⟩) hHeld ?_
        simp only [Act.put, List.setIfInBounds_toArray, List.set_cons_zero, List.set_cons_succ, List.getElem_cons_zero, List.getElem_cons_succ, List.getElem_toArray]
        refine wpAnyH_ready (rs := [7]) (by kernel_rfl) (by simp) ?_
        refine AllReadyH.cons rfl (fun KK hKK => ?_) AllReadyH.nil
        go_simp
        refine hKK.out _ _ ⟨d0, HQd.out⟩ (fun hHeld => ?_)
        clear hKK KK
        refine wpAnyH_ready (rs := [15]) (by kernel_rfl) (by simp) ?_
        refine AllReadyH.cons rfl (fun KK hKK => ?_) AllReadyH.nil
        go_simp
        refine Calls.mono (turn_any _ _ _ _ _ _ _ _ _ _ _ _) ?_
        rintro e w5 ⟨rfl, hb⟩
        have HE : Hid (Fb W w5 g k ⟨xo, 1, a, xb, xt, xe⟩ ⟨oa, oc, ba, bc⟩ (fdL kn0 xo) (fdL kn0 xb) X) := HDd.out.next hb
        have e0 := HE.out.c.c0; have e1 := HE.out.c.c1; have e2 := HE.out.c.c2; have e3 := HE.out.c.c3; have e4 := HE.out.c.c4; have e5 := HE.out.c.c5
        have z0 := HE.out.z (k * 6); have z1 := HE.out.z (k * 6 + 1); have z2 := HE.out.z (k * 6 + 2); have z3 := HE.out.z (k * 6 + 3); have z4 := HE.out.z (k * 6 + 4); have z5 := HE.out.z (k * 6 + 5)
        have HQ5 : Hid (Fk w5 q K) := HQd.out.below hb
        clear hb d0 d1 d2 d3 d4 d5 HDd HQd
        refine hKK.out _ _ ⟨e0, HQ5.out⟩ (fun hHeld => ?_)
        clear hKK KK
        refine wpAnyH_take (i := 16) (v := .agg #[.slice oa xo.length oc, .int .i8 0, .int .u8 0, .slice none 0 0, .int .i64 (if v = 0 then xe else xt), .int .i64 0]) rfl (by kernel_rfl) (by kernel_rfl) (by kernel_rfl) (fun _ _ _ h => h) (Or.inl ⟨by rfl, fun w' hSw => by (go_simp)⟩) hHeld ?_
        simp only [Act.put, List.setIfInBounds_toArray, List.set_cons_zero, List.set_cons_succ, List.getElem_cons_zero, List.getElem_cons_succ, List.getElem_toArray]
        refine wpAnyH_take (i := 17) (v := .pointer (some ⟨g, k * 6, none⟩)) rfl (by kernel_rfl) (by kernel_rfl) (by kernel_rfl) (fun _ _ _ h => h) (Or.inl ⟨by rfl, fun w' hSw => by (go_simp)⟩) hHeld ?_
        simp only [Act.put, List.setIfInBounds_toArray, List.set_cons_zero, List.set_cons_succ, List.getElem_cons_zero, List.getElem_cons_succ, List.getElem_toArray]
        refine wpAnyH_ready (rs := [18]) (by kernel_rfl) (by simp) ?_
        refine AllReadyH.cons rfl (fun KK hKK => ?_) AllReadyH.nil
        go_simp
        refine hKK.out _ _ ⟨by rw [co (by omega), co (by omega), co (by omega), co (by omega), co (by omega)]; exact cs e0, HQ5.out.fr (X := One g) ((((((Fr.refl (One g) w5).setCell (b := g) (.inr rfl) _ _).setCell (b := g) (.inr rfl) _ _).setCell (b := g) (.inr rfl) _ _).setCell (b := g) (.inr rfl) _ _).setCell (b := g) (.inr rfl) _ _ |>.setCell (b := g) (.inr rfl) _ _) (fun u => hgq' u)⟩ (fun hHeld => ?_)
        clear hKK KK
        refine wpAnyH_done (by kernel_rfl) ?_ _
        have HR : Hid _ := HZ.out _ HE.out
        clear hHeld HE HQ5 e0 e1 e2 e3 e4 e5 z0 z1 z2 z3 z4 z5 HZ hKa hkn
        generalize (((((w5.setCell ⟨g, k * 6, none⟩ (.slice oa xo.length oc)).setCell ⟨g, k * 6 + 1, none⟩ (.int .i8 0)).setCell ⟨g, k * 6 + 2, none⟩ (.int .u8 0)).setCell ⟨g, k * 6 + 3, none⟩ (.slice none 0 0)).setCell ⟨g, k * 6 + 4, none⟩ (.int .i64 (if v = 0 then xe else xt))).setCell ⟨g, k * 6 + 5, none⟩ (.int .i64 0) = W6 at *
        go_end0
        exact ⟨rfl, HR.out⟩

  · have hf' : (xf == 1) = false := by simpa using hf
    have hbr : brK ⟨xo, xf, xa, xb, xt, xe⟩ = false := by simp [brK, hf]
    have HZ : Hid _ := HP1.out hbr
    clear hbr HP1 HP2 HOld
    go_wp2_with fail
    go_end0
    exact ⟨rfl, HZ.out _ H3.out.1⟩
end Go.Proofs.YtddcndlogoajkaaGreatDoor.L8.Bt
