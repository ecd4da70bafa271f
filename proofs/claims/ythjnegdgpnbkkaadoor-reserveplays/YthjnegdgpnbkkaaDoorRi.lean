/- Two tables of reservations in memory; a ring that is wide enough is a row: the statement ReserveWide over the program. Conditions: the asks lie in memory, the variables as the program lays them. -/
import Derived.Test.YthjnegdgpnbkkaaDoorRh
import Derived.Test.YthjnegdgpnbkkaaDoorFr
namespace Go.Proofs.YthjnegdgpnbkkaaDoor.Rv
open Go.ChangeShapes Go.WideShapes Go.ChangeAt Go.RowKit Go.Maps
open _root_.Go.Proofs.YthjnegdgpnbkkaaDoor.Op _root_.Go.Proofs.YthjnegdgpnbkkaaDoor.So
open _root_.Go.Proofs.YthjnegdgpnbkkaaDoor.Tb (Tab TabAt Bnds)
set_option maxRecDepth 20000

/-- What stays of a table of reservations while another block turns. -/
theorem RAt.fr {w w' : World} {rb mb n q : Nat} {t : Tab} {ev : Option Int} {f : Int → Int → Int} (h : RAt w rb t ev mb n f) (g : Fr (One q) w w') (h1 : rb ≠ q) (h2 : mb ≠ q) : RAt w' rb t ev mb n f := by
  refine ⟨⟨fun j v e => by rw [g.cell h.at'.lt h1]; exact h.at'.c j v e, fun j => by rw [g.frozen h.at'.lt h1]; exact h.at'.f j, Nat.lt_of_lt_of_le h.at'.lt g.size⟩, ?_, h.ne⟩
  obtain ⟨D, ⟨es, clock, h3, h4, h5⟩, h6⟩ := h.cm.own
  exact ⟨D, ⟨es, clock, by rw [g.block mb h.cm.lt h2]; exact h3, h4, h5⟩, h6⟩
/-- Two tables of reservations. -/
structure Tw (w W : World) (t : Tab) (ra ma rb mb na nb : Nat) (ea eb : Option Int) (f g : Int → Int → Int) : Prop where
  a : RAt W ra t ea ma na f
  b : RAt W rb t eb mb nb g
  n1 : ra ≠ mb
  n2 : rb ≠ ma
  n3 : ma ≠ mb
  up : Below w.heap.size w W
  la : w.heap.size ≤ ma
  lb : w.heap.size ≤ mb
theorem Tw.next {w W W' : World} {t : Tab} {ra ma rb mb na nb : Nat} {ea eb : Option Int} {f g : Int → Int → Int} (h : Tw w W t ra ma rb mb na nb ea eb f g) (hb : Below W.heap.size W W') : Tw w W' t ra ma rb mb na nb ea eb f g :=
  ⟨h.a.up hb, h.b.up hb, h.n1, h.n2, h.n3, h.up.trans (hb.mono h.up.size), h.la, h.lb⟩
theorem Tw.setA {w W W' : World} {t : Tab} {ra ma rb mb na nb n : Nat} {ea eb : Option Int} {f g f' : Int → Int → Int} (h : Tw w W t ra ma rb mb na nb ea eb f g) (r : RAt W' ra t ea ma n f') (fr : Fr (One ma) W W') : Tw w W' t ra ma rb mb n nb ea eb f' g :=
  ⟨r, h.b.fr fr h.n2 h.n3.symm, h.n1, h.n2, h.n3, h.up.trans (fr.below h.up.size fun k hk e => by have e : k = ma := e; have := h.la; omega), h.la, h.lb⟩
theorem Tw.setB {w W W' : World} {t : Tab} {ra ma rb mb na nb n : Nat} {ea eb : Option Int} {f g g' : Int → Int → Int} (h : Tw w W t ra ma rb mb na nb ea eb f g) (r : RAt W' rb t eb mb n g') (fr : Fr (One mb) W W') : Tw w W' t ra ma rb mb na n ea eb f g' :=
  ⟨h.a.fr fr h.n1 h.n3, r, h.n1, h.n2, h.n3, h.up.trans (fr.below h.up.size fun k hk e => by have e : k = mb := e; have := h.lb; omega), h.la, h.lb⟩
theorem Tw.start {w w1 w2 : World} {t : Tab} {ra ma rb mb : Nat} {ea eb : Option Int} (h1 : RAt w1 ra t ea ma 0 wf0) (q1 : w.heap.size ≤ ma) (u1 : Below w.heap.size w w1) (h2 : RAt w2 rb t eb mb 0 wf0) (q2 : w1.heap.size ≤ rb ∧ w1.heap.size ≤ mb) (u2 : Below w1.heap.size w1 w2) : Tw w w2 t ra ma rb mb 0 0 ea eb wf0 wf0 :=
  ⟨h1.up u2, h2, by have := h1.at'.lt; omega, by have := h1.cm.lt; omega, by have := h1.cm.lt; omega, u1.trans (u2.mono u1.size), q1, by have := u1.size; omega⟩
/-! ### a ring that is wide enough -/
/-- The same counts below 110. -/
def Wq (f g : Int → Int → Int) : Prop := ∀ a b, 0 ≤ b → b < 110 → f a b = g a b
theorem tn_wide {x : Int} (h0 : 0 ≤ x) (h1 : x < 110) : tn (some 110) x = tn none x := Int.emod_eq_of_lt h0 h1
theorem tms_wide {first cyc : Int} (h0 : 0 ≤ first) (h1 : first < 100) : ∀ k, k ≤ 4 → tms (some 110) first cyc k = tms none first cyc k
  | 0, _ => rfl
  | k + 1, hk => by
    show tms (some 110) first cyc k + _ = tms none first cyc k + _
    rw [tms_wide h0 h1 k (by omega), tn_wide (x := first + k) (by omega) (by omega)]
theorem fr_wide {t : Tab} (ht : t.ok = true) {f g : Int → Int → Int} (hw : Wq f g) (cl : Int) {cyc : Int} (h0 : 0 ≤ cyc) (h1 : cyc < 100) : frB t (some 110) f cl cyc = frB t none g cl cyc := by
  have e : tn (some 110) cyc = cyc := tn_wide h0 (by omega)
  have e' : tn none cyc = cyc := rfl
  unfold frB
  rw [e, e']
  by_cases hc : 0 ≤ cl ∧ cl ≤ 3
  · have hft : ftB t (some 110) f cl.toNat cyc = ftB t none g cl.toNat cyc := by
      have hb := Tb.inB_iff ((Tb.ok_parts ht).2 cl.toNat (by omega)).2.2
      unfold ftB
      have key : ∀ k, k < (t.b cl.toNat).toNat → (ft1 t (some 110) f cl.toNat cyc k ↔ ft1 t none g cl.toNat cyc k) := fun k hk => by
        unfold ft1
        rw [tn_wide (x := cyc + k) (by omega) (by omega), tms_wide h0 h1 _ (by omega)]
        have e2 : tn none (cyc + (k : Nat)) = cyc + k := rfl
        rw [e2, hw _ _ (by omega) (by omega)]
      rw [Bool.eq_iff_iff, List.all_eq_true, List.all_eq_true]
      simp only [decide_eq_true_eq, List.mem_range]
      exact ⟨fun h k hk => (key k hk).1 (h k hk), fun h k hk => (key k hk).2 (h k hk)⟩
    rw [hft]
  · by_cases h2 : 0 ≤ cl
    · have : ¬ cl ≤ 3 := fun h3 => hc ⟨h2, h3⟩
      simp [this]
    · simp [h2]
theorem tk_wide {t : Tab} (ht : t.ok = true) {f g : Int → Int → Int} (hw : Wq f g) (cl : Int) {cyc : Int} (h0 : 0 ≤ cyc) (h1 : cyc < 100) : Wq (tkF t (some 110) f cl cyc) (tkF t none g cl cyc) := by
  have e : tn (some 110) cyc = cyc := tn_wide h0 (by omega)
  have e' : tn none cyc = cyc := rfl
  unfold tkF
  rw [fr_wide ht hw cl h0 h1, e, e']
  cases hf : frB t none g cl cyc
  · exact hw
  · rw [if_pos rfl, if_pos rfl]
    obtain ⟨⟨c0, c1⟩, -, -⟩ := fr_parts hf
    have hb := Tb.inB_iff ((Tb.ok_parts ht).2 cl.toNat (by omega)).2.2
    intro a b hb0 hb1
    unfold addK
    rw [tms_wide h0 h1 _ (by omega), hw a b hb0 hb1]
set_option maxHeartbeats 8000000 in
theorem law_wide (t : Tab) (ao : Option Addr) (cap : Nat) (xs : List Ak) (w : World) (hp : AksAt w ao xs) (hG : Bnds w) :
    Calls Tryd.prog 6 #[t.val, .slice ao xs.length cap] w fun e w' => e = .returned (.bool true) ∧ Below w.heap.size w w' := by
  have HW : Hid (∀ W, Below w.heap.size w W → Calls Tryd.prog 11 #[] W fun e w' => e = .returned (.bool true) ∧ Below W.heap.size W w') := fun W hb => wakes_any W (hG.below hb hG.big)
  by_cases hk : Tb.ckR t = 0
  · have ht : t.ok = true := by
      cases h : t.ok
      · unfold Tb.ckR at hk; rw [h] at hk; simp at hk
      · rfl
    have HR : Hid (∀ W, Below w.heap.size w W → Calls Tryd.prog 9 #[t.val, .int .i64 110] W fun e w' => ∃ rb mb, e = .returned (.tuple #[.pointer (some ⟨rb, 0, none⟩), .int .i64 0]) ∧ RAt w' rb t (some 110) mb 0 wf0 ∧ (W.heap.size ≤ rb ∧ W.heap.size ≤ mb) ∧ Below W.heap.size W w') := fun W hb => ring_ok t 110 W (hG.below hb hG.big) hk (by omega) (by omega)
    have HN : Hid (∀ W, Below w.heap.size w W → Calls Tryd.prog 7 #[t.val] W fun e w' => ∃ rb mb, e = .returned (.tuple #[.pointer (some ⟨rb, 0, none⟩), .int .i64 0]) ∧ RAt w' rb t none mb 0 wf0 ∧ (W.heap.size ≤ rb ∧ W.heap.size ≤ mb) ∧ Below W.heap.size W w') := fun W hb => new_ok t W (hG.below hb hG.big) hk
    have HP : Hid (AksAt w ao xs) := hp
    have hlen := hp.len
    have HOk : Hid (t.ok = true) := ht
    clear hp hG hk ht
    unfold Tab.val at *
    go_enter Tryd.func6, Tryd.ntmps6
    go_wp2_with (first
      | (go_at_call 9; refine Calls.mono (HR.out _ (by go_grown)) ?_; rintro e w1 ⟨ra, ma, rfl, r1, p1, b1⟩; have HS1 : Hid (RAt w1 ra t (some 110) ma 0 wf0 ∧ w.heap.size ≤ ma ∧ TabAt w1 w.heap.size t ∧ Below w.heap.size w w1) := ⟨r1, by have := p1.2; simp at this; omega, (Tb.tabAt_new w t 24).below b1 (by simp), Below.trans (by go_grown) (b1.mono (by simp))⟩; clear r1 p1 b1 HR; have k2 := HS1.out.2.2.1; have qu0 := k2.cu 0 (by decide); have qu1 := k2.cu 1 (by decide); have qu2 := k2.cu 2 (by decide); have qu3 := k2.cu 3 (by decide); have ql0 := k2.cl 0 (by decide); have ql1 := k2.cl 1 (by decide); have ql2 := k2.cl 2 (by decide); have ql3 := k2.cl 3 (by decide); have qb0 := k2.cb 0 (by decide); have qb1 := k2.cb 1 (by decide); have qb2 := k2.cb 2 (by decide); have qb3 := k2.cb 3 (by decide); have qd := k2.cd; have qz := k2.lt; clear k2)
      | (go_at_call 7; refine Calls.mono (HN.out _ HS1.out.2.2.2) ?_; rintro e w2 ⟨rb, mb, rfl, r2, p2, b2⟩; have HS : Hid (Tw w w2 t ra ma rb mb 0 0 (some 110) none wf0 wf0) := Tw.start HS1.out.1 HS1.out.2.1 HS1.out.2.2.2 r2 p2 b2; clear r2 p2 b2 HN HS1 qu0 qu1 qu2 qu3 ql0 ql1 ql2 ql3 qb0 qb1 qb2 qb3 qd qz))
    go_loopw [36] (fun v wr => ∃ (k na nb : Nat) (f g : Int → Int → Int), k ≤ xs.length ∧ v = .int .i64 k ∧ Tw w wr t ra ma rb mb na nb (some 110) none f g ∧ Few f ∧ Few g ∧ Wq f g ∧ na ≤ 4 * k ∧ nb ≤ 4 * k) (fun v _ => xs.length - (intOf v).toNat)
    case atStart => exact ⟨0, 0, 0, wf0, wf0, by omega, rfl, HS.out, few0, few0, fun _ _ _ _ => rfl, by omega, by omega⟩
    case round =>
      rename World => wr
      obtain ⟨k, na, nb, f, g, hk, rfl, htw, hf, hg, hwq, l1, l2⟩ := hrel
      have HQ : Hid (Tw w wr t ra ma rb mb na nb (some 110) none f g ∧ Few f ∧ Few g ∧ Wq f g ∧ na ≤ 4 * k ∧ nb ≤ 4 * k) := ⟨htw, hf, hg, hwq, l1, l2⟩
      clear htw hf hg hwq HS
      by_cases hlt : k < xs.length
      · have k0 : (0 : Int) ≤ (k : Int) := by omega
        have k1 : (k : Int) < (xs.length : Int) := by omega
        obtain ⟨b, fo, rfl, hz, hx⟩ := (HP.out.below HQ.out.1.up).is (by omega)
        obtain ⟨x0, x1, x2⟩ := hx k hlt
        obtain ⟨hI1, hI2⟩ := HP.out.ok xs[k] (List.getElem_mem hlt)
        clear hx
        obtain ⟨o, ho⟩ : ∃ o, xs[k] = o := ⟨_, rfl⟩
        rw [ho] at x0 x1 x2 hI1 hI2
        clear ho
        obtain ⟨cl, y, tk⟩ := o
        have hI1 : -9223372036854775808 ≤ cl ∧ cl ≤ 9223372036854775807 := hI1
        have hI2 : -9223372036854775808 ≤ y ∧ y ≤ 9223372036854775807 := hI2
        have x0 : wr.cell? ⟨b, fo + k * 3, none⟩ = some (.int .i64 cl) := x0
        have x1 : wr.cell? ⟨b, fo + k * 3 + 1, none⟩ = some (.int .i64 y) := x1
        have x2 : wr.cell? ⟨b, fo + k * 3 + 2, none⟩ = some (.bool tk) := x2
        have HV : Hid ((Tw w (wr.alloc (.cells #[.int .i64 cl, .int .i64 y, .bool tk] 37)) t ra ma rb mb na nb (some 110) none f g) ∧ At (wr.alloc (.cells #[.int .i64 cl, .int .i64 y, .bool tk] 37)) wr.heap.size #[.int .i64 cl, .int .i64 y, .bool tk] ∧ wr.heap.size ≠ ma ∧ wr.heap.size ≠ mb) := ⟨HQ.out.1.next ((Below.refl _ _).alloc (Nat.le_refl _) _), At.new _ _ _, by have := HQ.out.1.a.cm.lt; omega, by have := HQ.out.1.b.cm.lt; omega⟩
        go_upto_region 8 with fail
        generalize wr.alloc (.cells #[.int .i64 cl, .int .i64 y, .bool tk] 37) = V at *
        generalize wr.heap.size = ob at *
        clear x0 x1 x2 hz
        by_cases h40 : 40 ≤ k
        · have h40' : (40 : Int) ≤ (k : Int) := by omega
          go_wp2_with (first | (go_at_call 11; refine Calls.mono (HW.out _ HV.out.1.up) ?_; rintro e w9 ⟨rfl, b9⟩; have HB : Hid (Below w.heap.size w w9) := HV.out.1.up.trans (b9.mono HV.out.1.up.size); clear b9 HW))
          go_ret
          exact ⟨rfl, HB.out⟩
        · have h40' : ¬ (40 : Int) ≤ (k : Int) := by omega
          have y0 := HV.out.2.1.c 1 _ rfl
          have yl := HV.out.2.1.lt
          have z1 := Int.lt_tmod_of_pos y (show (0 : Int) < 100 by omega)
          have z2 := Int.tmod_lt_of_pos y (show (0 : Int) < 100 by omega)
          have hm : IntKind.i64.wrap (Int.tmod y 100) = Int.tmod y 100 := by rw [IntKind.wrap_i64]; omega
          have ha : IntKind.i64.wrap (Int.tmod y 100 + 100) = Int.tmod y 100 + 100 := by rw [IntKind.wrap_i64]; omega
          have z3 := Int.tmod_nonneg (b := 100) (show 0 ≤ Int.tmod y 100 + 100 by omega)
          have z4 := Int.tmod_lt_of_pos (Int.tmod y 100 + 100) (show (0 : Int) < 100 by omega)
          have hm2 : IntKind.i64.wrap (Int.tmod (Int.tmod y 100 + 100) 100) = Int.tmod (Int.tmod y 100 + 100) 100 := by rw [IntKind.wrap_i64]; omega
          go_upto_region 10 with fail
          clear y0 yl hm ha hm2 z1 z2 z3 z4
          have z3 := Int.emod_nonneg (Int.tmod y 100 + 100) (show (100 : Int) ≠ 0 by omega)
          have z4 := Int.emod_lt_of_pos (Int.tmod y 100 + 100) (show (0 : Int) < 100 by omega)
          generalize (Int.tmod y 100 + 100) % 100 = cyc at *
          have HQ2 : Hid (Few (tkF t (some 110) f cl cyc) ∧ Few (tkF t none g cl cyc) ∧ Wq (tkF t (some 110) f cl cyc) (tkF t none g cl cyc)) := ⟨tk_few HQ.out.2.1 HOk.out _ _, tk_few HQ.out.2.2.1 HOk.out _ _, tk_wide HOk.out HQ.out.2.2.2.1 cl z3 z4⟩
          have HTa : Hid (∀ W, Tw w W t ra ma rb mb na nb (some 110) none f g → Calls Tryd.prog 12 #[.pointer (some ⟨ra, 0, none⟩), .int .i64 cl, .int .i64 cyc] W fun e w' => e = .returned (.bool (frB t none g cl cyc)) ∧ ∃ n', Tw w w' t ra ma rb mb n' nb (some 110) none (tkF t (some 110) f cl cyc) g ∧ n' ≤ na + 4 ∧ ∀ {ob : Nat} {cs : Array Value}, At W ob cs → ob ≠ ma → At w' ob cs) := fun W h => (take_any cl cyc W h.a ⟨by omega, by omega⟩ HQ.out.2.1 HOk.out (by omega)).mono fun e w' h' => by
            obtain ⟨e1, n', r', l', f'⟩ := h'
            exact ⟨by rw [e1, fr_wide HOk.out HQ.out.2.2.2.1 cl z3 z4], n', h.setA r' f', l', fun ha hne => ⟨fun j v e => by rw [f'.cell ha.lt hne]; exact ha.c j v e, fun j => by rw [f'.frozen ha.lt hne]; exact ha.f j, Nat.lt_of_lt_of_le ha.lt f'.size⟩⟩
          have HTb : Hid (∀ W n2, Tw w W t ra ma rb mb n2 nb (some 110) none (tkF t (some 110) f cl cyc) g → Calls Tryd.prog 12 #[.pointer (some ⟨rb, 0, none⟩), .int .i64 cl, .int .i64 cyc] W fun e w' => e = .returned (.bool (frB t none g cl cyc)) ∧ ∃ n', Tw w w' t ra ma rb mb n2 n' (some 110) none (tkF t (some 110) f cl cyc) (tkF t none g cl cyc) ∧ n' ≤ nb + 4 ∧ ∀ {ob : Nat} {cs : Array Value}, At W ob cs → ob ≠ mb → At w' ob cs) := fun W n2 h => (take_any cl cyc W h.b trivial HQ.out.2.2.1 HOk.out (by omega)).mono fun e w' h' => by
            obtain ⟨e1, n', r', l', f'⟩ := h'
            exact ⟨e1, n', h.setB r' f', l', fun ha hne => ⟨fun j v e => by rw [f'.cell ha.lt hne]; exact ha.c j v e, fun j => by rw [f'.frozen ha.lt hne]; exact ha.f j, Nat.lt_of_lt_of_le ha.lt f'.size⟩⟩
          have HUa : Hid (∀ W n2 n3, Tw w W t ra ma rb mb n2 n3 (some 110) none (tkF t (some 110) f cl cyc) (tkF t none g cl cyc) → Calls Tryd.prog 16 #[.pointer (some ⟨ra, 0, none⟩), .int .i64 cl, .int .i64 cyc] W fun e w' => e = .returned (.int .i64 (tkF t none g cl cyc cl cyc)) ∧ Below W.heap.size W w') := fun W n2 n3 h => (used_any cl cyc W h.a ⟨by omega, by omega⟩ ⟨hI1.1, hI1.2⟩ (by unfold I64; omega)).mono fun e w' h' => ⟨by rw [h'.1, tn_wide z3 (by omega)]; exact congrArg (fun x => Ending.returned (.int .i64 x)) (HQ2.out.2.2 cl cyc z3 (by omega)), h'.2⟩
          have HUb : Hid (∀ W n2 n3, Tw w W t ra ma rb mb n2 n3 (some 110) none (tkF t (some 110) f cl cyc) (tkF t none g cl cyc) → Calls Tryd.prog 16 #[.pointer (some ⟨rb, 0, none⟩), .int .i64 cl, .int .i64 cyc] W fun e w' => e = .returned (.int .i64 (tkF t none g cl cyc cl cyc)) ∧ Below W.heap.size W w') := fun W n2 n3 h => used_any cl cyc W h.b trivial ⟨hI1.1, hI1.2⟩ (by unfold I64; omega)
          generalize tkF t none g cl cyc cl cyc = us at *
          generalize frB t none g cl cyc = fb at *
          generalize tkF t (some 110) f cl cyc = f2 at *
          generalize tkF t none g cl cyc = g2 at *
          refine wp_region_held_drew (S := fun W => At W ob #[.int .i64 cl, .int .i64 y, .bool tk]) (by kernel_rfl) (HV.out.2.1.below (drew_up _) HV.out.2.1.lt) (fun hHeld => ?_)
          refine wpAnyH_take (i := 0) (v := .pointer (some ⟨ra, 0, none⟩)) rfl (by kernel_rfl) (by kernel_rfl) (by kernel_rfl) (fun _ _ _ h => h) (Or.inl ⟨by rfl, fun w' hSw => by (go_simp)⟩) hHeld ?_
          simp only [Act.put, List.setIfInBounds_toArray, List.set_cons_zero, List.set_cons_succ, List.getElem_cons_zero, List.getElem_toArray]
          refine wpAnyH_take (i := 1) (v := .pointer (some ⟨ob, 0, none⟩)) rfl (by kernel_rfl) (by kernel_rfl) (by kernel_rfl) (fun _ _ _ h => h) (Or.inl ⟨by rfl, fun w' hSw => by (go_simp)⟩) hHeld ?_
          simp only [Act.put, List.setIfInBounds_toArray, List.set_cons_zero, List.set_cons_succ, List.getElem_cons_zero, List.getElem_cons_succ, List.getElem_toArray]
          refine wpAnyH_take (i := 2) (v := .int .i64 cl) rfl (by kernel_rfl) (by kernel_rfl) (by kernel_rfl) (fun _ _ _ h => h) (Or.inl ⟨by rfl, fun w' hSw => by (have y0 := hSw.c 0 _ rfl; have yl := hSw.lt; go_simp)⟩) hHeld ?_
          simp only [Act.put, List.setIfInBounds_toArray, List.set_cons_zero, List.set_cons_succ, List.getElem_cons_zero, List.getElem_cons_succ, List.getElem_toArray]
          refine wpAnyH_take (i := 3) (v := .int .i64 cyc) rfl (by kernel_rfl) (by kernel_rfl) (by kernel_rfl) (fun _ _ _ h => h) (Or.inl ⟨by rfl, fun w' hSw => by (go_simp)⟩) hHeld ?_
          simp only [Act.put, List.setIfInBounds_toArray, List.set_cons_zero, List.set_cons_succ, List.getElem_cons_zero, List.getElem_cons_succ, List.getElem_toArray]
          refine wpAnyH_take (i := 5) (v := .pointer (some ⟨rb, 0, none⟩)) rfl (by kernel_rfl) (by kernel_rfl) (by kernel_rfl) (fun _ _ _ h => h) (Or.inl ⟨by rfl, fun w' hSw => by (go_simp)⟩) hHeld ?_
          simp only [Act.put, List.setIfInBounds_toArray, List.set_cons_zero, List.set_cons_succ, List.getElem_cons_zero, List.getElem_cons_succ, List.getElem_toArray]
          refine wpAnyH_take (i := 6) (v := .pointer (some ⟨ob, 0, none⟩)) rfl (by kernel_rfl) (by kernel_rfl) (by kernel_rfl) (fun _ _ _ h => h) (Or.inl ⟨by rfl, fun w' hSw => by (go_simp)⟩) hHeld ?_
          simp only [Act.put, List.setIfInBounds_toArray, List.set_cons_zero, List.set_cons_succ, List.getElem_cons_zero, List.getElem_cons_succ, List.getElem_toArray]
          refine wpAnyH_take (i := 7) (v := .int .i64 cl) rfl (by kernel_rfl) (by kernel_rfl) (by kernel_rfl) (fun _ _ _ h => h) (Or.inl ⟨by rfl, fun w' hSw => by (have y0 := hSw.c 0 _ rfl; have yl := hSw.lt; go_simp)⟩) hHeld ?_
          simp only [Act.put, List.setIfInBounds_toArray, List.set_cons_zero, List.set_cons_succ, List.getElem_cons_zero, List.getElem_cons_succ, List.getElem_toArray]
          refine wpAnyH_take (i := 8) (v := .int .i64 cyc) rfl (by kernel_rfl) (by kernel_rfl) (by kernel_rfl) (fun _ _ _ h => h) (Or.inl ⟨by rfl, fun w' hSw => by (go_simp)⟩) hHeld ?_
          simp only [Act.put, List.setIfInBounds_toArray, List.set_cons_zero, List.set_cons_succ, List.getElem_cons_zero, List.getElem_cons_succ, List.getElem_toArray]
          refine wpAnyH_ready (rs := [4]) (by kernel_rfl) (by simp) ?_
          refine AllReadyH.cons rfl (fun K hK => ?_) AllReadyH.nil
          go_simp
          refine Calls.mono (HTa.out _ (HV.out.1.next (drew_up _))) ?_
          rintro e w3 ⟨rfl, n3, t3, l3, o3⟩
          have HV3 : Hid (Tw w w3 t ra ma rb mb n3 nb (some 110) none f2 g ∧ At w3 ob #[.int .i64 cl, .int .i64 y, .bool tk] ∧ n3 ≤ na + 4) := ⟨t3, o3 (HV.out.2.1.below (drew_up _) HV.out.2.1.lt) HV.out.2.2.1, l3⟩
          clear t3 l3 o3 HTa
          refine hK.out _ _ HV3.out.2.1 (fun hHeld => ?_)
          clear hK K
          refine wpAnyH_ready (rs := [9]) (by kernel_rfl) (by simp) ?_
          refine AllReadyH.cons rfl (fun K hK => ?_) AllReadyH.nil
          go_simp
          refine Calls.mono (HTb.out _ _ HV3.out.1) ?_
          rintro e w4 ⟨rfl, n4, t4, l4, o4⟩
          have HV4 : Hid (Tw w w4 t ra ma rb mb n3 n4 (some 110) none f2 g2 ∧ At w4 ob #[.int .i64 cl, .int .i64 y, .bool tk] ∧ n4 ≤ nb + 4) := ⟨t4, o4 HV3.out.2.1 HV.out.2.2.2, l4⟩
          clear t4 l4 o4 HTb
          refine hK.out _ _ HV4.out.2.1 (fun hHeld => ?_)
          clear hK K
          refine wpAnyH_take (i := 10) (v := .bool false) rfl (by kernel_rfl) (by kernel_rfl) (by kernel_rfl) (fun _ _ _ h => h) (Or.inl ⟨by rfl, fun w' hSw => by (go_simp)⟩) hHeld ?_
          simp only [Act.put, List.setIfInBounds_toArray, List.set_cons_zero, List.set_cons_succ, List.getElem_cons_zero, List.getElem_cons_succ, List.getElem_toArray]
          refine wpAnyH_take (i := 11) (v := .bool false) rfl (by kernel_rfl) (by kernel_rfl) (by kernel_rfl) (fun _ _ _ h => h) (Or.inl ⟨by rfl, fun w' hSw => by (go_simp)⟩) hHeld ?_
          simp only [Act.put, List.setIfInBounds_toArray, List.set_cons_zero, List.set_cons_succ, List.getElem_cons_zero, List.getElem_cons_succ, List.getElem_toArray]
          refine wpAnyH_take (i := 12) (v := .pointer (some ⟨ra, 0, none⟩)) rfl (by kernel_rfl) (by kernel_rfl) (by kernel_rfl) (fun _ _ _ h => h) (Or.inl ⟨by rfl, fun w' hSw => by (go_simp)⟩) hHeld ?_
          simp only [Act.put, List.setIfInBounds_toArray, List.set_cons_zero, List.set_cons_succ, List.getElem_cons_zero, List.getElem_cons_succ, List.getElem_toArray]
          refine wpAnyH_take (i := 13) (v := .pointer (some ⟨ob, 0, none⟩)) rfl (by kernel_rfl) (by kernel_rfl) (by kernel_rfl) (fun _ _ _ h => h) (Or.inl ⟨by rfl, fun w' hSw => by (go_simp)⟩) hHeld ?_
          simp only [Act.put, List.setIfInBounds_toArray, List.set_cons_zero, List.set_cons_succ, List.getElem_cons_zero, List.getElem_cons_succ, List.getElem_toArray]
          refine wpAnyH_take (i := 14) (v := .int .i64 cl) rfl (by kernel_rfl) (by kernel_rfl) (by kernel_rfl) (fun _ _ _ h => h) (Or.inl ⟨by rfl, fun w' hSw => by (have y0 := hSw.c 0 _ rfl; have yl := hSw.lt; go_simp)⟩) hHeld ?_
          simp only [Act.put, List.setIfInBounds_toArray, List.set_cons_zero, List.set_cons_succ, List.getElem_cons_zero, List.getElem_cons_succ, List.getElem_toArray]
          refine wpAnyH_take (i := 15) (v := .int .i64 cyc) rfl (by kernel_rfl) (by kernel_rfl) (by kernel_rfl) (fun _ _ _ h => h) (Or.inl ⟨by rfl, fun w' hSw => by (go_simp)⟩) hHeld ?_
          simp only [Act.put, List.setIfInBounds_toArray, List.set_cons_zero, List.set_cons_succ, List.getElem_cons_zero, List.getElem_cons_succ, List.getElem_toArray]
          refine wpAnyH_take (i := 17) (v := .pointer (some ⟨rb, 0, none⟩)) rfl (by kernel_rfl) (by kernel_rfl) (by kernel_rfl) (fun _ _ _ h => h) (Or.inl ⟨by rfl, fun w' hSw => by (go_simp)⟩) hHeld ?_
          simp only [Act.put, List.setIfInBounds_toArray, List.set_cons_zero, List.set_cons_succ, List.getElem_cons_zero, List.getElem_cons_succ, List.getElem_toArray]
          refine wpAnyH_take (i := 18) (v := .pointer (some ⟨ob, 0, none⟩)) rfl (by kernel_rfl) (by kernel_rfl) (by kernel_rfl) (fun _ _ _ h => h) (Or.inl ⟨by rfl, fun w' hSw => by (go_simp)⟩) hHeld ?_
          simp only [Act.put, List.setIfInBounds_toArray, List.set_cons_zero, List.set_cons_succ, List.getElem_cons_zero, List.getElem_cons_succ, List.getElem_toArray]
          refine wpAnyH_take (i := 19) (v := .int .i64 cl) rfl (by kernel_rfl) (by kernel_rfl) (by kernel_rfl) (fun _ _ _ h => h) (Or.inl ⟨by rfl, fun w' hSw => by (have y0 := hSw.c 0 _ rfl; have yl := hSw.lt; go_simp)⟩) hHeld ?_
          simp only [Act.put, List.setIfInBounds_toArray, List.set_cons_zero, List.set_cons_succ, List.getElem_cons_zero, List.getElem_cons_succ, List.getElem_toArray]
          refine wpAnyH_take (i := 20) (v := .int .i64 cyc) rfl (by kernel_rfl) (by kernel_rfl) (by kernel_rfl) (fun _ _ _ h => h) (Or.inl ⟨by rfl, fun w' hSw => by (go_simp)⟩) hHeld ?_
          simp only [Act.put, List.setIfInBounds_toArray, List.set_cons_zero, List.set_cons_succ, List.getElem_cons_zero, List.getElem_cons_succ, List.getElem_toArray]
          refine wpAnyH_ready (rs := [16]) (by kernel_rfl) (by simp) ?_
          refine AllReadyH.cons rfl (fun K hK => ?_) AllReadyH.nil
          go_simp
          refine Calls.mono (HUa.out _ _ _ HV4.out.1) ?_
          rintro e w5 ⟨rfl, b5⟩
          have HV5 : Hid (Tw w w5 t ra ma rb mb n3 n4 (some 110) none f2 g2 ∧ At w5 ob #[.int .i64 cl, .int .i64 y, .bool tk]) := ⟨HV4.out.1.next b5, HV4.out.2.1.below b5 HV4.out.2.1.lt⟩
          clear b5 HUa
          refine hK.out _ _ HV5.out.2 (fun hHeld => ?_)
          clear hK K
          refine wpAnyH_ready (rs := [21]) (by kernel_rfl) (by simp) ?_
          refine AllReadyH.cons rfl (fun K hK => ?_) AllReadyH.nil
          go_simp
          refine Calls.mono (HUb.out _ _ _ HV5.out.1) ?_
          rintro e w6 ⟨rfl, b6⟩
          have HV6 : Hid (Tw w w6 t ra ma rb mb n3 n4 (some 110) none f2 g2 ∧ At w6 ob #[.int .i64 cl, .int .i64 y, .bool tk]) := ⟨HV5.out.1.next b6, HV5.out.2.below b6 HV5.out.2.lt⟩
          clear b6 HUb
          refine hK.out _ _ HV6.out.2 (fun hHeld => ?_)
          clear hK K
          refine wpAnyH_take (i := 22) (v := .bool false) rfl (by kernel_rfl) (by kernel_rfl) (by kernel_rfl) (fun _ _ _ h => h) (Or.inl ⟨by rfl, fun w' hSw => by (go_simp)⟩) hHeld ?_
          simp only [Act.put, List.setIfInBounds_toArray, List.set_cons_zero, List.set_cons_succ, List.getElem_cons_zero, List.getElem_cons_succ, List.getElem_toArray]
          refine wpAnyH_take (i := 23) (v := .bool false) rfl (by kernel_rfl) (by kernel_rfl) (by kernel_rfl) (fun _ _ _ h => h) (Or.inl ⟨by rfl, fun w' hSw => by (go_simp)⟩) hHeld ?_
          simp only [Act.put, List.setIfInBounds_toArray, List.set_cons_zero, List.set_cons_succ, List.getElem_cons_zero, List.getElem_cons_succ, List.getElem_toArray]
          refine wpAnyH_done (by kernel_rfl) ?_ _
          go_wp2
          go_roundw
          case rel => exact ⟨k + 1, n3, n4, f2, g2, by omega, by go_num, HV6.out.1, HQ2.out.1, HQ2.out.2.1, HQ2.out.2.2, by have := HV3.out.2.2; omega, by have := HV4.out.2.2; omega⟩
          case measure => simp [intOf]; omega
      · obtain rfl : k = xs.length := by omega
        have k1 : ¬ (xs.length : Int) < (xs.length : Int) := by omega
        go_wp2_with (first | (go_at_call 11; refine Calls.mono (HW.out _ HQ.out.1.up) ?_; rintro e w9 ⟨rfl, b9⟩; have HB : Hid (Below w.heap.size w w9) := HQ.out.1.up.trans (b9.mono HQ.out.1.up.size); clear b9 HW))
        go_ret
        exact ⟨rfl, HB.out⟩
  · have HR : Hid (∀ W, Below w.heap.size w W → Calls Tryd.prog 9 #[t.val, .int .i64 110] W fun e w' => e = .returned (.tuple #[.pointer none, .int .i64 (Tb.ckR t)]) ∧ Below W.heap.size W w') := fun W hb => by
      have e : rgE t 110 = Tb.ckR t := by unfold rgE; rw [if_neg hk]
      have := ring_no t 110 W (hG.below hb hG.big) (by rw [e]; exact hk)
      rw [e] at this
      exact this
    have HN : Hid (∀ W, Below w.heap.size w W → Calls Tryd.prog 7 #[t.val] W fun e w' => e = .returned (.tuple #[.pointer none, .int .i64 (Tb.ckR t)]) ∧ Below W.heap.size W w') := fun W hb => new_no t W (hG.below hb hG.big) hk
    have hkb : (Tb.ckR t != 0) = true := by simpa using hk
    have hee : (Tb.ckR t == Tb.ckR t) = true := by simp
    clear hp hG
    generalize Tb.ckR t = er at *
    unfold Tab.val at *
    go_enter Tryd.func6, Tryd.ntmps6
    go_wp2_with (first
      | (go_at_call 9; refine Calls.mono (HR.out _ (by go_grown)) ?_; rintro e w1 ⟨rfl, b1⟩; have HS1 : Hid (TabAt w1 w.heap.size t ∧ Below w.heap.size w w1) := ⟨(Tb.tabAt_new w t 24).below b1 (by simp), Below.trans (by go_grown) (b1.mono (by simp))⟩; clear b1 HR; have k2 := HS1.out.1; have qu0 := k2.cu 0 (by decide); have qu1 := k2.cu 1 (by decide); have qu2 := k2.cu 2 (by decide); have qu3 := k2.cu 3 (by decide); have ql0 := k2.cl 0 (by decide); have ql1 := k2.cl 1 (by decide); have ql2 := k2.cl 2 (by decide); have ql3 := k2.cl 3 (by decide); have qb0 := k2.cb 0 (by decide); have qb1 := k2.cb 1 (by decide); have qb2 := k2.cb 2 (by decide); have qb3 := k2.cb 3 (by decide); have qd := k2.cd; have qz := k2.lt; clear k2)
      | (go_at_call 7; refine Calls.mono (HN.out _ HS1.out.2) ?_; rintro e w2 ⟨rfl, b2⟩; have HS2 : Hid (Below w.heap.size w w2) := HS1.out.2.trans (b2.mono HS1.out.2.size); clear b2 HN qu0 qu1 qu2 qu3 ql0 ql1 ql2 ql3 qb0 qb1 qb2 qb3 qd qz)
      | (go_at_call 11; refine Calls.mono (HW.out _ HS2.out) ?_; rintro e w9 ⟨rfl, b9⟩; have HB : Hid (Below w.heap.size w w9) := HS2.out.trans (b9.mono HS2.out.size); clear b9 HW))
    go_ret
    exact ⟨rfl, HB.out⟩
end Go.Proofs.YthjnegdgpnbkkaaDoor.Rv
