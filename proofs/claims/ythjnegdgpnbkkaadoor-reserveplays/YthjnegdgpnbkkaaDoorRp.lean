/- The statement ReservePlays over the program: units are taken, free and busy as the document says, in a row of cycles and round a ring. Conditions: the asks lie in memory, the variables as the program lays them. -/
import Derived.Test.YthjnegdgpnbkkaaDoorRo
import Derived.Test.YthjnegdgpnbkkaaDoorRl
namespace Go.Proofs.YthjnegdgpnbkkaaDoor.Rv
open Go.ChangeShapes Go.WideShapes Go.ChangeAt Go.RowKit Go.Maps
open _root_.Go.Proofs.YthjnegdgpnbkkaaDoor.Op _root_.Go.Proofs.YthjnegdgpnbkkaaDoor.So
open _root_.Go.Proofs.YthjnegdgpnbkkaaDoor.Tb (Tab TabAt Bnds)
set_option maxRecDepth 20000

theorem RAt.frx {X : Nat → Prop} {w w' : World} {rb mb n : Nat} {t : Tab} {ev : Option Int} {f : Int → Int → Int} (h : RAt w rb t ev mb n f) (g : Fr X w w') (h1 : ¬ X rb) (h2 : ¬ X mb) : RAt w' rb t ev mb n f := by
  refine ⟨⟨fun j v e => by rw [g.cell h.at'.lt h1]; exact h.at'.c j v e, fun j => by rw [g.frozen h.at'.lt h1]; exact h.at'.f j, Nat.lt_of_lt_of_le h.at'.lt g.size⟩, ?_, h.ne⟩
  obtain ⟨D, ⟨es, clock, h3, h4, h5⟩, h6⟩ := h.cm.own
  exact ⟨D, ⟨es, clock, by rw [g.block mb h.cm.lt h2]; exact h3, h4, h5⟩, h6⟩
theorem at_frx {X : Nat → Prop} {w w' : World} {b : Nat} {cs : Array Value} (h : At w b cs) (g : Fr X w w') (hne : ¬ X b) : At w' b cs :=
  ⟨fun j v e => by rw [g.cell h.lt hne]; exact h.c j v e, fun j => by rw [g.frozen h.lt hne]; exact h.f j, Nat.lt_of_lt_of_le h.lt g.size⟩
/-- The program's table beside the document's. -/
structure Py (w : World) (B : Nat) (W : World) (t : Tab) (ra ma na : Nat) (ev : Option Int) (f : Int → Int → Int) (rb : Nat) (a : Option Addr) (c : Nat) (L : List Ak) : Prop where
  pa : RAt W ra t ev ma na f
  da : DAt B W rb t ev a c L
  n1 : ra ≠ rb
  n2 : ma ≠ rb
  k1 : ra < B
  k2 : ma < B
  up : Below w.heap.size w W
  la : w.heap.size ≤ ma
  lb : w.heap.size ≤ rb
  lB : w.heap.size ≤ B
theorem Py.next {w W W' : World} {B ra ma na rb c : Nat} {t : Tab} {ev : Option Int} {f : Int → Int → Int} {a : Option Addr} {L : List Ak} (h : Py w B W t ra ma na ev f rb a c L) (hb : Below W.heap.size W W') : Py w B W' t ra ma na ev f rb a c L :=
  ⟨h.pa.up hb, h.da.up hb, h.n1, h.n2, h.k1, h.k2, h.up.trans (hb.mono h.up.size), h.la, h.lb, h.lB⟩
theorem Py.setA {w W W' : World} {B ra ma na n rb c : Nat} {t : Tab} {ev : Option Int} {f f' : Int → Int → Int} {a : Option Addr} {L : List Ak} (h : Py w B W t ra ma na ev f rb a c L) (r : RAt W' ra t ev ma n f') (fr : Fr (One ma) W W') : Py w B W' t ra ma n ev f' rb a c L :=
  ⟨r, ⟨at_frx h.da.da fr fun e => h.n2 (show rb = ma from e).symm, row_fr h.da.row fr fun k hk x => by have x : k = ma := x; have := (h.da.row.lt k hk).1; have := h.k2; omega, h.da.ok, h.da.k1, Nat.le_trans h.da.k6 fr.size⟩, h.n1, h.n2, h.k1, h.k2, h.up.trans (fr.below h.up.size fun k hk e => by have e : k = ma := e; have := h.la; omega), h.la, h.lb, h.lB⟩
theorem Py.setB {w W W' : World} {B ra ma na rb c c' : Nat} {t : Tab} {ev : Option Int} {f : Int → Int → Int} {a a' : Option Addr} {L L' : List Ak} (h : Py w B W t ra ma na ev f rb a c L) (d : DAt B W' rb t ev a' c' L') (fr : Fr (Dx rb (.slice a L.length c)) W W') : Py w B W' t ra ma na ev f rb a' c' L' := by
  have hx : ∀ k, k < B → k ≠ rb → ¬ Dx rb (.slice a L.length c) k := fun k hk hne e => e.elim hne fun e => by
    have := (h.da.row.lt k e).1
    omega
  exact ⟨h.pa.frx fr (hx _ h.k1 h.n1) (hx _ h.k2 h.n2), d, h.n1, h.n2, h.k1, h.k2, h.up.trans (fr.below h.up.size fun k hk e => hx k (by have := h.lB; omega) (by have := h.lb; omega) e), h.la, h.lb, h.lB⟩
theorem py_start {w w1 w2 : World} {t : Tab} {ra ma rb : Nat} {ev : Option Int} (h1 : RAt w1 ra t ev ma 0 wf0) (q1 : w.heap.size ≤ ma) (u1 : Below w.heap.size w w1) (h2 : At w2 rb (dcl t ev none 0 0)) (q2 : w1.heap.size ≤ rb) (u2 : Below w1.heap.size w1 w2) : Py w w2.heap.size w2 t ra ma 0 ev (Fl t ev []) rb none 0 [] :=
  ⟨h1.up u2, ⟨h2, World.ownsRow_nil _ _ _ _, by simp, h2.lt, Nat.le_refl _⟩, by have := h1.at'.lt; omega, by have := h1.cm.lt; omega, Nat.lt_of_lt_of_le h1.at'.lt u2.size, Nat.lt_of_lt_of_le h1.cm.lt u2.size, u1.trans (u2.mono u1.size), q1, by have := u1.size; omega, Nat.le_trans u1.size u2.size⟩
set_option maxHeartbeats 16000000 in
theorem plays_row (t : Tab) (every : Int) (ao : Option Addr) (cap : Nat) (xs : List Ak) (w : World) (hp : AksAt w ao xs) (hG : Bnds w) (hk : Tb.ckR t = 0) :
    Calls Tryd.prog 3 #[t.val, .int .i64 every, .bool false, .slice ao xs.length cap] w fun e w' => e = .returned (.bool true) ∧ Below w.heap.size w w' := by
  have HW : Hid (∀ W, Below w.heap.size w W → Calls Tryd.prog 11 #[] W fun e w' => e = .returned (.bool true) ∧ Below W.heap.size W w') := fun W hb => wakes_any W (hG.below hb hG.big)
  have ht : t.ok = true := by
    cases h : t.ok
    · unfold Tb.ckR at hk; rw [h] at hk; simp at hk
    · rfl
  have HN : Hid (∀ W, Below w.heap.size w W → Calls Tryd.prog 7 #[t.val] W fun e w' => ∃ rb mb, e = .returned (.tuple #[.pointer (some ⟨rb, 0, none⟩), .int .i64 0]) ∧ RAt w' rb t none mb 0 wf0 ∧ (W.heap.size ≤ rb ∧ W.heap.size ≤ mb) ∧ Below W.heap.size W w') := fun W hb => new_ok t W (hG.below hb hG.big) hk
  have HDn : Hid (∀ W, Calls Tryd.prog 8 #[t.val] W fun e w' => ∃ rb, e = .returned (.tuple #[.pointer (some ⟨rb, 0, none⟩), .int .i64 0]) ∧ At w' rb (dcl t none none 0 0) ∧ W.heap.size ≤ rb ∧ Below W.heap.size W w') := fun W => dnew_ok t W hk
  have HP : Hid (AksAt w ao xs) := hp
  have hlen := hp.len
  have HOk : Hid (t.ok = true) := ht
  clear hp hG hk ht
  unfold Tab.val at *
  go_enter Tryd.func3, Tryd.ntmps3
  go_upto_region 3 with (first
    | (go_at_call 7; refine Calls.mono (HN.out _ (by go_grown)) ?_; rintro e w1 ⟨ra, ma, rfl, r1, p1, b1⟩; have HS1 : Hid (RAt w1 ra t none ma 0 wf0 ∧ w.heap.size ≤ ma ∧ TabAt w1 w.heap.size t ∧ Below w.heap.size w w1) := ⟨r1, by have := p1.2; simp at this; omega, (Tb.tabAt_new w t 24).below b1 (by simp), Below.trans (by go_grown) (b1.mono (by simp))⟩; clear r1 p1 b1 HN; have k2 := HS1.out.2.2.1; have qu0 := k2.cu 0 (by decide); have qu1 := k2.cu 1 (by decide); have qu2 := k2.cu 2 (by decide); have qu3 := k2.cu 3 (by decide); have ql0 := k2.cl 0 (by decide); have ql1 := k2.cl 1 (by decide); have ql2 := k2.cl 2 (by decide); have ql3 := k2.cl 3 (by decide); have qb0 := k2.cb 0 (by decide); have qb1 := k2.cb 1 (by decide); have qb2 := k2.cb 2 (by decide); have qb3 := k2.cb 3 (by decide); have qd := k2.cd; have qz := k2.lt; clear k2)
    | (go_at_call 8; refine Calls.mono (HDn.out _) ?_; rintro e w2 ⟨rb, rfl, r2, p2, b2⟩; have HS : Hid (Py w w2.heap.size w2 t ra ma 0 none (Fl t none []) rb none 0 []) := py_start HS1.out.1 HS1.out.2.1 HS1.out.2.2.2 r2 p2 b2; clear r2 p2 b2 HDn HS1 qu0 qu1 qu2 qu3 ql0 ql1 ql2 ql3 qb0 qb1 qb2 qb3 qd qz))
  obtain ⟨B, hB⟩ : ∃ B, B = w2.heap.size := ⟨_, rfl⟩
  rw [← hB] at HS
  clear hB
  obtain ⟨ev, hev⟩ : ∃ ev : Option Int, (none : Option Int) = ev := ⟨_, rfl⟩
  have HEv : Hid (evOk ev) := by rw [← hev]; exact trivial
  rw [hev] at HS
  clear hev
  go_upto_region 10 with fail
  go_wp2
  go_loopw [54] (fun v wr => ∃ (k na : Nat) (L : List Ak) (a : Option Addr) (c : Nat), k ≤ xs.length ∧ v = .int .i64 k ∧ Py w B wr t ra ma na ev (Fl t ev L) rb a c L ∧ Few (Fl t ev L) ∧ na ≤ 4 * k ∧ L.length ≤ k) (fun v _ => xs.length - (intOf v).toNat)
  case atStart => exact ⟨0, 0, [], none, 0, by omega, rfl, HS.out, few0, by omega, by simp⟩
  case round =>
    rename World => wr
    obtain ⟨k, na, L, a, c, hk, rfl, hpy, hf, l1, l2⟩ := hrel
    have HQ : Hid (Py w B wr t ra ma na ev (Fl t ev L) rb a c L ∧ Few (Fl t ev L) ∧ na ≤ 4 * k ∧ L.length ≤ k) := ⟨hpy, hf, l1, l2⟩
    clear hpy hf HS
    by_cases hlt : k < xs.length
    · have k0 : (0 : Int) ≤ (k : Int) := by omega
      have k1 : (k : Int) < (xs.length : Int) := by omega
      obtain ⟨b, fo, rfl, hz, hx⟩ := (HP.out.below HQ.out.1.up).is (by omega)
      obtain ⟨x0, x1, x2⟩ := hx k hlt
      obtain ⟨hI1, hI2⟩ := HP.out.ok xs[k] (List.getElem_mem hlt)
      clear hx
      obtain ⟨o, ho⟩ : ∃ o, xs[k] = o := ⟨_, rfl⟩
      rw [ho] at x0 x1 x2 hI1 hI2
      clear ho
      obtain ⟨cl, y, tk⟩ := o
      have hI1 : -9223372036854775808 ≤ cl ∧ cl ≤ 9223372036854775807 := hI1
      have hI2 : -9223372036854775808 ≤ y ∧ y ≤ 9223372036854775807 := hI2
      have x0 : wr.cell? ⟨b, fo + k * 3, none⟩ = some (.int .i64 cl) := x0
      have x1 : wr.cell? ⟨b, fo + k * 3 + 1, none⟩ = some (.int .i64 y) := x1
      have x2 : wr.cell? ⟨b, fo + k * 3 + 2, none⟩ = some (.bool tk) := x2
      have HV0 : Hid (Py w B (wr.alloc (.cells #[.int .i64 cl, .int .i64 y, .bool tk] 37)) t ra ma na ev (Fl t ev L) rb a c L ∧ At (wr.alloc (.cells #[.int .i64 cl, .int .i64 y, .bool tk] 37)) wr.heap.size #[.int .i64 cl, .int .i64 y, .bool tk] ∧ wr.heap.size ≠ ma ∧ ¬ Dx rb (.slice a L.length c) wr.heap.size) := ⟨HQ.out.1.next ((Below.refl _ _).alloc (Nat.le_refl _) _), At.new _ _ _, by have := HQ.out.1.pa.cm.lt; omega, fun e => e.elim (fun e => by have := HQ.out.1.da.da.lt; omega) fun e => by have := (HQ.out.1.da.row.lt _ e).2; omega⟩
      go_upto_region 13 with fail
      generalize wr.alloc (.cells #[.int .i64 cl, .int .i64 y, .bool tk] 37) = V at *
      generalize wr.heap.size = ob at *
      clear x0 x1 x2 hz
      by_cases h80 : 80 ≤ k
      · have h80' : (80 : Int) ≤ (k : Int) := by omega
        go_wp2_with (first | (go_at_call 11; refine Calls.mono (HW.out _ HV0.out.1.up) ?_; rintro e w9 ⟨rfl, b9⟩; have HB : Hid (Below w.heap.size w w9) := HV0.out.1.up.trans (b9.mono HV0.out.1.up.size); clear b9 HW))
        go_ret
        exact ⟨rfl, HB.out⟩
      · have h80' : ¬ (80 : Int) ≤ (k : Int) := by omega
        have y0 := HV0.out.2.1.c 1 _ rfl
        have yl := HV0.out.2.1.lt
        go_upto_region 15 with fail
        clear y0 yl
        go_cut [68] (fun v wc => v = .bool (decide (1099511627776 < y) || decide (y < -1099511627776)) ∧ wc = V)
        case first =>
          by_cases hy1 : 1099511627776 < y
          · go_wp2
            go_meet
            case rel => exact ⟨by simp [hy1], rfl⟩
          · by_cases hy2 : y < -1099511627776
            · go_wp2
              go_meet
              case rel => exact ⟨by simp [hy2], rfl⟩
            · go_wp2
              go_meet
              case rel => exact ⟨by simp; omega, rfl⟩
        case rest =>
        obtain ⟨rfl, hwc⟩ := hcut
        rename World => wy
        subst hwc
        obtain ⟨gb, hgb⟩ : ∃ gb, (decide (1099511627776 < y) || decide (y < -1099511627776)) = gb := ⟨_, rfl⟩
        rw [hgb]
        have HGb : Hid _ := hgb
        clear hgb
        go_upto_if 68 with fail
        go_cut [15] (fun v wc => (∃ cyc, v = .int .i64 cyc ∧ I41 cyc) ∧ wc = wy)
        case first =>
          cases gb
          · have hy : (decide (1099511627776 < y) || decide (y < -1099511627776)) = false := HGb.out
            have hy : ¬ 1099511627776 < y ∧ ¬ y < -1099511627776 := by simpa using hy
            go_wp2
            go_meet
            case rel => exact ⟨⟨_, rfl, by unfold I41; omega⟩, rfl⟩
          · have z1 := Int.lt_tmod_of_pos y (show (0 : Int) < 1099511627776 by omega)
            have z2 := Int.tmod_lt_of_pos y (show (0 : Int) < 1099511627776 by omega)
            have hm : IntKind.i64.wrap (Int.tmod y 1099511627776) = Int.tmod y 1099511627776 := by rw [IntKind.wrap_i64]; omega
            go_wp2
            go_meet
            case rel => exact ⟨⟨_, rfl, by unfold I41; omega⟩, rfl⟩
        case rest =>
          obtain ⟨⟨cyc, rfl, hcy⟩, hwc⟩ := hcut
          rename World => wx
          subst hwc
          have HV : Hid (Py w B wx t ra ma na ev (Fl t ev L) rb a c L ∧ At wx ob #[.int .i64 cl, .int .i64 y, .bool tk] ∧ ob ≠ ma ∧ ¬ Dx rb (.slice a L.length c) ob) := HV0.out
          clear HV0
          cases tk
          · go_upto_region 17 with fail
            have HF2 : Hid (Fl t ev L = Fl t ev L) := rfl
            have HQ2 : Hid (Few (Fl t ev L) ∧ L.length ≤ L.length + 1) := ⟨HQ.out.2.1, by omega⟩
            have HFa : Hid (∀ W n2 a2 c2, Py w B W t ra ma n2 ev (Fl t ev L) rb a2 c2 L → Calls Tryd.prog 14 #[.pointer (some ⟨ra, 0, none⟩), .int .i64 cl, .int .i64 cyc] W fun e w' => e = .returned (.bool (frB t ev (Fl t ev L) cl cyc)) ∧ Below W.heap.size W w') := fun W n2 a2 c2 h => free_any cl cyc W h.pa HEv.out HQ2.out.1 HOk.out
            have HFb : Hid (∀ W n2 a2 c2, Py w B W t ra ma n2 ev (Fl t ev L) rb a2 c2 L → Calls Tryd.prog 15 #[.pointer (some ⟨rb, 0, none⟩), .int .i64 cl, .int .i64 cyc] W fun e w' => e = .returned (.bool (frB t ev (Fl t ev L) cl cyc)) ∧ Below W.heap.size W w') := fun W n2 a2 c2 h => by have := dfree_any cl cyc W h.da HEv.out HOk.out (by have := HQ2.out.2; omega) hcy; rw [← HF2.out] at this; exact this
            have HUa : Hid (∀ W n2 a2 c2, Py w B W t ra ma n2 ev (Fl t ev L) rb a2 c2 L → Calls Tryd.prog 16 #[.pointer (some ⟨ra, 0, none⟩), .int .i64 cl, .int .i64 cyc] W fun e w' => e = .returned (.int .i64 ((Fl t ev L) cl (tn ev cyc))) ∧ Below W.heap.size W w') := fun W n2 a2 c2 h => used_any cl cyc W h.pa HEv.out ⟨hI1.1, hI1.2⟩ (by unfold I64; unfold I41 at hcy; omega)
            have HUb : Hid (∀ W n2 a2 c2, Py w B W t ra ma n2 ev (Fl t ev L) rb a2 c2 L → Calls Tryd.prog 17 #[.pointer (some ⟨rb, 0, none⟩), .int .i64 cl, .int .i64 cyc] W fun e w' => e = .returned (.int .i64 ((Fl t ev L) cl (tn ev cyc))) ∧ Below W.heap.size W w') := fun W n2 a2 c2 h => by have := dUsed_any cl cyc W h.da HEv.out HOk.out (by have := HQ2.out.2; omega); rw [← HF2.out] at this; exact this
            generalize (Fl t ev L) cl (tn ev cyc) = us at *
            generalize frB t ev (Fl t ev L) cl cyc = fq at *
            obtain ⟨L2, hL2⟩ : ∃ L2, L2 = L := ⟨_, rfl⟩
            subst hL2
            obtain ⟨f2, hf2⟩ : ∃ f2, Fl t ev L2 = f2 := ⟨_, rfl⟩
            have HF2 : Hid (f2 = Fl t ev L2) := hf2.symm
            rw [hf2] at HQ2 HFa HFb HUa HUb HV
            clear hf2
            have hnb : (fq != fq) = false := by simp
            have hnu : (us != us) = false := by simp
            refine wp_region_held_drew (S := fun W => At W ob #[.int .i64 cl, .int .i64 y, .bool false]) (by kernel_rfl) (HV.out.2.1.below (drew_up _) HV.out.2.1.lt) (fun hHeld => ?_)
            refine wpAnyH_take (i := 0) (v := .pointer (some ⟨ob, 2, none⟩)) rfl (by kernel_rfl) (by kernel_rfl) (by kernel_rfl) (fun _ _ _ h => h) (Or.inl ⟨by rfl, fun w' hSw => by (go_simp)⟩) hHeld ?_
            simp only [Act.put, List.setIfInBounds_toArray, List.set_cons_zero, List.set_cons_succ, List.getElem_cons_zero, List.getElem_toArray]
            refine wpAnyH_take (i := 1) (v := .bool false) rfl (by kernel_rfl) (by kernel_rfl) (by kernel_rfl) (fun _ _ _ h => h) (Or.inl ⟨by rfl, fun w' hSw => by (have y0 := hSw.c 2 _ rfl; have yl := hSw.lt; go_simp)⟩) hHeld ?_
            simp only [Act.put, List.setIfInBounds_toArray, List.set_cons_zero, List.set_cons_succ, List.getElem_cons_zero, List.getElem_cons_succ, List.getElem_toArray]
            refine wpAnyH_take (i := 2) (v := .bool false) rfl (by kernel_rfl) (by kernel_rfl) (by kernel_rfl) (fun _ _ _ h => h) (Or.inl ⟨by rfl, fun w' hSw => by (go_simp)⟩) hHeld ?_
            simp only [Act.put, List.setIfInBounds_toArray, List.set_cons_zero, List.set_cons_succ, List.getElem_cons_zero, List.getElem_cons_succ, List.getElem_toArray]
            refine wpAnyH_take (i := 3) (v := undef) rfl (by kernel_rfl) (by kernel_rfl) (by kernel_rfl) (fun _ _ _ h => h) (Or.inr ⟨by rfl, rfl⟩) hHeld ?_
            simp only [Act.put, List.setIfInBounds_toArray, List.set_cons_zero, List.set_cons_succ, List.getElem_cons_zero, List.getElem_cons_succ, List.getElem_toArray]
            refine wpAnyH_take (i := 4) (v := undef) rfl (by kernel_rfl) (by kernel_rfl) (by kernel_rfl) (fun _ _ _ h => h) (Or.inr ⟨by rfl, rfl⟩) hHeld ?_
            simp only [Act.put, List.setIfInBounds_toArray, List.set_cons_zero, List.set_cons_succ, List.getElem_cons_zero, List.getElem_cons_succ, List.getElem_toArray]
            refine wpAnyH_take (i := 5) (v := undef) rfl (by kernel_rfl) (by kernel_rfl) (by kernel_rfl) (fun _ _ _ h => h) (Or.inr ⟨by rfl, rfl⟩) hHeld ?_
            simp only [Act.put, List.setIfInBounds_toArray, List.set_cons_zero, List.set_cons_succ, List.getElem_cons_zero, List.getElem_cons_succ, List.getElem_toArray]
            refine wpAnyH_take (i := 6) (v := undef) rfl (by kernel_rfl) (by kernel_rfl) (by kernel_rfl) (fun _ _ _ h => h) (Or.inr ⟨by rfl, rfl⟩) hHeld ?_
            simp only [Act.put, List.setIfInBounds_toArray, List.set_cons_zero, List.set_cons_succ, List.getElem_cons_zero, List.getElem_cons_succ, List.getElem_toArray]
            refine wpAnyH_take (i := 7) (v := undef) rfl (by kernel_rfl) (by kernel_rfl) (by kernel_rfl) (fun _ _ _ h => h) (Or.inr ⟨by rfl, rfl⟩) hHeld ?_
            simp only [Act.put, List.setIfInBounds_toArray, List.set_cons_zero, List.set_cons_succ, List.getElem_cons_zero, List.getElem_cons_succ, List.getElem_toArray]
            refine wpAnyH_take (i := 8) (v := undef) rfl (by kernel_rfl) (by kernel_rfl) (by kernel_rfl) (fun _ _ _ h => h) (Or.inr ⟨by rfl, rfl⟩) hHeld ?_
            simp only [Act.put, List.setIfInBounds_toArray, List.set_cons_zero, List.set_cons_succ, List.getElem_cons_zero, List.getElem_cons_succ, List.getElem_toArray]
            refine wpAnyH_take (i := 9) (v := undef) rfl (by kernel_rfl) (by kernel_rfl) (by kernel_rfl) (fun _ _ _ h => h) (Or.inr ⟨by rfl, rfl⟩) hHeld ?_
            simp only [Act.put, List.setIfInBounds_toArray, List.set_cons_zero, List.set_cons_succ, List.getElem_cons_zero, List.getElem_cons_succ, List.getElem_toArray]
            refine wpAnyH_take (i := 10) (v := undef) rfl (by kernel_rfl) (by kernel_rfl) (by kernel_rfl) (fun _ _ _ h => h) (Or.inr ⟨by rfl, rfl⟩) hHeld ?_
            simp only [Act.put, List.setIfInBounds_toArray, List.set_cons_zero, List.set_cons_succ, List.getElem_cons_zero, List.getElem_cons_succ, List.getElem_toArray]
            refine wpAnyH_take (i := 11) (v := undef) rfl (by kernel_rfl) (by kernel_rfl) (by kernel_rfl) (fun _ _ _ h => h) (Or.inr ⟨by rfl, rfl⟩) hHeld ?_
            simp only [Act.put, List.setIfInBounds_toArray, List.set_cons_zero, List.set_cons_succ, List.getElem_cons_zero, List.getElem_cons_succ, List.getElem_toArray]
            refine wpAnyH_take (i := 12) (v := undef) rfl (by kernel_rfl) (by kernel_rfl) (by kernel_rfl) (fun _ _ _ h => h) (Or.inr ⟨by rfl, rfl⟩) hHeld ?_
            simp only [Act.put, List.setIfInBounds_toArray, List.set_cons_zero, List.set_cons_succ, List.getElem_cons_zero, List.getElem_cons_succ, List.getElem_toArray]
            refine wpAnyH_take (i := 13) (v := undef) rfl (by kernel_rfl) (by kernel_rfl) (by kernel_rfl) (fun _ _ _ h => h) (Or.inr ⟨by rfl, rfl⟩) hHeld ?_
            simp only [Act.put, List.setIfInBounds_toArray, List.set_cons_zero, List.set_cons_succ, List.getElem_cons_zero, List.getElem_cons_succ, List.getElem_toArray]
            have HV4 : Hid (Py w B wx.drew t ra ma na ev f2 rb a c L2 ∧ At wx.drew ob #[.int .i64 cl, .int .i64 y, .bool false]) := ⟨HV.out.1.next (drew_up _), HV.out.2.1.below (drew_up _) HV.out.2.1.lt⟩
            refine wpAnyH_take (i := 14) (v := .bool false) rfl (by kernel_rfl) (by kernel_rfl) (by kernel_rfl) (fun _ _ _ h => h) (Or.inl ⟨by rfl, fun w' hSw => by (go_simp)⟩) hHeld ?_
            simp only [Act.put, List.setIfInBounds_toArray, List.set_cons_zero, List.set_cons_succ, List.getElem_cons_zero, List.getElem_cons_succ, List.getElem_toArray]
            refine wpAnyH_take (i := 15) (v := .bool false) rfl (by kernel_rfl) (by kernel_rfl) (by kernel_rfl) (fun _ _ _ h => h) (Or.inl ⟨by rfl, fun w' hSw => by (go_simp)⟩) hHeld ?_
            simp only [Act.put, List.setIfInBounds_toArray, List.set_cons_zero, List.set_cons_succ, List.getElem_cons_zero, List.getElem_cons_succ, List.getElem_toArray]
            refine wpAnyH_take (i := 16) (v := .pointer (some ⟨ra, 0, none⟩)) rfl (by kernel_rfl) (by kernel_rfl) (by kernel_rfl) (fun _ _ _ h => h) (Or.inl ⟨by rfl, fun w' hSw => by (go_simp)⟩) hHeld ?_
            simp only [Act.put, List.setIfInBounds_toArray, List.set_cons_zero, List.set_cons_succ, List.getElem_cons_zero, List.getElem_cons_succ, List.getElem_toArray]
            refine wpAnyH_take (i := 17) (v := .pointer (some ⟨ob, 0, none⟩)) rfl (by kernel_rfl) (by kernel_rfl) (by kernel_rfl) (fun _ _ _ h => h) (Or.inl ⟨by rfl, fun w' hSw => by (go_simp)⟩) hHeld ?_
            simp only [Act.put, List.setIfInBounds_toArray, List.set_cons_zero, List.set_cons_succ, List.getElem_cons_zero, List.getElem_cons_succ, List.getElem_toArray]
            refine wpAnyH_take (i := 18) (v := .int .i64 cl) rfl (by kernel_rfl) (by kernel_rfl) (by kernel_rfl) (fun _ _ _ h => h) (Or.inl ⟨by rfl, fun w' hSw => by (have y0 := hSw.c 0 _ rfl; have yl := hSw.lt; go_simp)⟩) hHeld ?_
            simp only [Act.put, List.setIfInBounds_toArray, List.set_cons_zero, List.set_cons_succ, List.getElem_cons_zero, List.getElem_cons_succ, List.getElem_toArray]
            refine wpAnyH_take (i := 19) (v := .int .i64 cyc) rfl (by kernel_rfl) (by kernel_rfl) (by kernel_rfl) (fun _ _ _ h => h) (Or.inl ⟨by rfl, fun w' hSw => by (go_simp)⟩) hHeld ?_
            simp only [Act.put, List.setIfInBounds_toArray, List.set_cons_zero, List.set_cons_succ, List.getElem_cons_zero, List.getElem_cons_succ, List.getElem_toArray]
            refine wpAnyH_take (i := 21) (v := .pointer (some ⟨rb, 0, none⟩)) rfl (by kernel_rfl) (by kernel_rfl) (by kernel_rfl) (fun _ _ _ h => h) (Or.inl ⟨by rfl, fun w' hSw => by (go_simp)⟩) hHeld ?_
            simp only [Act.put, List.setIfInBounds_toArray, List.set_cons_zero, List.set_cons_succ, List.getElem_cons_zero, List.getElem_cons_succ, List.getElem_toArray]
            refine wpAnyH_take (i := 22) (v := .pointer (some ⟨ob, 0, none⟩)) rfl (by kernel_rfl) (by kernel_rfl) (by kernel_rfl) (fun _ _ _ h => h) (Or.inl ⟨by rfl, fun w' hSw => by (go_simp)⟩) hHeld ?_
            simp only [Act.put, List.setIfInBounds_toArray, List.set_cons_zero, List.set_cons_succ, List.getElem_cons_zero, List.getElem_cons_succ, List.getElem_toArray]
            refine wpAnyH_take (i := 23) (v := .int .i64 cl) rfl (by kernel_rfl) (by kernel_rfl) (by kernel_rfl) (fun _ _ _ h => h) (Or.inl ⟨by rfl, fun w' hSw => by (have y0 := hSw.c 0 _ rfl; have yl := hSw.lt; go_simp)⟩) hHeld ?_
            simp only [Act.put, List.setIfInBounds_toArray, List.set_cons_zero, List.set_cons_succ, List.getElem_cons_zero, List.getElem_cons_succ, List.getElem_toArray]
            refine wpAnyH_take (i := 24) (v := .int .i64 cyc) rfl (by kernel_rfl) (by kernel_rfl) (by kernel_rfl) (fun _ _ _ h => h) (Or.inl ⟨by rfl, fun w' hSw => by (go_simp)⟩) hHeld ?_
            simp only [Act.put, List.setIfInBounds_toArray, List.set_cons_zero, List.set_cons_succ, List.getElem_cons_zero, List.getElem_cons_succ, List.getElem_toArray]
            refine wpAnyH_ready (rs := [20]) (by kernel_rfl) (by simp) ?_
            refine AllReadyH.cons rfl (fun K hK => ?_) AllReadyH.nil
            go_simp
            refine Calls.mono (HFa.out _ _ _ _ HV4.out.1) ?_
            rintro e w5 ⟨rfl, bw5⟩
            have HV5 : Hid (Py w B w5 t ra ma na ev f2 rb a c L2 ∧ At w5 ob #[.int .i64 cl, .int .i64 y, .bool false]) := ⟨HV4.out.1.next bw5, HV4.out.2.below bw5 HV4.out.2.lt⟩
            clear bw5 HFa
            refine hK.out _ _ HV5.out.2 (fun hHeld => ?_)
            clear hK K
            refine wpAnyH_ready (rs := [25]) (by kernel_rfl) (by simp) ?_
            refine AllReadyH.cons rfl (fun K hK => ?_) AllReadyH.nil
            go_simp
            refine Calls.mono (HFb.out _ _ _ _ HV5.out.1) ?_
            rintro e w6 ⟨rfl, bw6⟩
            have HV6 : Hid (Py w B w6 t ra ma na ev f2 rb a c L2 ∧ At w6 ob #[.int .i64 cl, .int .i64 y, .bool false]) := ⟨HV5.out.1.next bw6, HV5.out.2.below bw6 HV5.out.2.lt⟩
            clear bw6 HFb
            refine hK.out _ _ HV6.out.2 (fun hHeld => ?_)
            clear hK K
            refine wpAnyH_take (i := 26) (v := .bool false) rfl (by kernel_rfl) (by kernel_rfl) (by kernel_rfl) (fun _ _ _ h => h) (Or.inl ⟨by rfl, fun w' hSw => by (go_simp)⟩) hHeld ?_
            simp only [Act.put, List.setIfInBounds_toArray, List.set_cons_zero, List.set_cons_succ, List.getElem_cons_zero, List.getElem_cons_succ, List.getElem_toArray]
            refine wpAnyH_take (i := 27) (v := .bool false) rfl (by kernel_rfl) (by kernel_rfl) (by kernel_rfl) (fun _ _ _ h => h) (Or.inl ⟨by rfl, fun w' hSw => by (go_simp)⟩) hHeld ?_
            simp only [Act.put, List.setIfInBounds_toArray, List.set_cons_zero, List.set_cons_succ, List.getElem_cons_zero, List.getElem_cons_succ, List.getElem_toArray]
            refine wpAnyH_take (i := 28) (v := .bool false) rfl (by kernel_rfl) (by kernel_rfl) (by kernel_rfl) (fun _ _ _ h => h) (Or.inl ⟨by rfl, fun w' hSw => by (go_simp)⟩) hHeld ?_
            simp only [Act.put, List.setIfInBounds_toArray, List.set_cons_zero, List.set_cons_succ, List.getElem_cons_zero, List.getElem_cons_succ, List.getElem_toArray]
            refine wpAnyH_take (i := 29) (v := .pointer (some ⟨ra, 0, none⟩)) rfl (by kernel_rfl) (by kernel_rfl) (by kernel_rfl) (fun _ _ _ h => h) (Or.inl ⟨by rfl, fun w' hSw => by (go_simp)⟩) hHeld ?_
            simp only [Act.put, List.setIfInBounds_toArray, List.set_cons_zero, List.set_cons_succ, List.getElem_cons_zero, List.getElem_cons_succ, List.getElem_toArray]
            refine wpAnyH_take (i := 30) (v := .pointer (some ⟨ob, 0, none⟩)) rfl (by kernel_rfl) (by kernel_rfl) (by kernel_rfl) (fun _ _ _ h => h) (Or.inl ⟨by rfl, fun w' hSw => by (go_simp)⟩) hHeld ?_
            simp only [Act.put, List.setIfInBounds_toArray, List.set_cons_zero, List.set_cons_succ, List.getElem_cons_zero, List.getElem_cons_succ, List.getElem_toArray]
            refine wpAnyH_take (i := 31) (v := .int .i64 cl) rfl (by kernel_rfl) (by kernel_rfl) (by kernel_rfl) (fun _ _ _ h => h) (Or.inl ⟨by rfl, fun w' hSw => by (have y0 := hSw.c 0 _ rfl; have yl := hSw.lt; go_simp)⟩) hHeld ?_
            simp only [Act.put, List.setIfInBounds_toArray, List.set_cons_zero, List.set_cons_succ, List.getElem_cons_zero, List.getElem_cons_succ, List.getElem_toArray]
            refine wpAnyH_take (i := 32) (v := .int .i64 cyc) rfl (by kernel_rfl) (by kernel_rfl) (by kernel_rfl) (fun _ _ _ h => h) (Or.inl ⟨by rfl, fun w' hSw => by (go_simp)⟩) hHeld ?_
            simp only [Act.put, List.setIfInBounds_toArray, List.set_cons_zero, List.set_cons_succ, List.getElem_cons_zero, List.getElem_cons_succ, List.getElem_toArray]
            refine wpAnyH_take (i := 34) (v := .pointer (some ⟨rb, 0, none⟩)) rfl (by kernel_rfl) (by kernel_rfl) (by kernel_rfl) (fun _ _ _ h => h) (Or.inl ⟨by rfl, fun w' hSw => by (go_simp)⟩) hHeld ?_
            simp only [Act.put, List.setIfInBounds_toArray, List.set_cons_zero, List.set_cons_succ, List.getElem_cons_zero, List.getElem_cons_succ, List.getElem_toArray]
            refine wpAnyH_take (i := 35) (v := .pointer (some ⟨ob, 0, none⟩)) rfl (by kernel_rfl) (by kernel_rfl) (by kernel_rfl) (fun _ _ _ h => h) (Or.inl ⟨by rfl, fun w' hSw => by (go_simp)⟩) hHeld ?_
            simp only [Act.put, List.setIfInBounds_toArray, List.set_cons_zero, List.set_cons_succ, List.getElem_cons_zero, List.getElem_cons_succ, List.getElem_toArray]
            refine wpAnyH_take (i := 36) (v := .int .i64 cl) rfl (by kernel_rfl) (by kernel_rfl) (by kernel_rfl) (fun _ _ _ h => h) (Or.inl ⟨by rfl, fun w' hSw => by (have y0 := hSw.c 0 _ rfl; have yl := hSw.lt; go_simp)⟩) hHeld ?_
            simp only [Act.put, List.setIfInBounds_toArray, List.set_cons_zero, List.set_cons_succ, List.getElem_cons_zero, List.getElem_cons_succ, List.getElem_toArray]
            refine wpAnyH_take (i := 37) (v := .int .i64 cyc) rfl (by kernel_rfl) (by kernel_rfl) (by kernel_rfl) (fun _ _ _ h => h) (Or.inl ⟨by rfl, fun w' hSw => by (go_simp)⟩) hHeld ?_
            simp only [Act.put, List.setIfInBounds_toArray, List.set_cons_zero, List.set_cons_succ, List.getElem_cons_zero, List.getElem_cons_succ, List.getElem_toArray]
            refine wpAnyH_ready (rs := [33]) (by kernel_rfl) (by simp) ?_
            refine AllReadyH.cons rfl (fun K hK => ?_) AllReadyH.nil
            go_simp
            refine Calls.mono (HUa.out _ _ _ _ HV6.out.1) ?_
            rintro e w7 ⟨rfl, bw7⟩
            have HV7 : Hid (Py w B w7 t ra ma na ev f2 rb a c L2 ∧ At w7 ob #[.int .i64 cl, .int .i64 y, .bool false]) := ⟨HV6.out.1.next bw7, HV6.out.2.below bw7 HV6.out.2.lt⟩
            clear bw7 HUa
            refine hK.out _ _ HV7.out.2 (fun hHeld => ?_)
            clear hK K
            refine wpAnyH_ready (rs := [38]) (by kernel_rfl) (by simp) ?_
            refine AllReadyH.cons rfl (fun K hK => ?_) AllReadyH.nil
            go_simp
            refine Calls.mono (HUb.out _ _ _ _ HV7.out.1) ?_
            rintro e w8 ⟨rfl, bw8⟩
            have HV8 : Hid (Py w B w8 t ra ma na ev f2 rb a c L2 ∧ At w8 ob #[.int .i64 cl, .int .i64 y, .bool false]) := ⟨HV7.out.1.next bw8, HV7.out.2.below bw8 HV7.out.2.lt⟩
            clear bw8 HUb
            refine hK.out _ _ HV8.out.2 (fun hHeld => ?_)
            clear hK K
            refine wpAnyH_take (i := 39) (v := .bool false) rfl (by kernel_rfl) (by kernel_rfl) (by kernel_rfl) (fun _ _ _ h => h) (Or.inl ⟨by rfl, fun w' hSw => by (go_simp)⟩) hHeld ?_
            simp only [Act.put, List.setIfInBounds_toArray, List.set_cons_zero, List.set_cons_succ, List.getElem_cons_zero, List.getElem_cons_succ, List.getElem_toArray]
            refine wpAnyH_take (i := 40) (v := .bool false) rfl (by kernel_rfl) (by kernel_rfl) (by kernel_rfl) (fun _ _ _ h => h) (Or.inl ⟨by rfl, fun w' hSw => by (go_simp)⟩) hHeld ?_
            simp only [Act.put, List.setIfInBounds_toArray, List.set_cons_zero, List.set_cons_succ, List.getElem_cons_zero, List.getElem_cons_succ, List.getElem_toArray]
            refine wpAnyH_done (by kernel_rfl) ?_ _
            go_wp2
            go_roundw
            case rel => exact ⟨k + 1, na, L2, a, c, by omega, by go_num, by rw [← HF2.out]; exact HV8.out.1, by rw [← HF2.out]; exact HQ2.out.1, by omega, by have := HQ2.out.2; omega⟩
            case measure => simp [intOf]; omega
          · go_upto_region 17 with fail
            have HTa : Hid (∀ W, Py w B W t ra ma na ev (Fl t ev L) rb a c L → Calls Tryd.prog 12 #[.pointer (some ⟨ra, 0, none⟩), .int .i64 cl, .int .i64 cyc] W fun e w' => e = .returned (.bool (frB t ev (Fl t ev L) cl cyc)) ∧ ∃ n', Py w B w' t ra ma n' ev (tkF t ev (Fl t ev L) cl cyc) rb a c L ∧ n' ≤ na + 4 ∧ ∀ {ob : Nat} {cs : Array Value}, At W ob cs → ob ≠ ma → At w' ob cs) := fun W h => (take_any cl cyc W h.pa HEv.out HQ.out.2.1 HOk.out (by omega)).mono fun e w' h' => by
              obtain ⟨e1, n', r', l', f'⟩ := h'
              exact ⟨e1, n', h.setA r' f', l', fun ha hne => at_frx ha f' hne⟩
            have HTb : Hid (∀ W n2, Py w B W t ra ma n2 ev (tkF t ev (Fl t ev L) cl cyc) rb a c L → Calls Tryd.prog 13 #[.pointer (some ⟨rb, 0, none⟩), .int .i64 cl, .int .i64 cyc] W fun e w' => e = .returned (.bool (frB t ev (Fl t ev L) cl cyc)) ∧ ∃ a' c', Py w B w' t ra ma n2 ev (tkF t ev (Fl t ev L) cl cyc) rb a' c' (tkL t ev L cl cyc) ∧ ∀ {ob : Nat} {cs : Array Value}, At W ob cs → ¬ Dx rb (.slice a L.length c) ob → At w' ob cs) := fun W n2 h => (dtake_any cl cyc W h.da HEv.out HOk.out (by omega) hcy).mono fun e w' h' => by
              obtain ⟨e1, a', c', d', f'⟩ := h'
              exact ⟨e1, a', c', h.setB d' f', fun ha hne => at_frx ha f' hne⟩
            have HF2 : Hid (tkF t ev (Fl t ev L) cl cyc = Fl t ev (tkL t ev L cl cyc)) := (tkL_Fl t ev L cl cyc).symm
            have hlen2 : (tkL t ev L cl cyc).length ≤ L.length + 1 := by unfold tkL; split <;> simp
            have HQ2 : Hid (Few (tkF t ev (Fl t ev L) cl cyc) ∧ (tkL t ev L cl cyc).length ≤ L.length + 1) := ⟨tk_few HQ.out.2.1 HOk.out _ _, hlen2⟩
            have HFa : Hid (∀ W n2 a2 c2, Py w B W t ra ma n2 ev (tkF t ev (Fl t ev L) cl cyc) rb a2 c2 (tkL t ev L cl cyc) → Calls Tryd.prog 14 #[.pointer (some ⟨ra, 0, none⟩), .int .i64 cl, .int .i64 cyc] W fun e w' => e = .returned (.bool (frB t ev (tkF t ev (Fl t ev L) cl cyc) cl cyc)) ∧ Below W.heap.size W w') := fun W n2 a2 c2 h => free_any cl cyc W h.pa HEv.out HQ2.out.1 HOk.out
            have HFb : Hid (∀ W n2 a2 c2, Py w B W t ra ma n2 ev (tkF t ev (Fl t ev L) cl cyc) rb a2 c2 (tkL t ev L cl cyc) → Calls Tryd.prog 15 #[.pointer (some ⟨rb, 0, none⟩), .int .i64 cl, .int .i64 cyc] W fun e w' => e = .returned (.bool (frB t ev (tkF t ev (Fl t ev L) cl cyc) cl cyc)) ∧ Below W.heap.size W w') := fun W n2 a2 c2 h => by have := dfree_any cl cyc W h.da HEv.out HOk.out (by have := HQ2.out.2; omega) hcy; rw [← HF2.out] at this; exact this
            have HUa : Hid (∀ W n2 a2 c2, Py w B W t ra ma n2 ev (tkF t ev (Fl t ev L) cl cyc) rb a2 c2 (tkL t ev L cl cyc) → Calls Tryd.prog 16 #[.pointer (some ⟨ra, 0, none⟩), .int .i64 cl, .int .i64 cyc] W fun e w' => e = .returned (.int .i64 ((tkF t ev (Fl t ev L) cl cyc) cl (tn ev cyc))) ∧ Below W.heap.size W w') := fun W n2 a2 c2 h => used_any cl cyc W h.pa HEv.out ⟨hI1.1, hI1.2⟩ (by unfold I64; unfold I41 at hcy; omega)
            have HUb : Hid (∀ W n2 a2 c2, Py w B W t ra ma n2 ev (tkF t ev (Fl t ev L) cl cyc) rb a2 c2 (tkL t ev L cl cyc) → Calls Tryd.prog 17 #[.pointer (some ⟨rb, 0, none⟩), .int .i64 cl, .int .i64 cyc] W fun e w' => e = .returned (.int .i64 ((tkF t ev (Fl t ev L) cl cyc) cl (tn ev cyc))) ∧ Below W.heap.size W w') := fun W n2 a2 c2 h => by have := dUsed_any cl cyc W h.da HEv.out HOk.out (by have := HQ2.out.2; omega); rw [← HF2.out] at this; exact this
            generalize (tkF t ev (Fl t ev L) cl cyc) cl (tn ev cyc) = us at *
            generalize frB t ev (tkF t ev (Fl t ev L) cl cyc) cl cyc = fq at *
            generalize frB t ev (Fl t ev L) cl cyc = fb at *
            clear hlen2
            obtain ⟨L2, hL2⟩ : ∃ L2, tkL t ev L cl cyc = L2 := ⟨_, rfl⟩
            obtain ⟨f2, hf2⟩ : ∃ f2, tkF t ev (Fl t ev L) cl cyc = f2 := ⟨_, rfl⟩
            rw [hL2] at HTb HF2 HQ2 HFa HFb HUa HUb
            rw [hf2] at HTa HTb HF2 HQ2 HFa HFb HUa HUb
            clear hL2 hf2
            have hnb : (fq != fq) = false := by simp
            have hnu : (us != us) = false := by simp
            refine wp_region_held_drew (S := fun W => At W ob #[.int .i64 cl, .int .i64 y, .bool true]) (by kernel_rfl) (HV.out.2.1.below (drew_up _) HV.out.2.1.lt) (fun hHeld => ?_)
            refine wpAnyH_take (i := 0) (v := .pointer (some ⟨ob, 2, none⟩)) rfl (by kernel_rfl) (by kernel_rfl) (by kernel_rfl) (fun _ _ _ h => h) (Or.inl ⟨by rfl, fun w' hSw => by (go_simp)⟩) hHeld ?_
            simp only [Act.put, List.setIfInBounds_toArray, List.set_cons_zero, List.set_cons_succ, List.getElem_cons_zero, List.getElem_toArray]
            refine wpAnyH_take (i := 1) (v := .bool true) rfl (by kernel_rfl) (by kernel_rfl) (by kernel_rfl) (fun _ _ _ h => h) (Or.inl ⟨by rfl, fun w' hSw => by (have y0 := hSw.c 2 _ rfl; have yl := hSw.lt; go_simp)⟩) hHeld ?_
            simp only [Act.put, List.setIfInBounds_toArray, List.set_cons_zero, List.set_cons_succ, List.getElem_cons_zero, List.getElem_cons_succ, List.getElem_toArray]
            refine wpAnyH_take (i := 2) (v := .bool true) rfl (by kernel_rfl) (by kernel_rfl) (by kernel_rfl) (fun _ _ _ h => h) (Or.inl ⟨by rfl, fun w' hSw => by (go_simp)⟩) hHeld ?_
            simp only [Act.put, List.setIfInBounds_toArray, List.set_cons_zero, List.set_cons_succ, List.getElem_cons_zero, List.getElem_cons_succ, List.getElem_toArray]
            refine wpAnyH_take (i := 3) (v := .pointer (some ⟨ra, 0, none⟩)) rfl (by kernel_rfl) (by kernel_rfl) (by kernel_rfl) (fun _ _ _ h => h) (Or.inl ⟨by rfl, fun w' hSw => by (go_simp)⟩) hHeld ?_
            simp only [Act.put, List.setIfInBounds_toArray, List.set_cons_zero, List.set_cons_succ, List.getElem_cons_zero, List.getElem_cons_succ, List.getElem_toArray]
            refine wpAnyH_take (i := 4) (v := .pointer (some ⟨ob, 0, none⟩)) rfl (by kernel_rfl) (by kernel_rfl) (by kernel_rfl) (fun _ _ _ h => h) (Or.inl ⟨by rfl, fun w' hSw => by (go_simp)⟩) hHeld ?_
            simp only [Act.put, List.setIfInBounds_toArray, List.set_cons_zero, List.set_cons_succ, List.getElem_cons_zero, List.getElem_cons_succ, List.getElem_toArray]
            refine wpAnyH_take (i := 5) (v := .int .i64 cl) rfl (by kernel_rfl) (by kernel_rfl) (by kernel_rfl) (fun _ _ _ h => h) (Or.inl ⟨by rfl, fun w' hSw => by (have y0 := hSw.c 0 _ rfl; have yl := hSw.lt; go_simp)⟩) hHeld ?_
            simp only [Act.put, List.setIfInBounds_toArray, List.set_cons_zero, List.set_cons_succ, List.getElem_cons_zero, List.getElem_cons_succ, List.getElem_toArray]
            refine wpAnyH_take (i := 6) (v := .int .i64 cyc) rfl (by kernel_rfl) (by kernel_rfl) (by kernel_rfl) (fun _ _ _ h => h) (Or.inl ⟨by rfl, fun w' hSw => by (go_simp)⟩) hHeld ?_
            simp only [Act.put, List.setIfInBounds_toArray, List.set_cons_zero, List.set_cons_succ, List.getElem_cons_zero, List.getElem_cons_succ, List.getElem_toArray]
            refine wpAnyH_take (i := 8) (v := .pointer (some ⟨rb, 0, none⟩)) rfl (by kernel_rfl) (by kernel_rfl) (by kernel_rfl) (fun _ _ _ h => h) (Or.inl ⟨by rfl, fun w' hSw => by (go_simp)⟩) hHeld ?_
            simp only [Act.put, List.setIfInBounds_toArray, List.set_cons_zero, List.set_cons_succ, List.getElem_cons_zero, List.getElem_cons_succ, List.getElem_toArray]
            refine wpAnyH_take (i := 9) (v := .pointer (some ⟨ob, 0, none⟩)) rfl (by kernel_rfl) (by kernel_rfl) (by kernel_rfl) (fun _ _ _ h => h) (Or.inl ⟨by rfl, fun w' hSw => by (go_simp)⟩) hHeld ?_
            simp only [Act.put, List.setIfInBounds_toArray, List.set_cons_zero, List.set_cons_succ, List.getElem_cons_zero, List.getElem_cons_succ, List.getElem_toArray]
            refine wpAnyH_take (i := 10) (v := .int .i64 cl) rfl (by kernel_rfl) (by kernel_rfl) (by kernel_rfl) (fun _ _ _ h => h) (Or.inl ⟨by rfl, fun w' hSw => by (have y0 := hSw.c 0 _ rfl; have yl := hSw.lt; go_simp)⟩) hHeld ?_
            simp only [Act.put, List.setIfInBounds_toArray, List.set_cons_zero, List.set_cons_succ, List.getElem_cons_zero, List.getElem_cons_succ, List.getElem_toArray]
            refine wpAnyH_take (i := 11) (v := .int .i64 cyc) rfl (by kernel_rfl) (by kernel_rfl) (by kernel_rfl) (fun _ _ _ h => h) (Or.inl ⟨by rfl, fun w' hSw => by (go_simp)⟩) hHeld ?_
            simp only [Act.put, List.setIfInBounds_toArray, List.set_cons_zero, List.set_cons_succ, List.getElem_cons_zero, List.getElem_cons_succ, List.getElem_toArray]
            refine wpAnyH_ready (rs := [7]) (by kernel_rfl) (by simp) ?_
            refine AllReadyH.cons rfl (fun K hK => ?_) AllReadyH.nil
            go_simp
            refine Calls.mono (HTa.out _ (HV.out.1.next (drew_up _))) ?_
            rintro e w3 ⟨rfl, n3, t3, l3, o3⟩
            have HV3 : Hid (Py w B w3 t ra ma n3 ev f2 rb a c L ∧ At w3 ob #[.int .i64 cl, .int .i64 y, .bool true] ∧ n3 ≤ na + 4) := ⟨t3, o3 (HV.out.2.1.below (drew_up _) HV.out.2.1.lt) HV.out.2.2.1, l3⟩
            clear t3 l3 o3 HTa
            refine hK.out _ _ HV3.out.2.1 (fun hHeld => ?_)
            clear hK K
            refine wpAnyH_ready (rs := [12]) (by kernel_rfl) (by simp) ?_
            refine AllReadyH.cons rfl (fun K hK => ?_) AllReadyH.nil
            go_simp
            refine Calls.mono (HTb.out _ _ HV3.out.1) ?_
            rintro e w4 ⟨rfl, a4, c4, t4, o4⟩
            have HV4 : Hid (Py w B w4 t ra ma n3 ev f2 rb a4 c4 L2 ∧ At w4 ob #[.int .i64 cl, .int .i64 y, .bool true]) := ⟨t4, o4 HV3.out.2.1 HV.out.2.2.2⟩
            clear t4 o4 HTb
            refine hK.out _ _ HV4.out.2 (fun hHeld => ?_)
            clear hK K
            refine wpAnyH_take (i := 13) (v := .bool false) rfl (by kernel_rfl) (by kernel_rfl) (by kernel_rfl) (fun _ _ _ h => h) (Or.inl ⟨by rfl, fun w' hSw => by (go_simp)⟩) hHeld ?_
            simp only [Act.put, List.setIfInBounds_toArray, List.set_cons_zero, List.set_cons_succ, List.getElem_cons_zero, List.getElem_cons_succ, List.getElem_toArray]
            refine wpAnyH_take (i := 14) (v := .bool false) rfl (by kernel_rfl) (by kernel_rfl) (by kernel_rfl) (fun _ _ _ h => h) (Or.inl ⟨by rfl, fun w' hSw => by (go_simp)⟩) hHeld ?_
            simp only [Act.put, List.setIfInBounds_toArray, List.set_cons_zero, List.set_cons_succ, List.getElem_cons_zero, List.getElem_cons_succ, List.getElem_toArray]
            refine wpAnyH_take (i := 15) (v := .bool false) rfl (by kernel_rfl) (by kernel_rfl) (by kernel_rfl) (fun _ _ _ h => h) (Or.inl ⟨by rfl, fun w' hSw => by (go_simp)⟩) hHeld ?_
            simp only [Act.put, List.setIfInBounds_toArray, List.set_cons_zero, List.set_cons_succ, List.getElem_cons_zero, List.getElem_cons_succ, List.getElem_toArray]
            refine wpAnyH_take (i := 16) (v := .pointer (some ⟨ra, 0, none⟩)) rfl (by kernel_rfl) (by kernel_rfl) (by kernel_rfl) (fun _ _ _ h => h) (Or.inl ⟨by rfl, fun w' hSw => by (go_simp)⟩) hHeld ?_
            simp only [Act.put, List.setIfInBounds_toArray, List.set_cons_zero, List.set_cons_succ, List.getElem_cons_zero, List.getElem_cons_succ, List.getElem_toArray]
            refine wpAnyH_take (i := 17) (v := .pointer (some ⟨ob, 0, none⟩)) rfl (by kernel_rfl) (by kernel_rfl) (by kernel_rfl) (fun _ _ _ h => h) (Or.inl ⟨by rfl, fun w' hSw => by (go_simp)⟩) hHeld ?_
            simp only [Act.put, List.setIfInBounds_toArray, List.set_cons_zero, List.set_cons_succ, List.getElem_cons_zero, List.getElem_cons_succ, List.getElem_toArray]
            refine wpAnyH_take (i := 18) (v := .int .i64 cl) rfl (by kernel_rfl) (by kernel_rfl) (by kernel_rfl) (fun _ _ _ h => h) (Or.inl ⟨by rfl, fun w' hSw => by (have y0 := hSw.c 0 _ rfl; have yl := hSw.lt; go_simp)⟩) hHeld ?_
            simp only [Act.put, List.setIfInBounds_toArray, List.set_cons_zero, List.set_cons_succ, List.getElem_cons_zero, List.getElem_cons_succ, List.getElem_toArray]
            refine wpAnyH_take (i := 19) (v := .int .i64 cyc) rfl (by kernel_rfl) (by kernel_rfl) (by kernel_rfl) (fun _ _ _ h => h) (Or.inl ⟨by rfl, fun w' hSw => by (go_simp)⟩) hHeld ?_
            simp only [Act.put, List.setIfInBounds_toArray, List.set_cons_zero, List.set_cons_succ, List.getElem_cons_zero, List.getElem_cons_succ, List.getElem_toArray]
            refine wpAnyH_take (i := 21) (v := .pointer (some ⟨rb, 0, none⟩)) rfl (by kernel_rfl) (by kernel_rfl) (by kernel_rfl) (fun _ _ _ h => h) (Or.inl ⟨by rfl, fun w' hSw => by (go_simp)⟩) hHeld ?_
            simp only [Act.put, List.setIfInBounds_toArray, List.set_cons_zero, List.set_cons_succ, List.getElem_cons_zero, List.getElem_cons_succ, List.getElem_toArray]
            refine wpAnyH_take (i := 22) (v := .pointer (some ⟨ob, 0, none⟩)) rfl (by kernel_rfl) (by kernel_rfl) (by kernel_rfl) (fun _ _ _ h => h) (Or.inl ⟨by rfl, fun w' hSw => by (go_simp)⟩) hHeld ?_
            simp only [Act.put, List.setIfInBounds_toArray, List.set_cons_zero, List.set_cons_succ, List.getElem_cons_zero, List.getElem_cons_succ, List.getElem_toArray]
            refine wpAnyH_take (i := 23) (v := .int .i64 cl) rfl (by kernel_rfl) (by kernel_rfl) (by kernel_rfl) (fun _ _ _ h => h) (Or.inl ⟨by rfl, fun w' hSw => by (have y0 := hSw.c 0 _ rfl; have yl := hSw.lt; go_simp)⟩) hHeld ?_
            simp only [Act.put, List.setIfInBounds_toArray, List.set_cons_zero, List.set_cons_succ, List.getElem_cons_zero, List.getElem_cons_succ, List.getElem_toArray]
            refine wpAnyH_take (i := 24) (v := .int .i64 cyc) rfl (by kernel_rfl) (by kernel_rfl) (by kernel_rfl) (fun _ _ _ h => h) (Or.inl ⟨by rfl, fun w' hSw => by (go_simp)⟩) hHeld ?_
            simp only [Act.put, List.setIfInBounds_toArray, List.set_cons_zero, List.set_cons_succ, List.getElem_cons_zero, List.getElem_cons_succ, List.getElem_toArray]
            refine wpAnyH_ready (rs := [20]) (by kernel_rfl) (by simp) ?_
            refine AllReadyH.cons rfl (fun K hK => ?_) AllReadyH.nil
            go_simp
            refine Calls.mono (HFa.out _ _ _ _ HV4.out.1) ?_
            rintro e w5 ⟨rfl, bw5⟩
            have HV5 : Hid (Py w B w5 t ra ma n3 ev f2 rb a4 c4 L2 ∧ At w5 ob #[.int .i64 cl, .int .i64 y, .bool true]) := ⟨HV4.out.1.next bw5, HV4.out.2.below bw5 HV4.out.2.lt⟩
            clear bw5 HFa
            refine hK.out _ _ HV5.out.2 (fun hHeld => ?_)
            clear hK K
            refine wpAnyH_ready (rs := [25]) (by kernel_rfl) (by simp) ?_
            refine AllReadyH.cons rfl (fun K hK => ?_) AllReadyH.nil
            go_simp
            refine Calls.mono (HFb.out _ _ _ _ HV5.out.1) ?_
            rintro e w6 ⟨rfl, bw6⟩
            have HV6 : Hid (Py w B w6 t ra ma n3 ev f2 rb a4 c4 L2 ∧ At w6 ob #[.int .i64 cl, .int .i64 y, .bool true]) := ⟨HV5.out.1.next bw6, HV5.out.2.below bw6 HV5.out.2.lt⟩
            clear bw6 HFb
            refine hK.out _ _ HV6.out.2 (fun hHeld => ?_)
            clear hK K
            refine wpAnyH_take (i := 26) (v := .bool false) rfl (by kernel_rfl) (by kernel_rfl) (by kernel_rfl) (fun _ _ _ h => h) (Or.inl ⟨by rfl, fun w' hSw => by (go_simp)⟩) hHeld ?_
            simp only [Act.put, List.setIfInBounds_toArray, List.set_cons_zero, List.set_cons_succ, List.getElem_cons_zero, List.getElem_cons_succ, List.getElem_toArray]
            refine wpAnyH_take (i := 27) (v := .bool false) rfl (by kernel_rfl) (by kernel_rfl) (by kernel_rfl) (fun _ _ _ h => h) (Or.inl ⟨by rfl, fun w' hSw => by (go_simp)⟩) hHeld ?_
            simp only [Act.put, List.setIfInBounds_toArray, List.set_cons_zero, List.set_cons_succ, List.getElem_cons_zero, List.getElem_cons_succ, List.getElem_toArray]
            refine wpAnyH_take (i := 28) (v := .bool false) rfl (by kernel_rfl) (by kernel_rfl) (by kernel_rfl) (fun _ _ _ h => h) (Or.inl ⟨by rfl, fun w' hSw => by (go_simp)⟩) hHeld ?_
            simp only [Act.put, List.setIfInBounds_toArray, List.set_cons_zero, List.set_cons_succ, List.getElem_cons_zero, List.getElem_cons_succ, List.getElem_toArray]
            refine wpAnyH_take (i := 29) (v := .pointer (some ⟨ra, 0, none⟩)) rfl (by kernel_rfl) (by kernel_rfl) (by kernel_rfl) (fun _ _ _ h => h) (Or.inl ⟨by rfl, fun w' hSw => by (go_simp)⟩) hHeld ?_
            simp only [Act.put, List.setIfInBounds_toArray, List.set_cons_zero, List.set_cons_succ, List.getElem_cons_zero, List.getElem_cons_succ, List.getElem_toArray]
            refine wpAnyH_take (i := 30) (v := .pointer (some ⟨ob, 0, none⟩)) rfl (by kernel_rfl) (by kernel_rfl) (by kernel_rfl) (fun _ _ _ h => h) (Or.inl ⟨by rfl, fun w' hSw => by (go_simp)⟩) hHeld ?_
            simp only [Act.put, List.setIfInBounds_toArray, List.set_cons_zero, List.set_cons_succ, List.getElem_cons_zero, List.getElem_cons_succ, List.getElem_toArray]
            refine wpAnyH_take (i := 31) (v := .int .i64 cl) rfl (by kernel_rfl) (by kernel_rfl) (by kernel_rfl) (fun _ _ _ h => h) (Or.inl ⟨by rfl, fun w' hSw => by (have y0 := hSw.c 0 _ rfl; have yl := hSw.lt; go_simp)⟩) hHeld ?_
            simp only [Act.put, List.setIfInBounds_toArray, List.set_cons_zero, List.set_cons_succ, List.getElem_cons_zero, List.getElem_cons_succ, List.getElem_toArray]
            refine wpAnyH_take (i := 32) (v := .int .i64 cyc) rfl (by kernel_rfl) (by kernel_rfl) (by kernel_rfl) (fun _ _ _ h => h) (Or.inl ⟨by rfl, fun w' hSw => by (go_simp)⟩) hHeld ?_
            simp only [Act.put, List.setIfInBounds_toArray, List.set_cons_zero, List.set_cons_succ, List.getElem_cons_zero, List.getElem_cons_succ, List.getElem_toArray]
            refine wpAnyH_take (i := 34) (v := .pointer (some ⟨rb, 0, none⟩)) rfl (by kernel_rfl) (by kernel_rfl) (by kernel_rfl) (fun _ _ _ h => h) (Or.inl ⟨by rfl, fun w' hSw => by (go_simp)⟩) hHeld ?_
            simp only [Act.put, List.setIfInBounds_toArray, List.set_cons_zero, List.set_cons_succ, List.getElem_cons_zero, List.getElem_cons_succ, List.getElem_toArray]
            refine wpAnyH_take (i := 35) (v := .pointer (some ⟨ob, 0, none⟩)) rfl (by kernel_rfl) (by kernel_rfl) (by kernel_rfl) (fun _ _ _ h => h) (Or.inl ⟨by rfl, fun w' hSw => by (go_simp)⟩) hHeld ?_
            simp only [Act.put, List.setIfInBounds_toArray, List.set_cons_zero, List.set_cons_succ, List.getElem_cons_zero, List.getElem_cons_succ, List.getElem_toArray]
            refine wpAnyH_take (i := 36) (v := .int .i64 cl) rfl (by kernel_rfl) (by kernel_rfl) (by kernel_rfl) (fun _ _ _ h => h) (Or.inl ⟨by rfl, fun w' hSw => by (have y0 := hSw.c 0 _ rfl; have yl := hSw.lt; go_simp)⟩) hHeld ?_
            simp only [Act.put, List.setIfInBounds_toArray, List.set_cons_zero, List.set_cons_succ, List.getElem_cons_zero, List.getElem_cons_succ, List.getElem_toArray]
            refine wpAnyH_take (i := 37) (v := .int .i64 cyc) rfl (by kernel_rfl) (by kernel_rfl) (by kernel_rfl) (fun _ _ _ h => h) (Or.inl ⟨by rfl, fun w' hSw => by (go_simp)⟩) hHeld ?_
            simp only [Act.put, List.setIfInBounds_toArray, List.set_cons_zero, List.set_cons_succ, List.getElem_cons_zero, List.getElem_cons_succ, List.getElem_toArray]
            refine wpAnyH_ready (rs := [33]) (by kernel_rfl) (by simp) ?_
            refine AllReadyH.cons rfl (fun K hK => ?_) AllReadyH.nil
            go_simp
            refine Calls.mono (HUa.out _ _ _ _ HV6.out.1) ?_
            rintro e w7 ⟨rfl, bw7⟩
            have HV7 : Hid (Py w B w7 t ra ma n3 ev f2 rb a4 c4 L2 ∧ At w7 ob #[.int .i64 cl, .int .i64 y, .bool true]) := ⟨HV6.out.1.next bw7, HV6.out.2.below bw7 HV6.out.2.lt⟩
            clear bw7 HUa
            refine hK.out _ _ HV7.out.2 (fun hHeld => ?_)
            clear hK K
            refine wpAnyH_ready (rs := [38]) (by kernel_rfl) (by simp) ?_
            refine AllReadyH.cons rfl (fun K hK => ?_) AllReadyH.nil
            go_simp
            refine Calls.mono (HUb.out _ _ _ _ HV7.out.1) ?_
            rintro e w8 ⟨rfl, bw8⟩
            have HV8 : Hid (Py w B w8 t ra ma n3 ev f2 rb a4 c4 L2 ∧ At w8 ob #[.int .i64 cl, .int .i64 y, .bool true]) := ⟨HV7.out.1.next bw8, HV7.out.2.below bw8 HV7.out.2.lt⟩
            clear bw8 HUb
            refine hK.out _ _ HV8.out.2 (fun hHeld => ?_)
            clear hK K
            refine wpAnyH_take (i := 39) (v := .bool false) rfl (by kernel_rfl) (by kernel_rfl) (by kernel_rfl) (fun _ _ _ h => h) (Or.inl ⟨by rfl, fun w' hSw => by (go_simp)⟩) hHeld ?_
            simp only [Act.put, List.setIfInBounds_toArray, List.set_cons_zero, List.set_cons_succ, List.getElem_cons_zero, List.getElem_cons_succ, List.getElem_toArray]
            refine wpAnyH_take (i := 40) (v := .bool false) rfl (by kernel_rfl) (by kernel_rfl) (by kernel_rfl) (fun _ _ _ h => h) (Or.inl ⟨by rfl, fun w' hSw => by (go_simp)⟩) hHeld ?_
            simp only [Act.put, List.setIfInBounds_toArray, List.set_cons_zero, List.set_cons_succ, List.getElem_cons_zero, List.getElem_cons_succ, List.getElem_toArray]
            refine wpAnyH_done (by kernel_rfl) ?_ _
            go_wp2
            go_roundw
            case rel => exact ⟨k + 1, n3, L2, a4, c4, by omega, by go_num, by rw [← HF2.out]; exact HV8.out.1, by rw [← HF2.out]; exact HQ2.out.1, by have := HV3.out.2.2; omega, by have := HQ2.out.2; omega⟩
            case measure => simp [intOf]; omega
    · obtain rfl : k = xs.length := by omega
      have k1 : ¬ (xs.length : Int) < (xs.length : Int) := by omega
      go_wp2_with (first | (go_at_call 11; refine Calls.mono (HW.out _ HQ.out.1.up) ?_; rintro e w9 ⟨rfl, b9⟩; have HB : Hid (Below w.heap.size w w9) := HQ.out.1.up.trans (b9.mono HQ.out.1.up.size); clear b9 HW))
      go_ret
      exact ⟨rfl, HB.out⟩
set_option maxHeartbeats 16000000 in
theorem plays_ring (t : Tab) (every : Int) (ao : Option Addr) (cap : Nat) (xs : List Ak) (w : World) (hp : AksAt w ao xs) (hG : Bnds w) (hk : Tb.ckR t = 0) (h1 : 1 ≤ every) (h2 : every ≤ 65536) :
    Calls Tryd.prog 3 #[t.val, .int .i64 every, .bool true, .slice ao xs.length cap] w fun e w' => e = .returned (.bool true) ∧ Below w.heap.size w w' := by
  have HW : Hid (∀ W, Below w.heap.size w W → Calls Tryd.prog 11 #[] W fun e w' => e = .returned (.bool true) ∧ Below W.heap.size W w') := fun W hb => wakes_any W (hG.below hb hG.big)
  have ht : t.ok = true := by
    cases h : t.ok
    · unfold Tb.ckR at hk; rw [h] at hk; simp at hk
    · rfl
  have HN : Hid (∀ W, Below w.heap.size w W → Calls Tryd.prog 7 #[t.val] W fun e w' => ∃ rb mb, e = .returned (.tuple #[.pointer (some ⟨rb, 0, none⟩), .int .i64 0]) ∧ RAt w' rb t none mb 0 wf0 ∧ (W.heap.size ≤ rb ∧ W.heap.size ≤ mb) ∧ Below W.heap.size W w') := fun W hb => new_ok t W (hG.below hb hG.big) hk
  have HDn : Hid (∀ W, Calls Tryd.prog 8 #[t.val] W fun e w' => ∃ rb, e = .returned (.tuple #[.pointer (some ⟨rb, 0, none⟩), .int .i64 0]) ∧ At w' rb (dcl t none none 0 0) ∧ W.heap.size ≤ rb ∧ Below W.heap.size W w') := fun W => dnew_ok t W hk
  have HRg : Hid (∀ W, Below w.heap.size w W → Calls Tryd.prog 9 #[t.val, .int .i64 every] W fun e w' => ∃ rb mb, e = .returned (.tuple #[.pointer (some ⟨rb, 0, none⟩), .int .i64 0]) ∧ RAt w' rb t (some every) mb 0 wf0 ∧ (W.heap.size ≤ rb ∧ W.heap.size ≤ mb) ∧ Below W.heap.size W w') := fun W hb => ring_ok t every W (hG.below hb hG.big) hk h1 h2
  have HDr : Hid (∀ W, Calls Tryd.prog 10 #[t.val, .int .i64 every] W fun e w' => ∃ rb, e = .returned (.tuple #[.pointer (some ⟨rb, 0, none⟩), .int .i64 0]) ∧ At w' rb (dcl t (some every) none 0 0) ∧ W.heap.size ≤ rb ∧ Below W.heap.size W w') := fun W => dring_ok t every W hk h1 h2
  have HP : Hid (AksAt w ao xs) := hp
  have hlen := hp.len
  have HOk : Hid (t.ok = true) := ht
  clear hp hG hk ht
  unfold Tab.val at *
  go_enter Tryd.func3, Tryd.ntmps3
  go_upto_region 6 with (first
    | (go_at_call 7; refine Calls.mono (HN.out _ (by go_grown)) ?_; rintro e w1 ⟨ra, ma, rfl, r1, p1, b1⟩; have HS1 : Hid (RAt w1 ra t none ma 0 wf0 ∧ w.heap.size ≤ ma ∧ TabAt w1 w.heap.size t ∧ Below w.heap.size w w1) := ⟨r1, by have := p1.2; simp at this; omega, (Tb.tabAt_new w t 24).below b1 (by simp), Below.trans (by go_grown) (b1.mono (by simp))⟩; clear r1 p1 b1 HN; have k2 := HS1.out.2.2.1; have qu0 := k2.cu 0 (by decide); have qu1 := k2.cu 1 (by decide); have qu2 := k2.cu 2 (by decide); have qu3 := k2.cu 3 (by decide); have ql0 := k2.cl 0 (by decide); have ql1 := k2.cl 1 (by decide); have ql2 := k2.cl 2 (by decide); have ql3 := k2.cl 3 (by decide); have qb0 := k2.cb 0 (by decide); have qb1 := k2.cb 1 (by decide); have qb2 := k2.cb 2 (by decide); have qb3 := k2.cb 3 (by decide); have qd := k2.cd; have qz := k2.lt; clear k2)
    | (go_at_call 8; refine Calls.mono (HDn.out _) ?_; rintro e w2 ⟨rb, rfl, -, -, b2⟩; have HS2 : Hid (TabAt w2 w.heap.size t ∧ Below w.heap.size w w2) := ⟨HS1.out.2.2.1.below b2 HS1.out.2.2.1.lt, HS1.out.2.2.2.trans (b2.mono HS1.out.2.2.2.size)⟩; clear b2 HDn HS1 qu0 qu1 qu2 qu3 ql0 ql1 ql2 ql3 qb0 qb1 qb2 qb3 qd qz; have k2 := HS2.out.1; have qu0 := k2.cu 0 (by decide); have qu1 := k2.cu 1 (by decide); have qu2 := k2.cu 2 (by decide); have qu3 := k2.cu 3 (by decide); have ql0 := k2.cl 0 (by decide); have ql1 := k2.cl 1 (by decide); have ql2 := k2.cl 2 (by decide); have ql3 := k2.cl 3 (by decide); have qb0 := k2.cb 0 (by decide); have qb1 := k2.cb 1 (by decide); have qb2 := k2.cb 2 (by decide); have qb3 := k2.cb 3 (by decide); have qd := k2.cd; have qz := k2.lt; clear k2)
    | (go_at_call 9; refine Calls.mono (HRg.out _ HS2.out.2) ?_; rintro e w3 ⟨ra, ma, rfl, r3, p3, b3⟩; have HS3 : Hid (RAt w3 ra t (some every) ma 0 wf0 ∧ w.heap.size ≤ ma ∧ TabAt w3 w.heap.size t ∧ Below w.heap.size w w3) := ⟨r3, Nat.le_trans HS2.out.2.size p3.2, HS2.out.1.below b3 HS2.out.1.lt, HS2.out.2.trans (b3.mono HS2.out.2.size)⟩; clear r3 p3 b3 HRg HS2 qu0 qu1 qu2 qu3 ql0 ql1 ql2 ql3 qb0 qb1 qb2 qb3 qd qz; have k2 := HS3.out.2.2.1; have qu0 := k2.cu 0 (by decide); have qu1 := k2.cu 1 (by decide); have qu2 := k2.cu 2 (by decide); have qu3 := k2.cu 3 (by decide); have ql0 := k2.cl 0 (by decide); have ql1 := k2.cl 1 (by decide); have ql2 := k2.cl 2 (by decide); have ql3 := k2.cl 3 (by decide); have qb0 := k2.cb 0 (by decide); have qb1 := k2.cb 1 (by decide); have qb2 := k2.cb 2 (by decide); have qb3 := k2.cb 3 (by decide); have qd := k2.cd; have qz := k2.lt; clear k2)
    | (go_at_call 10; refine Calls.mono (HDr.out _) ?_; rintro e w4 ⟨rb, rfl, r4, p4, b4⟩; have HS : Hid (Py w w4.heap.size w4 t ra ma 0 (some every) (Fl t (some every) []) rb none 0 []) := py_start HS3.out.1 HS3.out.2.1 HS3.out.2.2.2 r4 p4 b4; clear r4 p4 b4 HDr HS3 qu0 qu1 qu2 qu3 ql0 ql1 ql2 ql3 qb0 qb1 qb2 qb3 qd qz))
  obtain ⟨B, hB⟩ : ∃ B, B = w4.heap.size := ⟨_, rfl⟩
  rw [← hB] at HS
  clear hB
  obtain ⟨ev, hev⟩ : ∃ ev : Option Int, (some every) = ev := ⟨_, rfl⟩
  have HEv : Hid (evOk ev) := by rw [← hev]; exact ⟨h1, h2⟩
  rw [hev] at HS
  clear hev
  go_upto_region 10 with fail
  go_wp2
  go_loopw [54] (fun v wr => ∃ (k na : Nat) (L : List Ak) (a : Option Addr) (c : Nat), k ≤ xs.length ∧ v = .int .i64 k ∧ Py w B wr t ra ma na ev (Fl t ev L) rb a c L ∧ Few (Fl t ev L) ∧ na ≤ 4 * k ∧ L.length ≤ k) (fun v _ => xs.length - (intOf v).toNat)
  case atStart => exact ⟨0, 0, [], none, 0, by omega, rfl, HS.out, few0, by omega, by simp⟩
  case round =>
    rename World => wr
    obtain ⟨k, na, L, a, c, hk, rfl, hpy, hf, l1, l2⟩ := hrel
    have HQ : Hid (Py w B wr t ra ma na ev (Fl t ev L) rb a c L ∧ Few (Fl t ev L) ∧ na ≤ 4 * k ∧ L.length ≤ k) := ⟨hpy, hf, l1, l2⟩
    clear hpy hf HS
    by_cases hlt : k < xs.length
    · have k0 : (0 : Int) ≤ (k : Int) := by omega
      have k1 : (k : Int) < (xs.length : Int) := by omega
      obtain ⟨b, fo, rfl, hz, hx⟩ := (HP.out.below HQ.out.1.up).is (by omega)
      obtain ⟨x0, x1, x2⟩ := hx k hlt
      obtain ⟨hI1, hI2⟩ := HP.out.ok xs[k] (List.getElem_mem hlt)
      clear hx
      obtain ⟨o, ho⟩ : ∃ o, xs[k] = o := ⟨_, rfl⟩
      rw [ho] at x0 x1 x2 hI1 hI2
      clear ho
      obtain ⟨cl, y, tk⟩ := o
      have hI1 : -9223372036854775808 ≤ cl ∧ cl ≤ 9223372036854775807 := hI1
      have hI2 : -9223372036854775808 ≤ y ∧ y ≤ 9223372036854775807 := hI2
      have x0 : wr.cell? ⟨b, fo + k * 3, none⟩ = some (.int .i64 cl) := x0
      have x1 : wr.cell? ⟨b, fo + k * 3 + 1, none⟩ = some (.int .i64 y) := x1
      have x2 : wr.cell? ⟨b, fo + k * 3 + 2, none⟩ = some (.bool tk) := x2
      have HV0 : Hid (Py w B (wr.alloc (.cells #[.int .i64 cl, .int .i64 y, .bool tk] 37)) t ra ma na ev (Fl t ev L) rb a c L ∧ At (wr.alloc (.cells #[.int .i64 cl, .int .i64 y, .bool tk] 37)) wr.heap.size #[.int .i64 cl, .int .i64 y, .bool tk] ∧ wr.heap.size ≠ ma ∧ ¬ Dx rb (.slice a L.length c) wr.heap.size) := ⟨HQ.out.1.next ((Below.refl _ _).alloc (Nat.le_refl _) _), At.new _ _ _, by have := HQ.out.1.pa.cm.lt; omega, fun e => e.elim (fun e => by have := HQ.out.1.da.da.lt; omega) fun e => by have := (HQ.out.1.da.row.lt _ e).2; omega⟩
      go_upto_region 13 with fail
      generalize wr.alloc (.cells #[.int .i64 cl, .int .i64 y, .bool tk] 37) = V at *
      generalize wr.heap.size = ob at *
      clear x0 x1 x2 hz
      by_cases h80 : 80 ≤ k
      · have h80' : (80 : Int) ≤ (k : Int) := by omega
        go_wp2_with (first | (go_at_call 11; refine Calls.mono (HW.out _ HV0.out.1.up) ?_; rintro e w9 ⟨rfl, b9⟩; have HB : Hid (Below w.heap.size w w9) := HV0.out.1.up.trans (b9.mono HV0.out.1.up.size); clear b9 HW))
        go_ret
        exact ⟨rfl, HB.out⟩
      · have h80' : ¬ (80 : Int) ≤ (k : Int) := by omega
        have y0 := HV0.out.2.1.c 1 _ rfl
        have yl := HV0.out.2.1.lt
        go_upto_region 15 with fail
        clear y0 yl
        go_cut [68] (fun v wc => v = .bool (decide (1099511627776 < y) || decide (y < -1099511627776)) ∧ wc = V)
        case first =>
          by_cases hy1 : 1099511627776 < y
          · go_wp2
            go_meet
            case rel => exact ⟨by simp [hy1], rfl⟩
          · by_cases hy2 : y < -1099511627776
            · go_wp2
              go_meet
              case rel => exact ⟨by simp [hy2], rfl⟩
            · go_wp2
              go_meet
              case rel => exact ⟨by simp; omega, rfl⟩
        case rest =>
        obtain ⟨rfl, hwc⟩ := hcut
        rename World => wy
        subst hwc
        obtain ⟨gb, hgb⟩ : ∃ gb, (decide (1099511627776 < y) || decide (y < -1099511627776)) = gb := ⟨_, rfl⟩
        rw [hgb]
        have HGb : Hid _ := hgb
        clear hgb
        go_upto_if 68 with fail
        go_cut [15] (fun v wc => (∃ cyc, v = .int .i64 cyc ∧ I41 cyc) ∧ wc = wy)
        case first =>
          cases gb
          · have hy : (decide (1099511627776 < y) || decide (y < -1099511627776)) = false := HGb.out
            have hy : ¬ 1099511627776 < y ∧ ¬ y < -1099511627776 := by simpa using hy
            go_wp2
            go_meet
            case rel => exact ⟨⟨_, rfl, by unfold I41; omega⟩, rfl⟩
          · have z1 := Int.lt_tmod_of_pos y (show (0 : Int) < 1099511627776 by omega)
            have z2 := Int.tmod_lt_of_pos y (show (0 : Int) < 1099511627776 by omega)
            have hm : IntKind.i64.wrap (Int.tmod y 1099511627776) = Int.tmod y 1099511627776 := by rw [IntKind.wrap_i64]; omega
            go_wp2
            go_meet
            case rel => exact ⟨⟨_, rfl, by unfold I41; omega⟩, rfl⟩
        case rest =>
          obtain ⟨⟨cyc, rfl, hcy⟩, hwc⟩ := hcut
          rename World => wx
          subst hwc
          have HV : Hid (Py w B wx t ra ma na ev (Fl t ev L) rb a c L ∧ At wx ob #[.int .i64 cl, .int .i64 y, .bool tk] ∧ ob ≠ ma ∧ ¬ Dx rb (.slice a L.length c) ob) := HV0.out
          clear HV0
          cases tk
          · go_upto_region 17 with fail
            have HF2 : Hid (Fl t ev L = Fl t ev L) := rfl
            have HQ2 : Hid (Few (Fl t ev L) ∧ L.length ≤ L.length + 1) := ⟨HQ.out.2.1, by omega⟩
            have HFa : Hid (∀ W n2 a2 c2, Py w B W t ra ma n2 ev (Fl t ev L) rb a2 c2 L → Calls Tryd.prog 14 #[.pointer (some ⟨ra, 0, none⟩), .int .i64 cl, .int .i64 cyc] W fun e w' => e = .returned (.bool (frB t ev (Fl t ev L) cl cyc)) ∧ Below W.heap.size W w') := fun W n2 a2 c2 h => free_any cl cyc W h.pa HEv.out HQ2.out.1 HOk.out
            have HFb : Hid (∀ W n2 a2 c2, Py w B W t ra ma n2 ev (Fl t ev L) rb a2 c2 L → Calls Tryd.prog 15 #[.pointer (some ⟨rb, 0, none⟩), .int .i64 cl, .int .i64 cyc] W fun e w' => e = .returned (.bool (frB t ev (Fl t ev L) cl cyc)) ∧ Below W.heap.size W w') := fun W n2 a2 c2 h => by have := dfree_any cl cyc W h.da HEv.out HOk.out (by have := HQ2.out.2; omega) hcy; rw [← HF2.out] at this; exact this
            have HUa : Hid (∀ W n2 a2 c2, Py w B W t ra ma n2 ev (Fl t ev L) rb a2 c2 L → Calls Tryd.prog 16 #[.pointer (some ⟨ra, 0, none⟩), .int .i64 cl, .int .i64 cyc] W fun e w' => e = .returned (.int .i64 ((Fl t ev L) cl (tn ev cyc))) ∧ Below W.heap.size W w') := fun W n2 a2 c2 h => used_any cl cyc W h.pa HEv.out ⟨hI1.1, hI1.2⟩ (by unfold I64; unfold I41 at hcy; omega)
            have HUb : Hid (∀ W n2 a2 c2, Py w B W t ra ma n2 ev (Fl t ev L) rb a2 c2 L → Calls Tryd.prog 17 #[.pointer (some ⟨rb, 0, none⟩), .int .i64 cl, .int .i64 cyc] W fun e w' => e = .returned (.int .i64 ((Fl t ev L) cl (tn ev cyc))) ∧ Below W.heap.size W w') := fun W n2 a2 c2 h => by have := dUsed_any cl cyc W h.da HEv.out HOk.out (by have := HQ2.out.2; omega); rw [← HF2.out] at this; exact this
            generalize (Fl t ev L) cl (tn ev cyc) = us at *
            generalize frB t ev (Fl t ev L) cl cyc = fq at *
            obtain ⟨L2, hL2⟩ : ∃ L2, L2 = L := ⟨_, rfl⟩
            subst hL2
            obtain ⟨f2, hf2⟩ : ∃ f2, Fl t ev L2 = f2 := ⟨_, rfl⟩
            have HF2 : Hid (f2 = Fl t ev L2) := hf2.symm
            rw [hf2] at HQ2 HFa HFb HUa HUb HV
            clear hf2
            have hnb : (fq != fq) = false := by simp
            have hnu : (us != us) = false := by simp
            refine wp_region_held_drew (S := fun W => At W ob #[.int .i64 cl, .int .i64 y, .bool false]) (by kernel_rfl) (HV.out.2.1.below (drew_up _) HV.out.2.1.lt) (fun hHeld => ?_)
            refine wpAnyH_take (i := 0) (v := .pointer (some ⟨ob, 2, none⟩)) rfl (by kernel_rfl) (by kernel_rfl) (by kernel_rfl) (fun _ _ _ h => h) (Or.inl ⟨by rfl, fun w' hSw => by (go_simp)⟩) hHeld ?_
            simp only [Act.put, List.setIfInBounds_toArray, List.set_cons_zero, List.set_cons_succ, List.getElem_cons_zero, List.getElem_toArray]
            refine wpAnyH_take (i := 1) (v := .bool false) rfl (by kernel_rfl) (by kernel_rfl) (by kernel_rfl) (fun _ _ _ h => h) (Or.inl ⟨by rfl, fun w' hSw => by (have y0 := hSw.c 2 _ rfl; have yl := hSw.lt; go_simp)⟩) hHeld ?_
            simp only [Act.put, List.setIfInBounds_toArray, List.set_cons_zero, List.set_cons_succ, List.getElem_cons_zero, List.getElem_cons_succ, List.getElem_toArray]
            refine wpAnyH_take (i := 2) (v := .bool false) rfl (by kernel_rfl) (by kernel_rfl) (by kernel_rfl) (fun _ _ _ h => h) (Or.inl ⟨by rfl, fun w' hSw => by (go_simp)⟩) hHeld ?_
            simp only [Act.put, List.setIfInBounds_toArray, List.set_cons_zero, List.set_cons_succ, List.getElem_cons_zero, List.getElem_cons_succ, List.getElem_toArray]
            refine wpAnyH_take (i := 3) (v := undef) rfl (by kernel_rfl) (by kernel_rfl) (by kernel_rfl) (fun _ _ _ h => h) (Or.inr ⟨by rfl, rfl⟩) hHeld ?_
            simp only [Act.put, List.setIfInBounds_toArray, List.set_cons_zero, List.set_cons_succ, List.getElem_cons_zero, List.getElem_cons_succ, List.getElem_toArray]
            refine wpAnyH_take (i := 4) (v := undef) rfl (by kernel_rfl) (by kernel_rfl) (by kernel_rfl) (fun _ _ _ h => h) (Or.inr ⟨by rfl, rfl⟩) hHeld ?_
            simp only [Act.put, List.setIfInBounds_toArray, List.set_cons_zero, List.set_cons_succ, List.getElem_cons_zero, List.getElem_cons_succ, List.getElem_toArray]
            refine wpAnyH_take (i := 5) (v := undef) rfl (by kernel_rfl) (by kernel_rfl) (by kernel_rfl) (fun _ _ _ h => h) (Or.inr ⟨by rfl, rfl⟩) hHeld ?_
            simp only [Act.put, List.setIfInBounds_toArray, List.set_cons_zero, List.set_cons_succ, List.getElem_cons_zero, List.getElem_cons_succ, List.getElem_toArray]
            refine wpAnyH_take (i := 6) (v := undef) rfl (by kernel_rfl) (by kernel_rfl) (by kernel_rfl) (fun _ _ _ h => h) (Or.inr ⟨by rfl, rfl⟩) hHeld ?_
            simp only [Act.put, List.setIfInBounds_toArray, List.set_cons_zero, List.set_cons_succ, List.getElem_cons_zero, List.getElem_cons_succ, List.getElem_toArray]
            refine wpAnyH_take (i := 7) (v := undef) rfl (by kernel_rfl) (by kernel_rfl) (by kernel_rfl) (fun _ _ _ h => h) (Or.inr ⟨by rfl, rfl⟩) hHeld ?_
            simp only [Act.put, List.setIfInBounds_toArray, List.set_cons_zero, List.set_cons_succ, List.getElem_cons_zero, List.getElem_cons_succ, List.getElem_toArray]
            refine wpAnyH_take (i := 8) (v := undef) rfl (by kernel_rfl) (by kernel_rfl) (by kernel_rfl) (fun _ _ _ h => h) (Or.inr ⟨by rfl, rfl⟩) hHeld ?_
            simp only [Act.put, List.setIfInBounds_toArray, List.set_cons_zero, List.set_cons_succ, List.getElem_cons_zero, List.getElem_cons_succ, List.getElem_toArray]
            refine wpAnyH_take (i := 9) (v := undef) rfl (by kernel_rfl) (by kernel_rfl) (by kernel_rfl) (fun _ _ _ h => h) (Or.inr ⟨by rfl, rfl⟩) hHeld ?_
            simp only [Act.put, List.setIfInBounds_toArray, List.set_cons_zero, List.set_cons_succ, List.getElem_cons_zero, List.getElem_cons_succ, List.getElem_toArray]
            refine wpAnyH_take (i := 10) (v := undef) rfl (by kernel_rfl) (by kernel_rfl) (by kernel_rfl) (fun _ _ _ h => h) (Or.inr ⟨by rfl, rfl⟩) hHeld ?_
            simp only [Act.put, List.setIfInBounds_toArray, List.set_cons_zero, List.set_cons_succ, List.getElem_cons_zero, List.getElem_cons_succ, List.getElem_toArray]
            refine wpAnyH_take (i := 11) (v := undef) rfl (by kernel_rfl) (by kernel_rfl) (by kernel_rfl) (fun _ _ _ h => h) (Or.inr ⟨by rfl, rfl⟩) hHeld ?_
            simp only [Act.put, List.setIfInBounds_toArray, List.set_cons_zero, List.set_cons_succ, List.getElem_cons_zero, List.getElem_cons_succ, List.getElem_toArray]
            refine wpAnyH_take (i := 12) (v := undef) rfl (by kernel_rfl) (by kernel_rfl) (by kernel_rfl) (fun _ _ _ h => h) (Or.inr ⟨by rfl, rfl⟩) hHeld ?_
            simp only [Act.put, List.setIfInBounds_toArray, List.set_cons_zero, List.set_cons_succ, List.getElem_cons_zero, List.getElem_cons_succ, List.getElem_toArray]
            refine wpAnyH_take (i := 13) (v := undef) rfl (by kernel_rfl) (by kernel_rfl) (by kernel_rfl) (fun _ _ _ h => h) (Or.inr ⟨by rfl, rfl⟩) hHeld ?_
            simp only [Act.put, List.setIfInBounds_toArray, List.set_cons_zero, List.set_cons_succ, List.getElem_cons_zero, List.getElem_cons_succ, List.getElem_toArray]
            have HV4 : Hid (Py w B wx.drew t ra ma na ev f2 rb a c L2 ∧ At wx.drew ob #[.int .i64 cl, .int .i64 y, .bool false]) := ⟨HV.out.1.next (drew_up _), HV.out.2.1.below (drew_up _) HV.out.2.1.lt⟩
            refine wpAnyH_take (i := 14) (v := .bool false) rfl (by kernel_rfl) (by kernel_rfl) (by kernel_rfl) (fun _ _ _ h => h) (Or.inl ⟨by rfl, fun w' hSw => by (go_simp)⟩) hHeld ?_
            simp only [Act.put, List.setIfInBounds_toArray, List.set_cons_zero, List.set_cons_succ, List.getElem_cons_zero, List.getElem_cons_succ, List.getElem_toArray]
            refine wpAnyH_take (i := 15) (v := .bool false) rfl (by kernel_rfl) (by kernel_rfl) (by kernel_rfl) (fun _ _ _ h => h) (Or.inl ⟨by rfl, fun w' hSw => by (go_simp)⟩) hHeld ?_
            simp only [Act.put, List.setIfInBounds_toArray, List.set_cons_zero, List.set_cons_succ, List.getElem_cons_zero, List.getElem_cons_succ, List.getElem_toArray]
            refine wpAnyH_take (i := 16) (v := .pointer (some ⟨ra, 0, none⟩)) rfl (by kernel_rfl) (by kernel_rfl) (by kernel_rfl) (fun _ _ _ h => h) (Or.inl ⟨by rfl, fun w' hSw => by (go_simp)⟩) hHeld ?_
            simp only [Act.put, List.setIfInBounds_toArray, List.set_cons_zero, List.set_cons_succ, List.getElem_cons_zero, List.getElem_cons_succ, List.getElem_toArray]
            refine wpAnyH_take (i := 17) (v := .pointer (some ⟨ob, 0, none⟩)) rfl (by kernel_rfl) (by kernel_rfl) (by kernel_rfl) (fun _ _ _ h => h) (Or.inl ⟨by rfl, fun w' hSw => by (go_simp)⟩) hHeld ?_
            simp only [Act.put, List.setIfInBounds_toArray, List.set_cons_zero, List.set_cons_succ, List.getElem_cons_zero, List.getElem_cons_succ, List.getElem_toArray]
            refine wpAnyH_take (i := 18) (v := .int .i64 cl) rfl (by kernel_rfl) (by kernel_rfl) (by kernel_rfl) (fun _ _ _ h => h) (Or.inl ⟨by rfl, fun w' hSw => by (have y0 := hSw.c 0 _ rfl; have yl := hSw.lt; go_simp)⟩) hHeld ?_
            simp only [Act.put, List.setIfInBounds_toArray, List.set_cons_zero, List.set_cons_succ, List.getElem_cons_zero, List.getElem_cons_succ, List.getElem_toArray]
            refine wpAnyH_take (i := 19) (v := .int .i64 cyc) rfl (by kernel_rfl) (by kernel_rfl) (by kernel_rfl) (fun _ _ _ h => h) (Or.inl ⟨by rfl, fun w' hSw => by (go_simp)⟩) hHeld ?_
            simp only [Act.put, List.setIfInBounds_toArray, List.set_cons_zero, List.set_cons_succ, List.getElem_cons_zero, List.getElem_cons_succ, List.getElem_toArray]
            refine wpAnyH_take (i := 21) (v := .pointer (some ⟨rb, 0, none⟩)) rfl (by kernel_rfl) (by kernel_rfl) (by kernel_rfl) (fun _ _ _ h => h) (Or.inl ⟨by rfl, fun w' hSw => by (go_simp)⟩) hHeld ?_
            simp only [Act.put, List.setIfInBounds_toArray, List.set_cons_zero, List.set_cons_succ, List.getElem_cons_zero, List.getElem_cons_succ, List.getElem_toArray]
            refine wpAnyH_take (i := 22) (v := .pointer (some ⟨ob, 0, none⟩)) rfl (by kernel_rfl) (by kernel_rfl) (by kernel_rfl) (fun _ _ _ h => h) (Or.inl ⟨by rfl, fun w' hSw => by (go_simp)⟩) hHeld ?_
            simp only [Act.put, List.setIfInBounds_toArray, List.set_cons_zero, List.set_cons_succ, List.getElem_cons_zero, List.getElem_cons_succ, List.getElem_toArray]
            refine wpAnyH_take (i := 23) (v := .int .i64 cl) rfl (by kernel_rfl) (by kernel_rfl) (by kernel_rfl) (fun _ _ _ h => h) (Or.inl ⟨by rfl, fun w' hSw => by (have y0 := hSw.c 0 _ rfl; have yl := hSw.lt; go_simp)⟩) hHeld ?_
            simp only [Act.put, List.setIfInBounds_toArray, List.set_cons_zero, List.set_cons_succ, List.getElem_cons_zero, List.getElem_cons_succ, List.getElem_toArray]
            refine wpAnyH_take (i := 24) (v := .int .i64 cyc) rfl (by kernel_rfl) (by kernel_rfl) (by kernel_rfl) (fun _ _ _ h => h) (Or.inl ⟨by rfl, fun w' hSw => by (go_simp)⟩) hHeld ?_
            simp only [Act.put, List.setIfInBounds_toArray, List.set_cons_zero, List.set_cons_succ, List.getElem_cons_zero, List.getElem_cons_succ, List.getElem_toArray]
            refine wpAnyH_ready (rs := [20]) (by kernel_rfl) (by simp) ?_
            refine AllReadyH.cons rfl (fun K hK => ?_) AllReadyH.nil
            go_simp
            refine Calls.mono (HFa.out _ _ _ _ HV4.out.1) ?_
            rintro e w5 ⟨rfl, bw5⟩
            have HV5 : Hid (Py w B w5 t ra ma na ev f2 rb a c L2 ∧ At w5 ob #[.int .i64 cl, .int .i64 y, .bool false]) := ⟨HV4.out.1.next bw5, HV4.out.2.below bw5 HV4.out.2.lt⟩
            clear bw5 HFa
            refine hK.out _ _ HV5.out.2 (fun hHeld => ?_)
            clear hK K
            refine wpAnyH_ready (rs := [25]) (by kernel_rfl) (by simp) ?_
            refine AllReadyH.cons rfl (fun K hK => ?_) AllReadyH.nil
            go_simp
            refine Calls.mono (HFb.out _ _ _ _ HV5.out.1) ?_
            rintro e w6 ⟨rfl, bw6⟩
            have HV6 : Hid (Py w B w6 t ra ma na ev f2 rb a c L2 ∧ At w6 ob #[.int .i64 cl, .int .i64 y, .bool false]) := ⟨HV5.out.1.next bw6, HV5.out.2.below bw6 HV5.out.2.lt⟩
            clear bw6 HFb
            refine hK.out _ _ HV6.out.2 (fun hHeld => ?_)
            clear hK K
            refine wpAnyH_take (i := 26) (v := .bool false) rfl (by kernel_rfl) (by kernel_rfl) (by kernel_rfl) (fun _ _ _ h => h) (Or.inl ⟨by rfl, fun w' hSw => by (go_simp)⟩) hHeld ?_
            simp only [Act.put, List.setIfInBounds_toArray, List.set_cons_zero, List.set_cons_succ, List.getElem_cons_zero, List.getElem_cons_succ, List.getElem_toArray]
            refine wpAnyH_take (i := 27) (v := .bool false) rfl (by kernel_rfl) (by kernel_rfl) (by kernel_rfl) (fun _ _ _ h => h) (Or.inl ⟨by rfl, fun w' hSw => by (go_simp)⟩) hHeld ?_
            simp only [Act.put, List.setIfInBounds_toArray, List.set_cons_zero, List.set_cons_succ, List.getElem_cons_zero, List.getElem_cons_succ, List.getElem_toArray]
            refine wpAnyH_take (i := 28) (v := .bool false) rfl (by kernel_rfl) (by kernel_rfl) (by kernel_rfl) (fun _ _ _ h => h) (Or.inl ⟨by rfl, fun w' hSw => by (go_simp)⟩) hHeld ?_
            simp only [Act.put, List.setIfInBounds_toArray, List.set_cons_zero, List.set_cons_succ, List.getElem_cons_zero, List.getElem_cons_succ, List.getElem_toArray]
            refine wpAnyH_take (i := 29) (v := .pointer (some ⟨ra, 0, none⟩)) rfl (by kernel_rfl) (by kernel_rfl) (by kernel_rfl) (fun _ _ _ h => h) (Or.inl ⟨by rfl, fun w' hSw => by (go_simp)⟩) hHeld ?_
            simp only [Act.put, List.setIfInBounds_toArray, List.set_cons_zero, List.set_cons_succ, List.getElem_cons_zero, List.getElem_cons_succ, List.getElem_toArray]
            refine wpAnyH_take (i := 30) (v := .pointer (some ⟨ob, 0, none⟩)) rfl (by kernel_rfl) (by kernel_rfl) (by kernel_rfl) (fun _ _ _ h => h) (Or.inl ⟨by rfl, fun w' hSw => by (go_simp)⟩) hHeld ?_
            simp only [Act.put, List.setIfInBounds_toArray, List.set_cons_zero, List.set_cons_succ, List.getElem_cons_zero, List.getElem_cons_succ, List.getElem_toArray]
            refine wpAnyH_take (i := 31) (v := .int .i64 cl) rfl (by kernel_rfl) (by kernel_rfl) (by kernel_rfl) (fun _ _ _ h => h) (Or.inl ⟨by rfl, fun w' hSw => by (have y0 := hSw.c 0 _ rfl; have yl := hSw.lt; go_simp)⟩) hHeld ?_
            simp only [Act.put, List.setIfInBounds_toArray, List.set_cons_zero, List.set_cons_succ, List.getElem_cons_zero, List.getElem_cons_succ, List.getElem_toArray]
            refine wpAnyH_take (i := 32) (v := .int .i64 cyc) rfl (by kernel_rfl) (by kernel_rfl) (by kernel_rfl) (fun _ _ _ h => h) (Or.inl ⟨by rfl, fun w' hSw => by (go_simp)⟩) hHeld ?_
            simp only [Act.put, List.setIfInBounds_toArray, List.set_cons_zero, List.set_cons_succ, List.getElem_cons_zero, List.getElem_cons_succ, List.getElem_toArray]
            refine wpAnyH_take (i := 34) (v := .pointer (some ⟨rb, 0, none⟩)) rfl (by kernel_rfl) (by kernel_rfl) (by kernel_rfl) (fun _ _ _ h => h) (Or.inl ⟨by rfl, fun w' hSw => by (go_simp)⟩) hHeld ?_
            simp only [Act.put, List.setIfInBounds_toArray, List.set_cons_zero, List.set_cons_succ, List.getElem_cons_zero, List.getElem_cons_succ, List.getElem_toArray]
            refine wpAnyH_take (i := 35) (v := .pointer (some ⟨ob, 0, none⟩)) rfl (by kernel_rfl) (by kernel_rfl) (by kernel_rfl) (fun _ _ _ h => h) (Or.inl ⟨by rfl, fun w' hSw => by (go_simp)⟩) hHeld ?_
            simp only [Act.put, List.setIfInBounds_toArray, List.set_cons_zero, List.set_cons_succ, List.getElem_cons_zero, List.getElem_cons_succ, List.getElem_toArray]
            refine wpAnyH_take (i := 36) (v := .int .i64 cl) rfl (by kernel_rfl) (by kernel_rfl) (by kernel_rfl) (fun _ _ _ h => h) (Or.inl ⟨by rfl, fun w' hSw => by (have y0 := hSw.c 0 _ rfl; have yl := hSw.lt; go_simp)⟩) hHeld ?_
            simp only [Act.put, List.setIfInBounds_toArray, List.set_cons_zero, List.set_cons_succ, List.getElem_cons_zero, List.getElem_cons_succ, List.getElem_toArray]
            refine wpAnyH_take (i := 37) (v := .int .i64 cyc) rfl (by kernel_rfl) (by kernel_rfl) (by kernel_rfl) (fun _ _ _ h => h) (Or.inl ⟨by rfl, fun w' hSw => by (go_simp)⟩) hHeld ?_
            simp only [Act.put, List.setIfInBounds_toArray, List.set_cons_zero, List.set_cons_succ, List.getElem_cons_zero, List.getElem_cons_succ, List.getElem_toArray]
            refine wpAnyH_ready (rs := [33]) (by kernel_rfl) (by simp) ?_
            refine AllReadyH.cons rfl (fun K hK => ?_) AllReadyH.nil
            go_simp
            refine Calls.mono (HUa.out _ _ _ _ HV6.out.1) ?_
            rintro e w7 ⟨rfl, bw7⟩
            have HV7 : Hid (Py w B w7 t ra ma na ev f2 rb a c L2 ∧ At w7 ob #[.int .i64 cl, .int .i64 y, .bool false]) := ⟨HV6.out.1.next bw7, HV6.out.2.below bw7 HV6.out.2.lt⟩
            clear bw7 HUa
            refine hK.out _ _ HV7.out.2 (fun hHeld => ?_)
            clear hK K
            refine wpAnyH_ready (rs := [38]) (by kernel_rfl) (by simp) ?_
            refine AllReadyH.cons rfl (fun K hK => ?_) AllReadyH.nil
            go_simp
            refine Calls.mono (HUb.out _ _ _ _ HV7.out.1) ?_
            rintro e w8 ⟨rfl, bw8⟩
            have HV8 : Hid (Py w B w8 t ra ma na ev f2 rb a c L2 ∧ At w8 ob #[.int .i64 cl, .int .i64 y, .bool false]) := ⟨HV7.out.1.next bw8, HV7.out.2.below bw8 HV7.out.2.lt⟩
            clear bw8 HUb
            refine hK.out _ _ HV8.out.2 (fun hHeld => ?_)
            clear hK K
            refine wpAnyH_take (i := 39) (v := .bool false) rfl (by kernel_rfl) (by kernel_rfl) (by kernel_rfl) (fun _ _ _ h => h) (Or.inl ⟨by rfl, fun w' hSw => by (go_simp)⟩) hHeld ?_
            simp only [Act.put, List.setIfInBounds_toArray, List.set_cons_zero, List.set_cons_succ, List.getElem_cons_zero, List.getElem_cons_succ, List.getElem_toArray]
            refine wpAnyH_take (i := 40) (v := .bool false) rfl (by kernel_rfl) (by kernel_rfl) (by kernel_rfl) (fun _ _ _ h => h) (Or.inl ⟨by rfl, fun w' hSw => by (go_simp)⟩) hHeld ?_
            simp only [Act.put, List.setIfInBounds_toArray, List.set_cons_zero, List.set_cons_succ, List.getElem_cons_zero, List.getElem_cons_succ, List.getElem_toArray]
            refine wpAnyH_done (by kernel_rfl) ?_ _
            go_wp2
            go_roundw
            case rel => exact ⟨k + 1, na, L2, a, c, by omega, by go_num, by rw [← HF2.out]; exact HV8.out.1, by rw [← HF2.out]; exact HQ2.out.1, by omega, by have := HQ2.out.2; omega⟩
            case measure => simp [intOf]; omega
          · go_upto_region 17 with fail
            have HTa : Hid (∀ W, Py w B W t ra ma na ev (Fl t ev L) rb a c L → Calls Tryd.prog 12 #[.pointer (some ⟨ra, 0, none⟩), .int .i64 cl, .int .i64 cyc] W fun e w' => e = .returned (.bool (frB t ev (Fl t ev L) cl cyc)) ∧ ∃ n', Py w B w' t ra ma n' ev (tkF t ev (Fl t ev L) cl cyc) rb a c L ∧ n' ≤ na + 4 ∧ ∀ {ob : Nat} {cs : Array Value}, At W ob cs → ob ≠ ma → At w' ob cs) := fun W h => (take_any cl cyc W h.pa HEv.out HQ.out.2.1 HOk.out (by omega)).mono fun e w' h' => by
              obtain ⟨e1, n', r', l', f'⟩ := h'
              exact ⟨e1, n', h.setA r' f', l', fun ha hne => at_frx ha f' hne⟩
            have HTb : Hid (∀ W n2, Py w B W t ra ma n2 ev (tkF t ev (Fl t ev L) cl cyc) rb a c L → Calls Tryd.prog 13 #[.pointer (some ⟨rb, 0, none⟩), .int .i64 cl, .int .i64 cyc] W fun e w' => e = .returned (.bool (frB t ev (Fl t ev L) cl cyc)) ∧ ∃ a' c', Py w B w' t ra ma n2 ev (tkF t ev (Fl t ev L) cl cyc) rb a' c' (tkL t ev L cl cyc) ∧ ∀ {ob : Nat} {cs : Array Value}, At W ob cs → ¬ Dx rb (.slice a L.length c) ob → At w' ob cs) := fun W n2 h => (dtake_any cl cyc W h.da HEv.out HOk.out (by omega) hcy).mono fun e w' h' => by
              obtain ⟨e1, a', c', d', f'⟩ := h'
              exact ⟨e1, a', c', h.setB d' f', fun ha hne => at_frx ha f' hne⟩
            have HF2 : Hid (tkF t ev (Fl t ev L) cl cyc = Fl t ev (tkL t ev L cl cyc)) := (tkL_Fl t ev L cl cyc).symm
            have hlen2 : (tkL t ev L cl cyc).length ≤ L.length + 1 := by unfold tkL; split <;> simp
            have HQ2 : Hid (Few (tkF t ev (Fl t ev L) cl cyc) ∧ (tkL t ev L cl cyc).length ≤ L.length + 1) := ⟨tk_few HQ.out.2.1 HOk.out _ _, hlen2⟩
            have HFa : Hid (∀ W n2 a2 c2, Py w B W t ra ma n2 ev (tkF t ev (Fl t ev L) cl cyc) rb a2 c2 (tkL t ev L cl cyc) → Calls Tryd.prog 14 #[.pointer (some ⟨ra, 0, none⟩), .int .i64 cl, .int .i64 cyc] W fun e w' => e = .returned (.bool (frB t ev (tkF t ev (Fl t ev L) cl cyc) cl cyc)) ∧ Below W.heap.size W w') := fun W n2 a2 c2 h => free_any cl cyc W h.pa HEv.out HQ2.out.1 HOk.out
            have HFb : Hid (∀ W n2 a2 c2, Py w B W t ra ma n2 ev (tkF t ev (Fl t ev L) cl cyc) rb a2 c2 (tkL t ev L cl cyc) → Calls Tryd.prog 15 #[.pointer (some ⟨rb, 0, none⟩), .int .i64 cl, .int .i64 cyc] W fun e w' => e = .returned (.bool (frB t ev (tkF t ev (Fl t ev L) cl cyc) cl cyc)) ∧ Below W.heap.size W w') := fun W n2 a2 c2 h => by have := dfree_any cl cyc W h.da HEv.out HOk.out (by have := HQ2.out.2; omega) hcy; rw [← HF2.out] at this; exact this
            have HUa : Hid (∀ W n2 a2 c2, Py w B W t ra ma n2 ev (tkF t ev (Fl t ev L) cl cyc) rb a2 c2 (tkL t ev L cl cyc) → Calls Tryd.prog 16 #[.pointer (some ⟨ra, 0, none⟩), .int .i64 cl, .int .i64 cyc] W fun e w' => e = .returned (.int .i64 ((tkF t ev (Fl t ev L) cl cyc) cl (tn ev cyc))) ∧ Below W.heap.size W w') := fun W n2 a2 c2 h => used_any cl cyc W h.pa HEv.out ⟨hI1.1, hI1.2⟩ (by unfold I64; unfold I41 at hcy; omega)
            have HUb : Hid (∀ W n2 a2 c2, Py w B W t ra ma n2 ev (tkF t ev (Fl t ev L) cl cyc) rb a2 c2 (tkL t ev L cl cyc) → Calls Tryd.prog 17 #[.pointer (some ⟨rb, 0, none⟩), .int .i64 cl, .int .i64 cyc] W fun e w' => e = .returned (.int .i64 ((tkF t ev (Fl t ev L) cl cyc) cl (tn ev cyc))) ∧ Below W.heap.size W w') := fun W n2 a2 c2 h => by have := dUsed_any cl cyc W h.da HEv.out HOk.out (by have := HQ2.out.2; omega); rw [← HF2.out] at this; exact this
            generalize (tkF t ev (Fl t ev L) cl cyc) cl (tn ev cyc) = us at *
            generalize frB t ev (tkF t ev (Fl t ev L) cl cyc) cl cyc = fq at *
            generalize frB t ev (Fl t ev L) cl cyc = fb at *
            clear hlen2
            obtain ⟨L2, hL2⟩ : ∃ L2, tkL t ev L cl cyc = L2 := ⟨_, rfl⟩
            obtain ⟨f2, hf2⟩ : ∃ f2, tkF t ev (Fl t ev L) cl cyc = f2 := ⟨_, rfl⟩
            rw [hL2] at HTb HF2 HQ2 HFa HFb HUa HUb
            rw [hf2] at HTa HTb HF2 HQ2 HFa HFb HUa HUb
            clear hL2 hf2
            have hnb : (fq != fq) = false := by simp
            have hnu : (us != us) = false := by simp
            refine wp_region_held_drew (S := fun W => At W ob #[.int .i64 cl, .int .i64 y, .bool true]) (by kernel_rfl) (HV.out.2.1.below (drew_up _) HV.out.2.1.lt) (fun hHeld => ?_)
            refine wpAnyH_take (i := 0) (v := .pointer (some ⟨ob, 2, none⟩)) rfl (by kernel_rfl) (by kernel_rfl) (by kernel_rfl) (fun _ _ _ h => h) (Or.inl ⟨by rfl, fun w' hSw => by (go_simp)⟩) hHeld ?_
            simp only [Act.put, List.setIfInBounds_toArray, List.set_cons_zero, List.set_cons_succ, List.getElem_cons_zero, List.getElem_toArray]
            refine wpAnyH_take (i := 1) (v := .bool true) rfl (by kernel_rfl) (by kernel_rfl) (by kernel_rfl) (fun _ _ _ h => h) (Or.inl ⟨by rfl, fun w' hSw => by (have y0 := hSw.c 2 _ rfl; have yl := hSw.lt; go_simp)⟩) hHeld ?_
            simp only [Act.put, List.setIfInBounds_toArray, List.set_cons_zero, List.set_cons_succ, List.getElem_cons_zero, List.getElem_cons_succ, List.getElem_toArray]
            refine wpAnyH_take (i := 2) (v := .bool true) rfl (by kernel_rfl) (by kernel_rfl) (by kernel_rfl) (fun _ _ _ h => h) (Or.inl ⟨by rfl, fun w' hSw => by (go_simp)⟩) hHeld ?_
            simp only [Act.put, List.setIfInBounds_toArray, List.set_cons_zero, List.set_cons_succ, List.getElem_cons_zero, List.getElem_cons_succ, List.getElem_toArray]
            refine wpAnyH_take (i := 3) (v := .pointer (some ⟨ra, 0, none⟩)) rfl (by kernel_rfl) (by kernel_rfl) (by kernel_rfl) (fun _ _ _ h => h) (Or.inl ⟨by rfl, fun w' hSw => by (go_simp)⟩) hHeld ?_
            simp only [Act.put, List.setIfInBounds_toArray, List.set_cons_zero, List.set_cons_succ, List.getElem_cons_zero, List.getElem_cons_succ, List.getElem_toArray]
            refine wpAnyH_take (i := 4) (v := .pointer (some ⟨ob, 0, none⟩)) rfl (by kernel_rfl) (by kernel_rfl) (by kernel_rfl) (fun _ _ _ h => h) (Or.inl ⟨by rfl, fun w' hSw => by (go_simp)⟩) hHeld ?_
            simp only [Act.put, List.setIfInBounds_toArray, List.set_cons_zero, List.set_cons_succ, List.getElem_cons_zero, List.getElem_cons_succ, List.getElem_toArray]
            refine wpAnyH_take (i := 5) (v := .int .i64 cl) rfl (by kernel_rfl) (by kernel_rfl) (by kernel_rfl) (fun _ _ _ h => h) (Or.inl ⟨by rfl, fun w' hSw => by (have y0 := hSw.c 0 _ rfl; have yl := hSw.lt; go_simp)⟩) hHeld ?_
            simp only [Act.put, List.setIfInBounds_toArray, List.set_cons_zero, List.set_cons_succ, List.getElem_cons_zero, List.getElem_cons_succ, List.getElem_toArray]
            refine wpAnyH_take (i := 6) (v := .int .i64 cyc) rfl (by kernel_rfl) (by kernel_rfl) (by kernel_rfl) (fun _ _ _ h => h) (Or.inl ⟨by rfl, fun w' hSw => by (go_simp)⟩) hHeld ?_
            simp only [Act.put, List.setIfInBounds_toArray, List.set_cons_zero, List.set_cons_succ, List.getElem_cons_zero, List.getElem_cons_succ, List.getElem_toArray]
            refine wpAnyH_take (i := 8) (v := .pointer (some ⟨rb, 0, none⟩)) rfl (by kernel_rfl) (by kernel_rfl) (by kernel_rfl) (fun _ _ _ h => h) (Or.inl ⟨by rfl, fun w' hSw => by (go_simp)⟩) hHeld ?_
            simp only [Act.put, List.setIfInBounds_toArray, List.set_cons_zero, List.set_cons_succ, List.getElem_cons_zero, List.getElem_cons_succ, List.getElem_toArray]
            refine wpAnyH_take (i := 9) (v := .pointer (some ⟨ob, 0, none⟩)) rfl (by kernel_rfl) (by kernel_rfl) (by kernel_rfl) (fun _ _ _ h => h) (Or.inl ⟨by rfl, fun w' hSw => by (go_simp)⟩) hHeld ?_
            simp only [Act.put, List.setIfInBounds_toArray, List.set_cons_zero, List.set_cons_succ, List.getElem_cons_zero, List.getElem_cons_succ, List.getElem_toArray]
            refine wpAnyH_take (i := 10) (v := .int .i64 cl) rfl (by kernel_rfl) (by kernel_rfl) (by kernel_rfl) (fun _ _ _ h => h) (Or.inl ⟨by rfl, fun w' hSw => by (have y0 := hSw.c 0 _ rfl; have yl := hSw.lt; go_simp)⟩) hHeld ?_
            simp only [Act.put, List.setIfInBounds_toArray, List.set_cons_zero, List.set_cons_succ, List.getElem_cons_zero, List.getElem_cons_succ, List.getElem_toArray]
            refine wpAnyH_take (i := 11) (v := .int .i64 cyc) rfl (by kernel_rfl) (by kernel_rfl) (by kernel_rfl) (fun _ _ _ h => h) (Or.inl ⟨by rfl, fun w' hSw => by (go_simp)⟩) hHeld ?_
            simp only [Act.put, List.setIfInBounds_toArray, List.set_cons_zero, List.set_cons_succ, List.getElem_cons_zero, List.getElem_cons_succ, List.getElem_toArray]
            refine wpAnyH_ready (rs := [7]) (by kernel_rfl) (by simp) ?_
            refine AllReadyH.cons rfl (fun K hK => ?_) AllReadyH.nil
            go_simp
            refine Calls.mono (HTa.out _ (HV.out.1.next (drew_up _))) ?_
            rintro e w3 ⟨rfl, n3, t3, l3, o3⟩
            have HV3 : Hid (Py w B w3 t ra ma n3 ev f2 rb a c L ∧ At w3 ob #[.int .i64 cl, .int .i64 y, .bool true] ∧ n3 ≤ na + 4) := ⟨t3, o3 (HV.out.2.1.below (drew_up _) HV.out.2.1.lt) HV.out.2.2.1, l3⟩
            clear t3 l3 o3 HTa
            refine hK.out _ _ HV3.out.2.1 (fun hHeld => ?_)
            clear hK K
            refine wpAnyH_ready (rs := [12]) (by kernel_rfl) (by simp) ?_
            refine AllReadyH.cons rfl (fun K hK => ?_) AllReadyH.nil
            go_simp
            refine Calls.mono (HTb.out _ _ HV3.out.1) ?_
            rintro e w4 ⟨rfl, a4, c4, t4, o4⟩
            have HV4 : Hid (Py w B w4 t ra ma n3 ev f2 rb a4 c4 L2 ∧ At w4 ob #[.int .i64 cl, .int .i64 y, .bool true]) := ⟨t4, o4 HV3.out.2.1 HV.out.2.2.2⟩
            clear t4 o4 HTb
            refine hK.out _ _ HV4.out.2 (fun hHeld => ?_)
            clear hK K
            refine wpAnyH_take (i := 13) (v := .bool false) rfl (by kernel_rfl) (by kernel_rfl) (by kernel_rfl) (fun _ _ _ h => h) (Or.inl ⟨by rfl, fun w' hSw => by (go_simp)⟩) hHeld ?_
            simp only [Act.put, List.setIfInBounds_toArray, List.set_cons_zero, List.set_cons_succ, List.getElem_cons_zero, List.getElem_cons_succ, List.getElem_toArray]
            refine wpAnyH_take (i := 14) (v := .bool false) rfl (by kernel_rfl) (by kernel_rfl) (by kernel_rfl) (fun _ _ _ h => h) (Or.inl ⟨by rfl, fun w' hSw => by (go_simp)⟩) hHeld ?_
            simp only [Act.put, List.setIfInBounds_toArray, List.set_cons_zero, List.set_cons_succ, List.getElem_cons_zero, List.getElem_cons_succ, List.getElem_toArray]
            refine wpAnyH_take (i := 15) (v := .bool false) rfl (by kernel_rfl) (by kernel_rfl) (by kernel_rfl) (fun _ _ _ h => h) (Or.inl ⟨by rfl, fun w' hSw => by (go_simp)⟩) hHeld ?_
            simp only [Act.put, List.setIfInBounds_toArray, List.set_cons_zero, List.set_cons_succ, List.getElem_cons_zero, List.getElem_cons_succ, List.getElem_toArray]
            refine wpAnyH_take (i := 16) (v := .pointer (some ⟨ra, 0, none⟩)) rfl (by kernel_rfl) (by kernel_rfl) (by kernel_rfl) (fun _ _ _ h => h) (Or.inl ⟨by rfl, fun w' hSw => by (go_simp)⟩) hHeld ?_
            simp only [Act.put, List.setIfInBounds_toArray, List.set_cons_zero, List.set_cons_succ, List.getElem_cons_zero, List.getElem_cons_succ, List.getElem_toArray]
            refine wpAnyH_take (i := 17) (v := .pointer (some ⟨ob, 0, none⟩)) rfl (by kernel_rfl) (by kernel_rfl) (by kernel_rfl) (fun _ _ _ h => h) (Or.inl ⟨by rfl, fun w' hSw => by (go_simp)⟩) hHeld ?_
            simp only [Act.put, List.setIfInBounds_toArray, List.set_cons_zero, List.set_cons_succ, List.getElem_cons_zero, List.getElem_cons_succ, List.getElem_toArray]
            refine wpAnyH_take (i := 18) (v := .int .i64 cl) rfl (by kernel_rfl) (by kernel_rfl) (by kernel_rfl) (fun _ _ _ h => h) (Or.inl ⟨by rfl, fun w' hSw => by (have y0 := hSw.c 0 _ rfl; have yl := hSw.lt; go_simp)⟩) hHeld ?_
            simp only [Act.put, List.setIfInBounds_toArray, List.set_cons_zero, List.set_cons_succ, List.getElem_cons_zero, List.getElem_cons_succ, List.getElem_toArray]
            refine wpAnyH_take (i := 19) (v := .int .i64 cyc) rfl (by kernel_rfl) (by kernel_rfl) (by kernel_rfl) (fun _ _ _ h => h) (Or.inl ⟨by rfl, fun w' hSw => by (go_simp)⟩) hHeld ?_
            simp only [Act.put, List.setIfInBounds_toArray, List.set_cons_zero, List.set_cons_succ, List.getElem_cons_zero, List.getElem_cons_succ, List.getElem_toArray]
            refine wpAnyH_take (i := 21) (v := .pointer (some ⟨rb, 0, none⟩)) rfl (by kernel_rfl) (by kernel_rfl) (by kernel_rfl) (fun _ _ _ h => h) (Or.inl ⟨by rfl, fun w' hSw => by (go_simp)⟩) hHeld ?_
            simp only [Act.put, List.setIfInBounds_toArray, List.set_cons_zero, List.set_cons_succ, List.getElem_cons_zero, List.getElem_cons_succ, List.getElem_toArray]
            refine wpAnyH_take (i := 22) (v := .pointer (some ⟨ob, 0, none⟩)) rfl (by kernel_rfl) (by kernel_rfl) (by kernel_rfl) (fun _ _ _ h => h) (Or.inl ⟨by rfl, fun w' hSw => by (go_simp)⟩) hHeld ?_
            simp only [Act.put, List.setIfInBounds_toArray, List.set_cons_zero, List.set_cons_succ, List.getElem_cons_zero, List.getElem_cons_succ, List.getElem_toArray]
            refine wpAnyH_take (i := 23) (v := .int .i64 cl) rfl (by kernel_rfl) (by kernel_rfl) (by kernel_rfl) (fun _ _ _ h => h) (Or.inl ⟨by rfl, fun w' hSw => by (have y0 := hSw.c 0 _ rfl; have yl := hSw.lt; go_simp)⟩) hHeld ?_
            simp only [Act.put, List.setIfInBounds_toArray, List.set_cons_zero, List.set_cons_succ, List.getElem_cons_zero, List.getElem_cons_succ, List.getElem_toArray]
            refine wpAnyH_take (i := 24) (v := .int .i64 cyc) rfl (by kernel_rfl) (by kernel_rfl) (by kernel_rfl) (fun _ _ _ h => h) (Or.inl ⟨by rfl, fun w' hSw => by (go_simp)⟩) hHeld ?_
            simp only [Act.put, List.setIfInBounds_toArray, List.set_cons_zero, List.set_cons_succ, List.getElem_cons_zero, List.getElem_cons_succ, List.getElem_toArray]
            refine wpAnyH_ready (rs := [20]) (by kernel_rfl) (by simp) ?_
            refine AllReadyH.cons rfl (fun K hK => ?_) AllReadyH.nil
            go_simp
            refine Calls.mono (HFa.out _ _ _ _ HV4.out.1) ?_
            rintro e w5 ⟨rfl, bw5⟩
            have HV5 : Hid (Py w B w5 t ra ma n3 ev f2 rb a4 c4 L2 ∧ At w5 ob #[.int .i64 cl, .int .i64 y, .bool true]) := ⟨HV4.out.1.next bw5, HV4.out.2.below bw5 HV4.out.2.lt⟩
            clear bw5 HFa
            refine hK.out _ _ HV5.out.2 (fun hHeld => ?_)
            clear hK K
            refine wpAnyH_ready (rs := [25]) (by kernel_rfl) (by simp) ?_
            refine AllReadyH.cons rfl (fun K hK => ?_) AllReadyH.nil
            go_simp
            refine Calls.mono (HFb.out _ _ _ _ HV5.out.1) ?_
            rintro e w6 ⟨rfl, bw6⟩
            have HV6 : Hid (Py w B w6 t ra ma n3 ev f2 rb a4 c4 L2 ∧ At w6 ob #[.int .i64 cl, .int .i64 y, .bool true]) := ⟨HV5.out.1.next bw6, HV5.out.2.below bw6 HV5.out.2.lt⟩
            clear bw6 HFb
            refine hK.out _ _ HV6.out.2 (fun hHeld => ?_)
            clear hK K
            refine wpAnyH_take (i := 26) (v := .bool false) rfl (by kernel_rfl) (by kernel_rfl) (by kernel_rfl) (fun _ _ _ h => h) (Or.inl ⟨by rfl, fun w' hSw => by (go_simp)⟩) hHeld ?_
            simp only [Act.put, List.setIfInBounds_toArray, List.set_cons_zero, List.set_cons_succ, List.getElem_cons_zero, List.getElem_cons_succ, List.getElem_toArray]
            refine wpAnyH_take (i := 27) (v := .bool false) rfl (by kernel_rfl) (by kernel_rfl) (by kernel_rfl) (fun _ _ _ h => h) (Or.inl ⟨by rfl, fun w' hSw => by (go_simp)⟩) hHeld ?_
            simp only [Act.put, List.setIfInBounds_toArray, List.set_cons_zero, List.set_cons_succ, List.getElem_cons_zero, List.getElem_cons_succ, List.getElem_toArray]
            refine wpAnyH_take (i := 28) (v := .bool false) rfl (by kernel_rfl) (by kernel_rfl) (by kernel_rfl) (fun _ _ _ h => h) (Or.inl ⟨by rfl, fun w' hSw => by (go_simp)⟩) hHeld ?_
            simp only [Act.put, List.setIfInBounds_toArray, List.set_cons_zero, List.set_cons_succ, List.getElem_cons_zero, List.getElem_cons_succ, List.getElem_toArray]
            refine wpAnyH_take (i := 29) (v := .pointer (some ⟨ra, 0, none⟩)) rfl (by kernel_rfl) (by kernel_rfl) (by kernel_rfl) (fun _ _ _ h => h) (Or.inl ⟨by rfl, fun w' hSw => by (go_simp)⟩) hHeld ?_
            simp only [Act.put, List.setIfInBounds_toArray, List.set_cons_zero, List.set_cons_succ, List.getElem_cons_zero, List.getElem_cons_succ, List.getElem_toArray]
            refine wpAnyH_take (i := 30) (v := .pointer (some ⟨ob, 0, none⟩)) rfl (by kernel_rfl) (by kernel_rfl) (by kernel_rfl) (fun _ _ _ h => h) (Or.inl ⟨by rfl, fun w' hSw => by (go_simp)⟩) hHeld ?_
            simp only [Act.put, List.setIfInBounds_toArray, List.set_cons_zero, List.set_cons_succ, List.getElem_cons_zero, List.getElem_cons_succ, List.getElem_toArray]
            refine wpAnyH_take (i := 31) (v := .int .i64 cl) rfl (by kernel_rfl) (by kernel_rfl) (by kernel_rfl) (fun _ _ _ h => h) (Or.inl ⟨by rfl, fun w' hSw => by (have y0 := hSw.c 0 _ rfl; have yl := hSw.lt; go_simp)⟩) hHeld ?_
            simp only [Act.put, List.setIfInBounds_toArray, List.set_cons_zero, List.set_cons_succ, List.getElem_cons_zero, List.getElem_cons_succ, List.getElem_toArray]
            refine wpAnyH_take (i := 32) (v := .int .i64 cyc) rfl (by kernel_rfl) (by kernel_rfl) (by kernel_rfl) (fun _ _ _ h => h) (Or.inl ⟨by rfl, fun w' hSw => by (go_simp)⟩) hHeld ?_
            simp only [Act.put, List.setIfInBounds_toArray, List.set_cons_zero, List.set_cons_succ, List.getElem_cons_zero, List.getElem_cons_succ, List.getElem_toArray]
            refine wpAnyH_take (i := 34) (v := .pointer (some ⟨rb, 0, none⟩)) rfl (by kernel_rfl) (by kernel_rfl) (by kernel_rfl) (fun _ _ _ h => h) (Or.inl ⟨by rfl, fun w' hSw => by (go_simp)⟩) hHeld ?_
            simp only [Act.put, List.setIfInBounds_toArray, List.set_cons_zero, List.set_cons_succ, List.getElem_cons_zero, List.getElem_cons_succ, List.getElem_toArray]
            refine wpAnyH_take (i := 35) (v := .pointer (some ⟨ob, 0, none⟩)) rfl (by kernel_rfl) (by kernel_rfl) (by kernel_rfl) (fun _ _ _ h => h) (Or.inl ⟨by rfl, fun w' hSw => by (go_simp)⟩) hHeld ?_
            simp only [Act.put, List.setIfInBounds_toArray, List.set_cons_zero, List.set_cons_succ, List.getElem_cons_zero, List.getElem_cons_succ, List.getElem_toArray]
            refine wpAnyH_take (i := 36) (v := .int .i64 cl) rfl (by kernel_rfl) (by kernel_rfl) (by kernel_rfl) (fun _ _ _ h => h) (Or.inl ⟨by rfl, fun w' hSw => by (have y0 := hSw.c 0 _ rfl; have yl := hSw.lt; go_simp)⟩) hHeld ?_
            simp only [Act.put, List.setIfInBounds_toArray, List.set_cons_zero, List.set_cons_succ, List.getElem_cons_zero, List.getElem_cons_succ, List.getElem_toArray]
            refine wpAnyH_take (i := 37) (v := .int .i64 cyc) rfl (by kernel_rfl) (by kernel_rfl) (by kernel_rfl) (fun _ _ _ h => h) (Or.inl ⟨by rfl, fun w' hSw => by (go_simp)⟩) hHeld ?_
            simp only [Act.put, List.setIfInBounds_toArray, List.set_cons_zero, List.set_cons_succ, List.getElem_cons_zero, List.getElem_cons_succ, List.getElem_toArray]
            refine wpAnyH_ready (rs := [33]) (by kernel_rfl) (by simp) ?_
            refine AllReadyH.cons rfl (fun K hK => ?_) AllReadyH.nil
            go_simp
            refine Calls.mono (HUa.out _ _ _ _ HV6.out.1) ?_
            rintro e w7 ⟨rfl, bw7⟩
            have HV7 : Hid (Py w B w7 t ra ma n3 ev f2 rb a4 c4 L2 ∧ At w7 ob #[.int .i64 cl, .int .i64 y, .bool true]) := ⟨HV6.out.1.next bw7, HV6.out.2.below bw7 HV6.out.2.lt⟩
            clear bw7 HUa
            refine hK.out _ _ HV7.out.2 (fun hHeld => ?_)
            clear hK K
            refine wpAnyH_ready (rs := [38]) (by kernel_rfl) (by simp) ?_
            refine AllReadyH.cons rfl (fun K hK => ?_) AllReadyH.nil
            go_simp
            refine Calls.mono (HUb.out _ _ _ _ HV7.out.1) ?_
            rintro e w8 ⟨rfl, bw8⟩
            have HV8 : Hid (Py w B w8 t ra ma n3 ev f2 rb a4 c4 L2 ∧ At w8 ob #[.int .i64 cl, .int .i64 y, .bool true]) := ⟨HV7.out.1.next bw8, HV7.out.2.below bw8 HV7.out.2.lt⟩
            clear bw8 HUb
            refine hK.out _ _ HV8.out.2 (fun hHeld => ?_)
            clear hK K
            refine wpAnyH_take (i := 39) (v := .bool false) rfl (by kernel_rfl) (by kernel_rfl) (by kernel_rfl) (fun _ _ _ h => h) (Or.inl ⟨by rfl, fun w' hSw => by (go_simp)⟩) hHeld ?_
            simp only [Act.put, List.setIfInBounds_toArray, List.set_cons_zero, List.set_cons_succ, List.getElem_cons_zero, List.getElem_cons_succ, List.getElem_toArray]
            refine wpAnyH_take (i := 40) (v := .bool false) rfl (by kernel_rfl) (by kernel_rfl) (by kernel_rfl) (fun _ _ _ h => h) (Or.inl ⟨by rfl, fun w' hSw => by (go_simp)⟩) hHeld ?_
            simp only [Act.put, List.setIfInBounds_toArray, List.set_cons_zero, List.set_cons_succ, List.getElem_cons_zero, List.getElem_cons_succ, List.getElem_toArray]
            refine wpAnyH_done (by kernel_rfl) ?_ _
            go_wp2
            go_roundw
            case rel => exact ⟨k + 1, n3, L2, a4, c4, by omega, by go_num, by rw [← HF2.out]; exact HV8.out.1, by rw [← HF2.out]; exact HQ2.out.1, by have := HV3.out.2.2; omega, by have := HQ2.out.2; omega⟩
            case measure => simp [intOf]; omega
    · obtain rfl : k = xs.length := by omega
      have k1 : ¬ (xs.length : Int) < (xs.length : Int) := by omega
      go_wp2_with (first | (go_at_call 11; refine Calls.mono (HW.out _ HQ.out.1.up) ?_; rintro e w9 ⟨rfl, b9⟩; have HB : Hid (Below w.heap.size w w9) := HQ.out.1.up.trans (b9.mono HQ.out.1.up.size); clear b9 HW))
      go_ret
      exact ⟨rfl, HB.out⟩
end Go.Proofs.YthjnegdgpnbkkaaDoor.Rv
