/- The statement ReserveCounts over the program: never are more units busy than there are, in whatever order they are taken. Conditions: the asks lie in memory, the variables as the program lays them. -/
import Derived.Test.YthjnegdgpnbkkaaDoorRj
namespace Go.Proofs.YthjnegdgpnbkkaaDoor.Rv
open Go.ChangeShapes Go.WideShapes Go.ChangeAt Go.RowKit Go.Maps
open _root_.Go.Proofs.YthjnegdgpnbkkaaDoor.Op _root_.Go.Proofs.YthjnegdgpnbkkaaDoor.So
open _root_.Go.Proofs.YthjnegdgpnbkkaaDoor.Tb (Tab TabAt Bnds)
set_option maxRecDepth 20000

theorem atSetX {w : World} {b : Nat} {x y z : Value} (h : At w b #[x, y, z]) (x' : Value) : At (w.setCell ⟨b, 0, none⟩ x') b #[x', y, z] := by
  refine ⟨fun j v e => ?_, fun j => by rw [World.frozen?_setCell]; exact h.f j, by simpa using h.lt⟩
  match j, e with
  | 0, e => have e : x' = v := by simpa using e
            subst e; exact World.cell?_setCell_same _ _ _ (h.c 0 _ rfl)
  | 1, e => rw [World.cell?_setCell_other _ _ _ _ (by intro h'; injection h' with _ h2; omega)]; exact h.c 1 v e
  | 2, e => rw [World.cell?_setCell_other _ _ _ _ (by intro h'; injection h' with _ h2; omega)]; exact h.c 2 v e
  | j + 3, e => simp at e
theorem atSetY {w : World} {b : Nat} {x y z : Value} (h : At w b #[x, y, z]) (y' : Value) : At (w.setCell ⟨b, 1, none⟩ y') b #[x, y', z] := by
  refine ⟨fun j v e => ?_, fun j => by rw [World.frozen?_setCell]; exact h.f j, by simpa using h.lt⟩
  match j, e with
  | 0, e => rw [World.cell?_setCell_other _ _ _ _ (by intro h'; injection h' with _ h2; omega)]; exact h.c 0 v e
  | 1, e => have e : y' = v := by simpa using e
            subst e; exact World.cell?_setCell_same _ _ _ (h.c 1 _ rfl)
  | 2, e => rw [World.cell?_setCell_other _ _ _ _ (by intro h'; injection h' with _ h2; omega)]; exact h.c 2 v e
  | j + 3, e => simp at e
theorem at_one_fr {w w' : World} {b q : Nat} {cs : Array Value} (h : At w b cs) (g : Fr (One q) w w') (hne : b ≠ q) : At w' b cs :=
  ⟨fun j v e => by rw [g.cell h.lt hne]; exact h.c j v e, fun j => by rw [g.frozen h.lt hne]; exact h.f j, Nat.lt_of_lt_of_le h.lt g.size⟩
/-- What the first loop knows. -/
structure C1 (v : World) (B : Nat) (W : World) (t : Tab) (ra ma rb mb na : Nat) (e : Int) (a : Option Addr) (c : Nat) (L : List Ak) : Prop where
  ct : Ct v B W t ra ma rb mb na 0 e (Fl t (some e) L) wf0 a c L
  few : Few (Fl t (some e) L)
  oku : OkU t (Fl t (some e) L)
  all : ∀ x ∈ L, (0 ≤ x.c ∧ x.c ≤ 3) ∧ I64 x.y
  len : L.length ≤ 40
  nal : na ≤ 160
set_option maxHeartbeats 16000000 in
theorem counts_main (t : Tab) (ev : Int) (ao : Option Addr) (cap : Nat) (xs : List Ak) (w : World) (hp : AksAt w ao xs) (hG : Bnds w) (hk : Tb.ckR t = 0) (h1 : 1 ≤ ev) (h2 : ev ≤ 65536) :
    Calls Tryd.prog 5 #[t.val, .int .i64 ev, .slice ao xs.length cap] w fun e w' => e = .returned (.bool true) ∧ Below w.heap.size w w' := by
  have HW : Hid (∀ W, Below w.heap.size w W → Calls Tryd.prog 11 #[] W fun e w' => e = .returned (.bool true) ∧ Below W.heap.size W w') := fun W hb => wakes_any W (hG.below hb hG.big)
  have ht : t.ok = true := by
    cases h : t.ok
    · unfold Tb.ckR at hk; rw [h] at hk; simp at hk
    · rfl
  have HR : Hid (∀ W, Below w.heap.size w W → Calls Tryd.prog 9 #[t.val, .int .i64 ev] W fun e w' => ∃ rb mb, e = .returned (.tuple #[.pointer (some ⟨rb, 0, none⟩), .int .i64 0]) ∧ RAt w' rb t (some ev) mb 0 wf0 ∧ (W.heap.size ≤ rb ∧ W.heap.size ≤ mb) ∧ Below W.heap.size W w') := fun W hb => ring_ok t ev W (hG.below hb hG.big) hk h1 h2
  have HP : Hid (AksAt w ao xs) := hp
  have hlen := hp.len
  have HOk : Hid (t.ok = true) := ht
  have HV0 : Hid (TabAt (w.alloc (.cells t.cells 24)) w.heap.size t ∧ Below w.heap.size w (w.alloc (.cells t.cells 24)) ∧ (w.alloc (.cells t.cells 24)).heap.size = w.heap.size + 1) := ⟨Tb.tabAt_new w t 24, (Below.refl _ _).alloc (Nat.le_refl _) _, by simp⟩
  clear hp hG hk ht
  obtain ⟨i0, hi, hi2⟩ := Option.map_eq_some_iff.1 info37
  simp only [Prod.mk.injEq] at hi2
  obtain ⟨hz0, hz1, hz2⟩ := hi2
  have HI : Hid (Tryd.prog.info? 37 = some i0 ∧ i0.zero = some (.agg #[.int .i64 0, .int .i64 0, .bool false]) ∧ i0.size = 3 ∧ i0.bytes = 24) := ⟨hi, hz0, hz1, hz2⟩
  clear hi hz0 hz1 hz2
  unfold Tab.val at *
  go_enter Tryd.func5, Tryd.ntmps5
  go_upto_region 5 with (first
    | (go_at_call 9; have hx1 := HS1.out; refine Calls.mono (HR.out _ (HV0.out.2.1.trans (HS1.out.2.2.mono HV0.out.2.1.size))) ?_; rintro e w2 ⟨rb, mb, rfl, r2, p2, b2⟩; have HS : Hid (Tw (w.alloc (.cells t.cells 24)) w2 t ra ma rb mb 0 0 (some ev) (some ev) wf0 wf0 ∧ (ra < w2.heap.size ∧ ma < w2.heap.size)) := ⟨Tw.start HS1.out.1 HS1.out.2.1 HS1.out.2.2 r2 p2 b2, Nat.lt_of_lt_of_le HS1.out.1.at'.lt b2.size, Nat.lt_of_lt_of_le HS1.out.1.cm.lt b2.size⟩; clear r2 p2 b2 HR hx1 HS1 qu0 qu1 qu2 qu3 ql0 ql1 ql2 ql3 qb0 qb1 qb2 qb3 qd qz)
    | (go_at_call 9; refine Calls.mono (HR.out _ HV0.out.2.1) ?_; rintro e w1 ⟨ra, ma, rfl, r1, p1, b1⟩; have HS1 : Hid (RAt w1 ra t (some ev) ma 0 wf0 ∧ (w.alloc (.cells t.cells 24)).heap.size ≤ ma ∧ Below (w.alloc (.cells t.cells 24)).heap.size (w.alloc (.cells t.cells 24)) w1) := ⟨r1, p1.2, b1⟩; have k2 := HV0.out.1.below b1 HV0.out.1.lt; clear r1 p1 b1; have qu0 := k2.cu 0 (by decide); have qu1 := k2.cu 1 (by decide); have qu2 := k2.cu 2 (by decide); have qu3 := k2.cu 3 (by decide); have ql0 := k2.cl 0 (by decide); have ql1 := k2.cl 1 (by decide); have ql2 := k2.cl 2 (by decide); have ql3 := k2.cl 3 (by decide); have qb0 := k2.cb 0 (by decide); have qb1 := k2.cb 1 (by decide); have qb2 := k2.cb 2 (by decide); have qb3 := k2.cb 3 (by decide); have qd := k2.cd; have qz := k2.lt; clear k2))
  generalize (w.alloc (.cells t.cells 24)) = v at *
  obtain ⟨B, hB⟩ : ∃ B, B = w2.heap.size := ⟨_, rfl⟩
  have HC0 : Hid (C1 v B w2 t ra ma rb mb 0 ev none 0 []) := ⟨⟨HS.out.1, World.ownsRow_nil _ _ _ _, by rw [hB]; exact HS.out.2.1, by rw [hB]; exact HS.out.2.2, by rw [hB]; exact HS.out.1.b.at'.lt, by rw [hB]; exact HS.out.1.b.cm.lt, by rw [hB]; exact HS.out.1.up.size, by omega⟩, few0, OkU0 HOk.out, by simp, by simp, by omega⟩
  have hvw : v.heap.size = w.heap.size + 1 := HV0.out.2.2
  clear HS hB
  go_upto_block 0 with fail
  go_cut [11] (fun l wr => ∃ (L : List Ak) (a : Option Addr) (c na : Nat), l = .slice a L.length c ∧ C1 v B wr t ra ma rb mb na ev a c L)
  case first =>
    go_wp2
    go_loopw [11, 52] (fun l i wr => ∃ (k : Nat) (L : List Ak) (a : Option Addr) (c na : Nat), k ≤ xs.length ∧ l = .slice a L.length c ∧ i = .int .i64 k ∧ C1 v B wr t ra ma rb mb na ev a c L ∧ k ≤ 40 ∧ L.length ≤ k ∧ na ≤ 4 * k) (fun _ i _ => xs.length - (intOf i).toNat)
    case atStart => exact ⟨0, [], none, 0, 0, by omega, rfl, rfl, HC0.out, by omega, by simp, by omega⟩
    case round =>
      rename World => wr
      obtain ⟨k, L, a, c, na, hk, rfl, rfl, hc1, l1, l2, l3⟩ := hrel
      have HQ : Hid (C1 v B wr t ra ma rb mb na ev a c L) := hc1
      clear hc1 HC0
      by_cases hlt : k < xs.length
      · have k0 : (0 : Int) ≤ (k : Int) := by omega
        have k1 : (k : Int) < (xs.length : Int) := by omega
        obtain ⟨b, fo, rfl, hz, hx⟩ := (HP.out.below (HV0.out.2.1.trans (HQ.out.ct.tw.up.mono HV0.out.2.1.size))).is (by omega)
        obtain ⟨x0, x1, x2⟩ := hx k hlt
        obtain ⟨hI1, hI2⟩ := HP.out.ok xs[k] (List.getElem_mem hlt)
        clear hx
        obtain ⟨o, ho⟩ : ∃ o, xs[k] = o := ⟨_, rfl⟩
        rw [ho] at x0 x1 x2 hI1 hI2
        clear ho
        obtain ⟨cl, y, tk⟩ := o
        have hI1 : -9223372036854775808 ≤ cl ∧ cl ≤ 9223372036854775807 := hI1
        have hI2 : -9223372036854775808 ≤ y ∧ y ≤ 9223372036854775807 := hI2
        have x0 : wr.cell? ⟨b, fo + k * 3, none⟩ = some (.int .i64 cl) := x0
        have x1 : wr.cell? ⟨b, fo + k * 3 + 1, none⟩ = some (.int .i64 y) := x1
        have x2 : wr.cell? ⟨b, fo + k * 3 + 2, none⟩ = some (.bool tk) := x2
        have HV : Hid (C1 v B (wr.alloc (.cells #[.int .i64 cl, .int .i64 y, .bool tk] 37)) t ra ma rb mb na ev a c L ∧ At (wr.alloc (.cells #[.int .i64 cl, .int .i64 y, .bool tk] 37)) wr.heap.size #[.int .i64 cl, .int .i64 y, .bool tk] ∧ (wr.heap.size ≠ ma ∧ B ≤ wr.heap.size) ∧ Below wr.heap.size wr (wr.alloc (.cells #[.int .i64 cl, .int .i64 y, .bool tk] 37))) := ⟨⟨HQ.out.ct.next ((Below.refl _ _).alloc (Nat.le_refl _) _), HQ.out.few, HQ.out.oku, HQ.out.all, HQ.out.len, HQ.out.nal⟩, At.new _ _ _, ⟨by have := HQ.out.ct.tw.a.cm.lt; omega, HQ.out.ct.k6⟩, (Below.refl _ _).alloc (Nat.le_refl _) _⟩
        go_upto_region 9 with fail
        generalize wr.alloc (.cells #[.int .i64 cl, .int .i64 y, .bool tk] 37) = V at *
        by_cases h40 : 40 ≤ k
        · have h40' : (40 : Int) ≤ (k : Int) := by omega
          go_wp2
          go_meet
          case rel => exact ⟨L, a, c, na, rfl, HV.out.1⟩
        · have h40' : ¬ (40 : Int) ≤ (k : Int) := by omega
          have y0 := HV.out.2.1.c 0 _ rfl
          have y1 := HV.out.2.1.c 1 _ rfl
          have g0 := HV.out.2.1.f 0
          have g1 := HV.out.2.1.f 1
          have yl := HV.out.2.1.lt
          have z1 := Int.lt_tmod_of_pos cl (show (0 : Int) < 4 by omega)
          have z2 := Int.tmod_lt_of_pos cl (show (0 : Int) < 4 by omega)
          have hm : IntKind.i64.wrap (Int.tmod cl 4) = Int.tmod cl 4 := by rw [IntKind.wrap_i64]; omega
          have ha : IntKind.i64.wrap (Int.tmod cl 4 + 4) = Int.tmod cl 4 + 4 := by rw [IntKind.wrap_i64]; omega
          have z3 := Int.tmod_nonneg (b := 4) (show 0 ≤ Int.tmod cl 4 + 4 by omega)
          have z4 := Int.tmod_lt_of_pos (Int.tmod cl 4 + 4) (show (0 : Int) < 4 by omega)
          have hm2 : IntKind.i64.wrap (Int.tmod (Int.tmod cl 4 + 4) 4) = Int.tmod (Int.tmod cl 4 + 4) 4 := by rw [IntKind.wrap_i64]; omega
          have z5 := Int.lt_tmod_of_pos y (show (0 : Int) < 1048576 by omega)
          have z6 := Int.tmod_lt_of_pos y (show (0 : Int) < 1048576 by omega)
          have hm3 : IntKind.i64.wrap (Int.tmod y 1048576) = Int.tmod y 1048576 := by rw [IntKind.wrap_i64]; omega
          have q3 := Int.emod_nonneg (Int.tmod cl 4) (show (4 : Int) ≠ 0 by omega)
          have q4 := Int.emod_lt_of_pos (Int.tmod cl 4) (show (0 : Int) < 4 by omega)
          have HX : Hid (Ct v B ((V.setCell ⟨wr.heap.size, 0, none⟩ (.int .i64 (Int.tmod cl 4 % 4))).setCell ⟨wr.heap.size, 1, none⟩ (.int .i64 (Int.tmod y 1048576))) t ra ma rb mb na 0 ev (Fl t (some ev) L) wf0 a c L ∧ At ((V.setCell ⟨wr.heap.size, 0, none⟩ (.int .i64 (Int.tmod cl 4 % 4))).setCell ⟨wr.heap.size, 1, none⟩ (.int .i64 (Int.tmod y 1048576))) wr.heap.size #[.int .i64 (Int.tmod cl 4 % 4), .int .i64 (Int.tmod y 1048576), .bool tk] ∧ wr.heap.size ≠ ma) := ⟨HQ.out.ct.next ((((Fr.of (X := Non) HV.out.2.2.2).setCell (.inl (Nat.le_refl _)) 0 _).setCell (.inl (Nat.le_refl _)) 1 _).non), atSetY (atSetX HV.out.2.1 _) _, HV.out.2.2.1.1⟩
          go_upto_region 12 with fail
          generalize (V.setCell ⟨wr.heap.size, 0, none⟩ (.int .i64 (Int.tmod cl 4 % 4))).setCell ⟨wr.heap.size, 1, none⟩ (.int .i64 (Int.tmod y 1048576)) = X at *
          clear y0 y1 g0 g1 yl hm ha hm2 hm3 z1 z2 z3 z4 hz
          generalize wr.heap.size = ob at *
          generalize Int.tmod cl 4 % 4 = c' at *
          generalize Int.tmod y 1048576 = y' at *
          have x0 := HX.out.2.1.c 0 _ rfl
          have x1 := HX.out.2.1.c 1 _ rfl
          have xl := HX.out.2.1.lt
          have HFr : Hid (∀ W, Ct v B W t ra ma rb mb na 0 ev (Fl t (some ev) L) wf0 a c L → Calls Tryd.prog 14 #[.pointer (some ⟨ra, 0, none⟩), .int .i64 c', .int .i64 y'] W fun e w' => e = .returned (.bool (frB t (some ev) (Fl t (some ev) L) c' y')) ∧ Below W.heap.size W w') := fun W h => free_any c' y' W h.tw.a ⟨h1, h2⟩ HQ.out.few HOk.out
          have HTa : Hid (∀ W, Ct v B W t ra ma rb mb na 0 ev (Fl t (some ev) L) wf0 a c L → Calls Tryd.prog 12 #[.pointer (some ⟨ra, 0, none⟩), .int .i64 c', .int .i64 y'] W fun e w' => e = .returned (.bool (frB t (some ev) (Fl t (some ev) L) c' y')) ∧ ∃ n', Ct v B w' t ra ma rb mb n' 0 ev (tkF t (some ev) (Fl t (some ev) L) c' y') wf0 a c L ∧ n' ≤ na + 4 ∧ ∀ {ob : Nat} {cs : Array Value}, At W ob cs → ob ≠ ma → At w' ob cs) := fun W h => (take_any c' y' W h.tw.a ⟨h1, h2⟩ HQ.out.few HOk.out (by omega)).mono fun e w' h' => by
            obtain ⟨e1, n', r', l', f'⟩ := h'
            exact ⟨e1, n', h.setA r' f', l', fun ha hne => at_one_fr ha f' hne⟩
          have HFw : Hid (Few (tkF t (some ev) (Fl t (some ev) L) c' y')) := tk_few HQ.out.few HOk.out _ _
          have HOu : Hid (OkU t (tkF t (some ev) (Fl t (some ev) L) c' y')) := tk_OkU HQ.out.oku _ _
          have HAl : Hid (∀ x ∈ L, (0 ≤ x.c ∧ x.c ≤ 3) ∧ I64 x.y) := HQ.out.all
          have hL40 : L.length ≤ 39 := by omega
          cases hfb : frB t (some ev) (Fl t (some ev) L) c' y'
          · have HEq : Hid (tkF t (some ev) (Fl t (some ev) L) c' y' = (Fl t (some ev) L)) := tk_no hfb
            rw [hfb] at HFr HTa
            clear hfb
            go_wp2_with (first
              | (go_at_call 14; refine Calls.mono (HFr.out _ HX.out.1) ?_; rintro e w4 ⟨rfl, b4⟩; have HX4 : Hid (Ct v B w4 t ra ma rb mb na 0 ev (Fl t (some ev) L) wf0 a c L ∧ At w4 ob #[.int .i64 c', .int .i64 y', .bool tk]) := ⟨HX.out.1.next b4, HX.out.2.1.below b4 HX.out.2.1.lt⟩; clear b4 HFr x0 x1 xl; have x0 := HX4.out.2.c 0 _ rfl; have x1 := HX4.out.2.c 1 _ rfl; have xl := HX4.out.2.lt)
              | (go_at_call 12; refine Calls.mono (HTa.out _ HX4.out.1) ?_; rintro e w5 ⟨rfl, n5, t5, l5, o5⟩; have HS5 : Hid (Ct v B w5 t ra ma rb mb n5 0 ev (tkF t (some ev) (Fl t (some ev) L) c' y') wf0 a c L ∧ n5 ≤ na + 4 ∧ At w5 ob #[.int .i64 c', .int .i64 y', .bool tk]) := ⟨t5, l5, o5 HX4.out.2 HX.out.2.2⟩; clear t5 l5 o5 HTa x0 x1 xl; have x0 := HS5.out.2.2.c 0 _ rfl; have x1 := HS5.out.2.2.c 1 _ rfl; have x2 := HS5.out.2.2.c 2 _ rfl; have xl := HS5.out.2.2.lt))
            go_roundw
            case rel => exact ⟨k + 1, L, a, c, n5, by omega, rfl, by go_num, ⟨by have := HS5.out.1; rw [HEq.out] at this; exact this, by have := HFw.out; rw [HEq.out] at this; exact this, by have := HOu.out; rw [HEq.out] at this; exact this, HAl.out, by omega, by have := HS5.out.2.1; omega⟩, by omega, by omega, by have := HS5.out.2.1; omega⟩
            case measure => simp [intOf]; omega
          · have HEq : Hid (tkF t (some ev) (Fl t (some ev) L) c' y' = Fl t (some ev) (L ++ [⟨c', y', tk⟩])) := tk_snoc (x := ⟨c', y', tk⟩) hfb
            rw [hfb] at HFr HTa
            clear hfb
            go_wp2_with (first
              | (go_at_call 14; refine Calls.mono (HFr.out _ HX.out.1) ?_; rintro e w4 ⟨rfl, b4⟩; have HX4 : Hid (Ct v B w4 t ra ma rb mb na 0 ev (Fl t (some ev) L) wf0 a c L ∧ At w4 ob #[.int .i64 c', .int .i64 y', .bool tk]) := ⟨HX.out.1.next b4, HX.out.2.1.below b4 HX.out.2.1.lt⟩; clear b4 HFr x0 x1 xl; have x0 := HX4.out.2.c 0 _ rfl; have x1 := HX4.out.2.c 1 _ rfl; have xl := HX4.out.2.lt)
              | (go_at_call 12; refine Calls.mono (HTa.out _ HX4.out.1) ?_; rintro e w5 ⟨rfl, n5, t5, l5, o5⟩; have HS5 : Hid (Ct v B w5 t ra ma rb mb n5 0 ev (tkF t (some ev) (Fl t (some ev) L) c' y') wf0 a c L ∧ n5 ≤ na + 4 ∧ At w5 ob #[.int .i64 c', .int .i64 y', .bool tk]) := ⟨t5, l5, o5 HX4.out.2 HX.out.2.2⟩; clear t5 l5 o5 HTa x0 x1 xl; have x0 := HS5.out.2.2.c 0 _ rfl; have x1 := HS5.out.2.2.c 1 _ rfl; have x2 := HS5.out.2.2.c 2 _ rfl; have xl := HS5.out.2.2.lt)
              | (at_builtin; refine wpList_append_lies _ rfl _ _ 25 rfl B 37 i0 (.agg #[.int .i64 0, .int .i64 0, .bool false]) 3 24 Tryd.underlying25 HI.out.1 HI.out.2.1 HI.out.2.2.1 HI.out.2.2.2 rfl (by decide) (.slice a L.length c) L.length (akc L) rfl (World.ownsRow.alloc HS5.out.1.row _) ⟨w5.heap.size, 0, none⟩ 1 1 [.int .i64 c', .int .i64 y', .bool tk] rfl rfl (World.news_of_block (heap_alloc_new w5 _)) (by simp [Value.oneCell']) (by decide) (by unfold maxLen; omega) (by omega) (by have h5 := HS5.out.1.k6; simp; omega) (w5.heap.size + 1) (by simp) ?_; intro gg cp w6 hown hgrow hat hlt6; have HS6 : Hid (Ct v B w6 t ra ma rb mb n5 0 ev (tkF t (some ev) (Fl t (some ev) L) c' y') wf0 (some ⟨gg, 0, none⟩) cp (L ++ [⟨c', y', tk⟩])) := HS5.out.1.add (o := ⟨c', y', tk⟩) ((Below.refl _ _).alloc (Nat.le_refl _) _) hgrow hown; clear hown hgrow hat hlt6))
            go_roundw
            case rel => exact ⟨k + 1, L ++ [⟨c', y', tk⟩], some ⟨gg, 0, none⟩, cp, n5, by omega, by simp, by go_num, ⟨by have := HS6.out; rw [HEq.out] at this; exact this, by have := HFw.out; rw [HEq.out] at this; exact this, by have := HOu.out; rw [HEq.out] at this; exact this, fun x hx => by
              rcases List.mem_append.1 hx with h | h
              · exact HAl.out x h
              · have h : x = ⟨c', y', tk⟩ := by simpa using h
                subst h
                exact ⟨⟨q3, by show c' ≤ 3; omega⟩, by show I64 y'; unfold I64; omega⟩, by simp; omega, by have := HS5.out.2.1; omega⟩, by omega, by simp; omega, by have := HS5.out.2.1; omega⟩
            case measure => simp [intOf]; omega
      · obtain rfl : k = xs.length := by omega
        have k1 : ¬ (xs.length : Int) < (xs.length : Int) := by omega
        go_wp2
        go_meet
        case rel => exact ⟨L, a, c, na, rfl, HQ.out⟩
  case rest =>
    obtain ⟨L, a3, c3, na, rfl, hc1⟩ := hcut
    rename World => wq
    have HC : Hid (C1 v B wq t ra ma rb mb na ev a3 c3 L) := hc1
    have hL40 : L.length ≤ 40 := hc1.len
    clear hc1 HC0
    obtain ⟨LN, hLN⟩ : ∃ LN, L.length = LN := ⟨_, rfl⟩
    have HLN : Hid (L.length = LN) := hLN
    rw [hLN] at hL40 ⊢
    clear hLN
    have hLz : (LN : Int) ≤ 40 := by omega
    go_upto_region 19 with fail
    go_loopw [15] (fun i wr => ∃ (m nb : Nat), m ≤ LN ∧ i = .int .i64 ((m : Int) - 1) ∧ Ct v B wr t ra ma rb mb na nb ev (Fl t (some ev) L) (Fl t (some ev) (L.drop m)) a3 c3 L ∧ nb ≤ 4 * (40 - m)) (fun i _ => ((intOf i) + 1).toNat)
    case atStart => exact ⟨LN, 0, Nat.le_refl _, by first | rfl | go_num, by rw [List.drop_of_length_le (by rw [HLN.out]; omega)]; exact HC.out.ct, by omega⟩
    case round =>
      rename World => wr
      obtain ⟨m, nb, hm, rfl, hct, lnb⟩ := hrel
      have HQ : Hid (Ct v B wr t ra ma rb mb na nb ev (Fl t (some ev) L) (Fl t (some ev) (L.drop m)) a3 c3 L ∧ nb ≤ 4 * (40 - m)) := ⟨hct, lnb⟩
      clear hct lnb
      by_cases hm0 : m = 0
      · subst hm0
        have k1 : ¬ (0 : Int) ≤ ((0 : Nat) : Int) - 1 := by omega
        have HZ : Hid (Ct v B wr t ra ma rb mb na nb ev (Fl t (some ev) L) (Fl t (some ev) L) a3 c3 L ∧ True) := ⟨HQ.out.1, trivial⟩
        have HUs : Hid (OkU t (Fl t (some ev) L)) := HC.out.oku
        clear HQ HC HLN
        go_upto_region 24 with fail
        go_loopw [109] (fun i wy => ∃ q : Nat, q ≤ 4 ∧ i = .int .i64 q ∧ Ct v B wy t ra ma rb mb na nb ev (Fl t (some ev) L) (Fl t (some ev) L) a3 c3 L) (fun i _ => 4 - (intOf i).toNat)
        case atStart => exact ⟨0, by omega, rfl, HZ.out.1⟩
        case round =>
          rename World => wy
          obtain ⟨q, hq, rfl, hct⟩ := hrel
          have HZ : Hid (Ct v B wy t ra ma rb mb na nb ev (Fl t (some ev) L) (Fl t (some ev) L) a3 c3 L ∧ True) := ⟨hct, trivial⟩
          clear hct
          by_cases hq4 : q < 4
          · have q0 : (0 : Int) ≤ (q : Int) := by omega
            have q1 : (q : Int) < 4 := by omega
            by_cases h60 : ev < 60
            · go_upto_region 27 with fail
              go_loopw [114] (fun i wx => ∃ p : Nat, i = .int .i64 p ∧ (p : Int) ≤ 65536 ∧ Ct v B wx t ra ma rb mb na nb ev (Fl t (some ev) L) (Fl t (some ev) L) a3 c3 L) (fun i _ => (65537 - (intOf i)).toNat)
              case atStart => exact ⟨0, rfl, by omega, HZ.out.1⟩
              case round =>
                rename World => wx
                obtain ⟨p, rfl, hp2, hct⟩ := hrel
                have HY : Hid (Ct v B wx t ra ma rb mb na nb ev (Fl t (some ev) L) (Fl t (some ev) L) a3 c3 L ∧ TabAt wx w.heap.size t ∧ v.heap.size ≤ wx.heap.size) := ⟨hct, HV0.out.1.below hct.tw.up HV0.out.1.lt, hct.tw.up.size⟩
                clear hct
                by_cases hpm : (p : Int) < ev
                · have HU1 : Hid (∀ x : Wd (Below wx.heap.size wx), Calls Tryd.prog 16 #[.pointer (some ⟨ra, 0, none⟩), .int .i64 (q : Int), .int .i64 (p : Int)] x.w fun e w'' => e = .returned (.int .i64 (Fl t (some ev) L q (tn (some ev) p))) ∧ ∃ y : Wd (Below wx.heap.size wx), w'' = y.w) := fun x => calls_in (Nat.le_refl _) x (used_any _ _ x.w (HY.out.1.next x.ok).tw.a ⟨h1, h2⟩ (by unfold I64; omega) (by unfold I64; omega))
                  have HU2 : Hid (∀ x : Wd (Below wx.heap.size wx), Calls Tryd.prog 16 #[.pointer (some ⟨rb, 0, none⟩), .int .i64 (q : Int), .int .i64 (p : Int)] x.w fun e w'' => e = .returned (.int .i64 (Fl t (some ev) L q (tn (some ev) p))) ∧ ∃ y : Wd (Below wx.heap.size wx), w'' = y.w) := fun x => calls_in (Nat.le_refl _) x (used_any _ _ x.w (HY.out.1.next x.ok).tw.b ⟨h1, h2⟩ (by unfold I64; omega) (by unfold I64; omega))
                  have het : tn (some ev) ((p : Int) + ev) = tn (some ev) p := Int.add_emod_right _ _
                  have HU3 : Hid (∀ x : Wd (Below wx.heap.size wx), Calls Tryd.prog 16 #[.pointer (some ⟨ra, 0, none⟩), .int .i64 (q : Int), .int .i64 ((p : Int) + ev)] x.w fun e w'' => e = .returned (.int .i64 (Fl t (some ev) L q (tn (some ev) p))) ∧ ∃ y : Wd (Below wx.heap.size wx), w'' = y.w) := fun x => calls_in (Nat.le_refl _) x (by have := used_any (q : Int) ((p : Int) + ev) x.w (HY.out.1.next x.ok).tw.a ⟨h1, h2⟩ (by unfold I64; omega) (by unfold I64; omega); rw [het] at this; exact this)
                  have hle := HUs.out q hq4 (tn (some ev) p)
                  have xu : ∀ x : Wd (Below wx.heap.size wx), x.w.cell? ⟨w.heap.size, q, none⟩ = some (.int .i64 (t.u q)) := fun x => (HY.out.2.1.below x.ok HY.out.2.1.lt).cu q hq4
                  haveI inst : Nonempty (Wd (Below wx.heap.size wx)) := ⟨⟨wx, Below.refl _ _⟩⟩
                  have hwr : IntKind.i64.wrap ((p : Int) + ev) = (p : Int) + ev := by rw [IntKind.wrap_i64]; omega
                  clear het
                  generalize Fl t (some ev) L q (tn (some ev) p) = us at *
                  have hnb : (us != us) = false := by simp
                  have hgt : ¬ t.u q < us := by omega
                  go_upto_region 29 with fail
                  refine wp_region_in (Below wx.heap.size wx) (by kernel_rfl) (by kernel_rfl) ((Below.refl _ _).drew) ?_
                  repeat (first | go_big_quiet_step ((first | (go_at_call_of 16 (Value.int IntKind.i64 ((p : Int) + ev)); exact HU3.out _) | (go_at_call_of 16 (Value.pointer (some ⟨ra, 0, none⟩)); exact HU1.out _) | (go_at_call_of 16 (Value.pointer (some ⟨rb, 0, none⟩)); exact HU2.out _))))
                  refine wpQuiet_nil ?_
                  rintro _ ⟨x, rfl⟩
                  have HXx : Hid (Ct v B x.w t ra ma rb mb na nb ev (Fl t (some ev) L) (Fl t (some ev) L) a3 c3 L) := HY.out.1.next x.ok
                  go_wp2
                  go_roundw
                  case rel => exact ⟨p + 1, by go_num, by omega, HXx.out⟩
                  case measure => simp [intOf]; omega
                · go_wp2
                  go_roundw
                  case rel => exact ⟨q + 1, by omega, by go_num, HY.out.1⟩
                  case measure => simp [intOf]; omega
            · go_upto_region 27 with fail
              go_loopw [114] (fun i wx => ∃ p : Nat, i = .int .i64 p ∧ (p : Int) ≤ 65536 ∧ Ct v B wx t ra ma rb mb na nb ev (Fl t (some ev) L) (Fl t (some ev) L) a3 c3 L) (fun i _ => (65537 - (intOf i)).toNat)
              case atStart => exact ⟨0, rfl, by omega, HZ.out.1⟩
              case round =>
                rename World => wx
                obtain ⟨p, rfl, hp2, hct⟩ := hrel
                have HY : Hid (Ct v B wx t ra ma rb mb na nb ev (Fl t (some ev) L) (Fl t (some ev) L) a3 c3 L ∧ TabAt wx w.heap.size t ∧ v.heap.size ≤ wx.heap.size) := ⟨hct, HV0.out.1.below hct.tw.up HV0.out.1.lt, hct.tw.up.size⟩
                clear hct
                by_cases hpm : (p : Int) < 60
                · have HU1 : Hid (∀ x : Wd (Below wx.heap.size wx), Calls Tryd.prog 16 #[.pointer (some ⟨ra, 0, none⟩), .int .i64 (q : Int), .int .i64 (p : Int)] x.w fun e w'' => e = .returned (.int .i64 (Fl t (some ev) L q (tn (some ev) p))) ∧ ∃ y : Wd (Below wx.heap.size wx), w'' = y.w) := fun x => calls_in (Nat.le_refl _) x (used_any _ _ x.w (HY.out.1.next x.ok).tw.a ⟨h1, h2⟩ (by unfold I64; omega) (by unfold I64; omega))
                  have HU2 : Hid (∀ x : Wd (Below wx.heap.size wx), Calls Tryd.prog 16 #[.pointer (some ⟨rb, 0, none⟩), .int .i64 (q : Int), .int .i64 (p : Int)] x.w fun e w'' => e = .returned (.int .i64 (Fl t (some ev) L q (tn (some ev) p))) ∧ ∃ y : Wd (Below wx.heap.size wx), w'' = y.w) := fun x => calls_in (Nat.le_refl _) x (used_any _ _ x.w (HY.out.1.next x.ok).tw.b ⟨h1, h2⟩ (by unfold I64; omega) (by unfold I64; omega))
                  have het : tn (some ev) ((p : Int) + ev) = tn (some ev) p := Int.add_emod_right _ _
                  have HU3 : Hid (∀ x : Wd (Below wx.heap.size wx), Calls Tryd.prog 16 #[.pointer (some ⟨ra, 0, none⟩), .int .i64 (q : Int), .int .i64 ((p : Int) + ev)] x.w fun e w'' => e = .returned (.int .i64 (Fl t (some ev) L q (tn (some ev) p))) ∧ ∃ y : Wd (Below wx.heap.size wx), w'' = y.w) := fun x => calls_in (Nat.le_refl _) x (by have := used_any (q : Int) ((p : Int) + ev) x.w (HY.out.1.next x.ok).tw.a ⟨h1, h2⟩ (by unfold I64; omega) (by unfold I64; omega); rw [het] at this; exact this)
                  have hle := HUs.out q hq4 (tn (some ev) p)
                  have xu : ∀ x : Wd (Below wx.heap.size wx), x.w.cell? ⟨w.heap.size, q, none⟩ = some (.int .i64 (t.u q)) := fun x => (HY.out.2.1.below x.ok HY.out.2.1.lt).cu q hq4
                  haveI inst : Nonempty (Wd (Below wx.heap.size wx)) := ⟨⟨wx, Below.refl _ _⟩⟩
                  have hwr : IntKind.i64.wrap ((p : Int) + ev) = (p : Int) + ev := by rw [IntKind.wrap_i64]; omega
                  clear het
                  generalize Fl t (some ev) L q (tn (some ev) p) = us at *
                  have hnb : (us != us) = false := by simp
                  have hgt : ¬ t.u q < us := by omega
                  go_upto_region 29 with fail
                  refine wp_region_in (Below wx.heap.size wx) (by kernel_rfl) (by kernel_rfl) ((Below.refl _ _).drew) ?_
                  repeat (first | go_big_quiet_step ((first | (go_at_call_of 16 (Value.int IntKind.i64 ((p : Int) + ev)); exact HU3.out _) | (go_at_call_of 16 (Value.pointer (some ⟨ra, 0, none⟩)); exact HU1.out _) | (go_at_call_of 16 (Value.pointer (some ⟨rb, 0, none⟩)); exact HU2.out _))))
                  refine wpQuiet_nil ?_
                  rintro _ ⟨x, rfl⟩
                  have HXx : Hid (Ct v B x.w t ra ma rb mb na nb ev (Fl t (some ev) L) (Fl t (some ev) L) a3 c3 L) := HY.out.1.next x.ok
                  go_wp2
                  go_roundw
                  case rel => exact ⟨p + 1, by go_num, by omega, HXx.out⟩
                  case measure => simp [intOf]; omega
                · go_wp2
                  go_roundw
                  case rel => exact ⟨q + 1, by omega, by go_num, HY.out.1⟩
                  case measure => simp [intOf]; omega
          · obtain rfl : q = 4 := by omega
            go_wp2_with (first | (go_at_call 11; refine Calls.mono (HW.out _ (HV0.out.2.1.trans (HZ.out.1.tw.up.mono HV0.out.2.1.size))) ?_; rintro e w9 ⟨rfl, b9⟩; have HB9 : Hid (Below w.heap.size w w9) := (HV0.out.2.1.trans (HZ.out.1.tw.up.mono HV0.out.2.1.size)).trans (b9.mono (HV0.out.2.1.trans (HZ.out.1.tw.up.mono HV0.out.2.1.size)).size); clear b9 HW))
            go_ret
            exact ⟨rfl, HB9.out⟩
      · obtain ⟨j, rfl⟩ : ∃ j, m = j + 1 := ⟨m - 1, by omega⟩
        have ej : ((j + 1 : Nat) : Int) - 1 = (j : Int) := by omega
        rw [ej]
        have j0 : (0 : Int) ≤ (j : Int) := by omega
        have j1 : (j : Int) < (LN : Int) := by omega
        have hjl : j < L.length := by rw [HLN.out]; omega
        obtain ⟨bk, hbk, -, -, -, -⟩ := HQ.out.1.get hjl
        subst hbk
        have HG0 : Hid (∀ W {n1 n2 : Nat} {f1 g1 : Int → Int → Int}, Ct v B W t ra ma rb mb n1 n2 ev f1 g1 (some ⟨bk, 0, none⟩) c3 L → W.cell? ⟨bk, j * 3, none⟩ = some (.int .i64 L[j].c) ∧ W.cell? ⟨bk, j * 3 + 1, none⟩ = some (.int .i64 L[j].y) ∧ bk < W.heap.size) := fun W n1 n2 f1 g1 h => by
          obtain ⟨b', e, -, h3, h4, h5⟩ := h.get hjl
          cases e
          exact ⟨h4, h5, h3⟩
        have hyes := back_yes (t := t) ⟨h1, h2⟩ HC.out.oku hjl (HC.out.all _ (List.getElem_mem hjl)).1
        have hcons := tk_cons (t := t) (x := L[j]) hyes
        rw [← List.drop_eq_getElem_cons hjl] at hcons
        have HTb : Hid (∀ W, Ct v B W t ra ma rb mb na nb ev (Fl t (some ev) L) (Fl t (some ev) (L.drop (j + 1))) (some ⟨bk, 0, none⟩) c3 L → Calls Tryd.prog 12 #[.pointer (some ⟨rb, 0, none⟩), .int .i64 L[j].c, .int .i64 L[j].y] W fun e w' => e = .returned (.bool true) ∧ ∃ n', Ct v B w' t ra ma rb mb na n' ev (Fl t (some ev) L) (Fl t (some ev) (L.drop j)) (some ⟨bk, 0, none⟩) c3 L ∧ n' ≤ nb + 4) := fun W h => (take_any L[j].c L[j].y W h.tw.b ⟨h1, h2⟩ (few_drop HC.out.few (j + 1)) HOk.out (by have := HQ.out.2; omega)).mono fun e w' h' => by
          obtain ⟨e1, n', r', l', f'⟩ := h'
          rw [hyes] at e1
          rw [hcons] at r'
          exact ⟨e1, n', h.setB r' f', l'⟩
        clear hyes hcons ej hm0
        generalize L[j].c = xc at *
        generalize L[j].y = xy at *
        have lnb := HQ.out.2
        go_upto_region 21 with fail
        refine wp_region_held_drew (S := fun W => W.cell? ⟨bk, j * 3, none⟩ = some (.int .i64 xc) ∧ W.cell? ⟨bk, j * 3 + 1, none⟩ = some (.int .i64 xy) ∧ bk < W.heap.size) (by kernel_rfl) (HG0.out _ (HQ.out.1.next (drew_up _))) (fun hHeld => ?_)
        refine wpAnyH_take (i := 0) (v := .pointer (some ⟨rb, 0, none⟩)) rfl (by kernel_rfl) (by kernel_rfl) (by kernel_rfl) (fun _ _ _ h => h) (Or.inl ⟨by rfl, fun w' hSw => by (go_simp)⟩) hHeld ?_
        simp only [Act.put, List.setIfInBounds_toArray, List.set_cons_zero, List.set_cons_succ, List.getElem_cons_zero, List.getElem_toArray]
        refine wpAnyH_take (i := 1) (v := .slice (some ⟨bk, 0, none⟩) LN c3) rfl (by kernel_rfl) (by kernel_rfl) (by kernel_rfl) (fun _ _ _ h => h) (Or.inl ⟨by rfl, fun w' hSw => by (go_simp)⟩) hHeld ?_
        simp only [Act.put, List.setIfInBounds_toArray, List.set_cons_zero, List.set_cons_succ, List.getElem_cons_zero, List.getElem_cons_succ, List.getElem_toArray]
        refine wpAnyH_take (i := 2) (v := .int .i64 (j : Int)) rfl (by kernel_rfl) (by kernel_rfl) (by kernel_rfl) (fun _ _ _ h => h) (Or.inl ⟨by rfl, fun w' hSw => by (go_simp)⟩) hHeld ?_
        simp only [Act.put, List.setIfInBounds_toArray, List.set_cons_zero, List.set_cons_succ, List.getElem_cons_zero, List.getElem_cons_succ, List.getElem_toArray]
        refine wpAnyH_take (i := 3) (v := .pointer (some ⟨bk, j * 3, none⟩)) rfl (by kernel_rfl) (by kernel_rfl) (by kernel_rfl) (fun _ _ _ h => h) (Or.inl ⟨by rfl, fun w' hSw => by (go_simp)⟩) hHeld ?_
        simp only [Act.put, List.setIfInBounds_toArray, List.set_cons_zero, List.set_cons_succ, List.getElem_cons_zero, List.getElem_cons_succ, List.getElem_toArray]
        refine wpAnyH_take (i := 4) (v := .pointer (some ⟨bk, j * 3, none⟩)) rfl (by kernel_rfl) (by kernel_rfl) (by kernel_rfl) (fun _ _ _ h => h) (Or.inl ⟨by rfl, fun w' hSw => by (go_simp)⟩) hHeld ?_
        simp only [Act.put, List.setIfInBounds_toArray, List.set_cons_zero, List.set_cons_succ, List.getElem_cons_zero, List.getElem_cons_succ, List.getElem_toArray]
        refine wpAnyH_take (i := 5) (v := .int .i64 xc) rfl (by kernel_rfl) (by kernel_rfl) (by kernel_rfl) (fun _ _ _ h => h) (Or.inl ⟨by rfl, fun w' hSw => by (obtain ⟨s0, s1, s2⟩ := hSw; go_simp)⟩) hHeld ?_
        simp only [Act.put, List.setIfInBounds_toArray, List.set_cons_zero, List.set_cons_succ, List.getElem_cons_zero, List.getElem_cons_succ, List.getElem_toArray]
        refine wpAnyH_take (i := 6) (v := .slice (some ⟨bk, 0, none⟩) LN c3) rfl (by kernel_rfl) (by kernel_rfl) (by kernel_rfl) (fun _ _ _ h => h) (Or.inl ⟨by rfl, fun w' hSw => by (go_simp)⟩) hHeld ?_
        simp only [Act.put, List.setIfInBounds_toArray, List.set_cons_zero, List.set_cons_succ, List.getElem_cons_zero, List.getElem_cons_succ, List.getElem_toArray]
        refine wpAnyH_take (i := 7) (v := .int .i64 (j : Int)) rfl (by kernel_rfl) (by kernel_rfl) (by kernel_rfl) (fun _ _ _ h => h) (Or.inl ⟨by rfl, fun w' hSw => by (go_simp)⟩) hHeld ?_
        simp only [Act.put, List.setIfInBounds_toArray, List.set_cons_zero, List.set_cons_succ, List.getElem_cons_zero, List.getElem_cons_succ, List.getElem_toArray]
        refine wpAnyH_take (i := 8) (v := .pointer (some ⟨bk, j * 3, none⟩)) rfl (by kernel_rfl) (by kernel_rfl) (by kernel_rfl) (fun _ _ _ h => h) (Or.inl ⟨by rfl, fun w' hSw => by (go_simp)⟩) hHeld ?_
        simp only [Act.put, List.setIfInBounds_toArray, List.set_cons_zero, List.set_cons_succ, List.getElem_cons_zero, List.getElem_cons_succ, List.getElem_toArray]
        refine wpAnyH_take (i := 9) (v := .pointer (some ⟨bk, j * 3 + 1, none⟩)) rfl (by kernel_rfl) (by kernel_rfl) (by kernel_rfl) (fun _ _ _ h => h) (Or.inl ⟨by rfl, fun w' hSw => by (go_simp)⟩) hHeld ?_
        simp only [Act.put, List.setIfInBounds_toArray, List.set_cons_zero, List.set_cons_succ, List.getElem_cons_zero, List.getElem_cons_succ, List.getElem_toArray]
        refine wpAnyH_take (i := 10) (v := .int .i64 xy) rfl (by kernel_rfl) (by kernel_rfl) (by kernel_rfl) (fun _ _ _ h => h) (Or.inl ⟨by rfl, fun w' hSw => by (obtain ⟨s0, s1, s2⟩ := hSw; go_simp)⟩) hHeld ?_
        simp only [Act.put, List.setIfInBounds_toArray, List.set_cons_zero, List.set_cons_succ, List.getElem_cons_zero, List.getElem_cons_succ, List.getElem_toArray]
        refine wpAnyH_ready (rs := [11]) (by kernel_rfl) (by simp) ?_
        refine AllReadyH.cons rfl (fun K hK => ?_) AllReadyH.nil
        go_simp
        refine Calls.mono (HTb.out _ (HQ.out.1.next (drew_up _))) ?_
        rintro e w4 ⟨rfl, n4, t4, l4⟩
        have HQ4 : Hid (Ct v B w4 t ra ma rb mb na n4 ev (Fl t (some ev) L) (Fl t (some ev) (L.drop j)) (some ⟨bk, 0, none⟩) c3 L ∧ n4 ≤ nb + 4) := ⟨t4, l4⟩
        clear t4 l4 HTb
        refine hK.out _ _ (HG0.out _ HQ4.out.1) (fun hHeld => ?_)
        clear hK K
        refine wpAnyH_take (i := 12) (v := .bool false) rfl (by kernel_rfl) (by kernel_rfl) (by kernel_rfl) (fun _ _ _ h => h) (Or.inl ⟨by rfl, fun w' hSw => by (go_simp)⟩) hHeld ?_
        simp only [Act.put, List.setIfInBounds_toArray, List.set_cons_zero, List.set_cons_succ, List.getElem_cons_zero, List.getElem_cons_succ, List.getElem_toArray]
        refine wpAnyH_done (by kernel_rfl) ?_ _
        go_wp2
        go_roundw
        case rel => exact ⟨j, n4, by omega, by first | rfl | go_num, HQ4.out.1, by have := HQ4.out.2; omega⟩
        case measure => first | (simp [intOf]; done) | (simp [intOf]; omega)
end Go.Proofs.YthjnegdgpnbkkaaDoor.Rv
