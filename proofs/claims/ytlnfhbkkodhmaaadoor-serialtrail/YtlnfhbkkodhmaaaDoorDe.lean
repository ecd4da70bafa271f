/- A step of the document's machine (Step): read off the program by the walk. Conditions: the machine lies in memory. -/
import Derived.Test.YtlnfhbkkodhmaaaDoorDd
import Derived.BigQuiet
namespace Go.Proofs.YtlnfhbkkodhmaaaDoor.Sm
open Go.ChangeShapes Go.WideShapes Go.ChangeAt Go.RowKit
open _root_.Go.Proofs.YtlnfhbkkodhmaaaDoor.Op _root_.Go.Proofs.YtlnfhbkkodhmaaaDoor.So
set_option maxRecDepth 20000

section
variable {w : World} {q : Nat} {ps : List Bk} {T : Nat → Prop} {M : Ma} {L : Tg}
def withOS (N : Ma) (o s : Nat) : Ma := { N with o := o, s := s }
def withS (N : Ma) (s : Nat) : Ma := { N with s := s }
theorem eok_step {ps : List Bk} {M : Ma} (h : M.e = 100) : EOk (stepM ps M) := by
  rcases next_e (ps := ps) h with e | e
  · exact .inl e
  · exact .inr (.inl e)
theorem DM.trap (h : DM w q ps T M L) : DM ((w.setCell ⟨q, 295, none⟩ (.bool true)).setCell ⟨q, 296, none⟩ (.int .i64 101)) q ps T { M with e := 101 } L ∧ Tn w T ((w.setCell ⟨q, 295, none⟩ (.bool true)).setCell ⟨q, 296, none⟩ (.int .i64 101)) T := by
  obtain ⟨ba, bc, po, pc, hM, hP, hR, hT⟩ := h.dr.ex
  have h1 := (hM.set (k := 295) (by omega) (.bool true)).set (k := 296) (by omega) (.int .i64 101)
  rw [up_trap] at h1
  have := dr_one hP hR hT h.dr.tq h.dr.tl h1 (((Fr.refl (One q) w).setCell (.inr rfl) _ _).setCell (.inr rfl) _ _) rfl
  exact ⟨⟨this.1, inv_trap h.inv 101, h.ps, .inr (.inr rfl)⟩, this.2⟩
theorem DM.last (h : DM w q ps T M L) (t : Tg) : DM ((((w.setCell ⟨q, 298, none⟩ (.int .i64 t.1)).setCell ⟨q, 299, none⟩ (.bool t.2.1)).setCell ⟨q, 300, none⟩ (.int .i64 t.2.2)).setCell ⟨q, 301, none⟩ (.bool false)) q ps T M t ∧ Tn w T ((((w.setCell ⟨q, 298, none⟩ (.int .i64 t.1)).setCell ⟨q, 299, none⟩ (.bool t.2.1)).setCell ⟨q, 300, none⟩ (.int .i64 t.2.2)).setCell ⟨q, 301, none⟩ (.bool false)) T := by
  obtain ⟨ba, bc, po, pc, hM, hP, hR, hT⟩ := h.dr.ex
  have h1 := (((hM.set (k := 298) (by omega) (.int .i64 t.1)).set (k := 299) (by omega) (.bool t.2.1)).set (k := 300) (by omega) (.int .i64 t.2.2)).set (k := 301) (by omega) (.bool false)
  rw [up_l] at h1
  have := dr_one hP hR hT h.dr.tq h.dr.tl h1 (((((Fr.refl (One q) w).setCell (.inr rfl) _ _).setCell (.inr rfl) _ _).setCell (.inr rfl) _ _).setCell (.inr rfl) _ _) rfl
  exact ⟨⟨this.1, h.inv, h.ps, h.eo⟩, this.2⟩
theorem DR.at' (h : DR w q ps T M L) : w.cell? ⟨q, 291, none⟩ = some (.int .i64 (M.o : Int)) ∧ w.cell? ⟨q, 293, none⟩ = some (.int .i64 (M.s : Int)) ∧ (∀ j : Nat, w.frozen? ⟨q, j, none⟩ = false) ∧ q < w.heap.size := by
  obtain ⟨ba, bc, po, pc, hM, -⟩ := h.ex
  exact ⟨hM.ko, hM.ks, hM.fz, hM.lt⟩
theorem DR.os (h : DR w q ps T M L) (o s : Nat) : DR ((w.setCell ⟨q, 291, none⟩ (.int .i64 (o : Int))).setCell ⟨q, 293, none⟩ (.int .i64 (s : Int))) q ps T { M with o := o, s := s } L ∧ Tn w T ((w.setCell ⟨q, 291, none⟩ (.int .i64 (o : Int))).setCell ⟨q, 293, none⟩ (.int .i64 (s : Int))) T := by
  obtain ⟨ba, bc, po, pc, hM, hP, hR, hT⟩ := h.ex
  have h1 := (hM.set (k := 291) (by omega) (.int .i64 (o : Int))).set (k := 293) (by omega) (.int .i64 (s : Int))
  rw [up_o, up_s] at h1
  exact dr_one hP hR hT h.tq h.tl h1 (((Fr.refl (One q) w).setCell (.inr rfl) _ _).setCell (.inr rfl) _ _) rfl
theorem DR.s1 (h : DR w q ps T M L) (s : Nat) : DR (w.setCell ⟨q, 293, none⟩ (.int .i64 (s : Int))) q ps T { M with s := s } L ∧ Tn w T (w.setCell ⟨q, 293, none⟩ (.int .i64 (s : Int))) T := by
  obtain ⟨ba, bc, po, pc, hM, hP, hR, hT⟩ := h.ex
  have h1 := hM.set (k := 293) (by omega) (.int .i64 (s : Int))
  rw [up_s] at h1
  exact dr_one hP hR hT h.tq h.tl h1 ((Fr.refl (One q) w).setCell (.inr rfl) _ _) rfl
theorem land_os (o : O) (v : Int) (M : Ma) : (landO o v M).o = M.o ∧ (landO o v M).s = M.s := by
  unfold landO
  (repeat' split) <;> exact ⟨rfl, rfl⟩
theorem end_s (x : Bk) (M : Ma) : (endM x M).s = M.s := by
  unfold endM toM
  (repeat' split) <;> rfl
/-- Where it stands, and that its list lies apart. -/
theorem DM.sd2 (h : DM w q ps T M L) : ∃ b f bc po pc x p, Sd w q ps M L b f bc po pc x p ∧ Far (fun k => T k ∨ q ≤ k) (lA p M.y) (lst x M.y).length := by
  obtain ⟨ba, bc, po, pc, hM, hP, hR, hT⟩ := h.dr.ex
  have hb := h.inv.b
  obtain ⟨b, f, rfl, hz, hT', hx⟩ := hP.is (by omega)
  obtain ⟨p, h1, h2, h3, h4⟩ := hx M.b hb
  refine ⟨b, f, bc, po, pc, ps[M.b], p, ⟨hM, h1, hz, hb, List.getElem?_eq_getElem hb, ?_, fun e => hT' (.inl (by rw [e]; exact h.dr.tq)), h.ps.2.2 _ (List.getElem_mem hb)⟩, ?_⟩
  · unfold lA lst
    split
    · exact h2.b
    · exact h2.o
  · unfold lA lst
    split
    · exact h4
    · exact h3
/-- What Step answers, and what it leaves. -/
def RSt (w : World) (q : Nat) (ps : List Bk) (T : Nat → Prop) (b : Bool) (M' : Ma) (L' : Tg) (e : Ending) (w' : World) : Prop := e = .returned (.bool b) ∧ ∃ T', DM w' q ps T' M' L' ∧ Tn w T w' T'
theorem rstep_over (h : DM w q ps T M L) (he : ¬ M.e = 100) : Calls Tryd.prog 29 #[ptr q] w (RSt w q ps T false M L) := by
  obtain ⟨ba, bc, po, pc, hM, -⟩ := h.dr.ex
  have kv := hM.kv
  rw [show (M.e != 100) = true by simpa using he] at kv
  have hq := hM.lt
  have HD : Hid (DM w q ps T M L) := h
  clear h hM he
  go_enter Tryd.func29, Tryd.ntmps29
  go_wp2_with fail
  go_ret
  exact ⟨rfl, T, HD.out, Tn.refl _ _⟩
set_option maxHeartbeats 2000000 in
theorem rstep_trap (h : DM w q ps T M L) (he : M.e = 100) (ht : trapB ps M = true) : Calls Tryd.prog 29 #[ptr q] w (RSt w q ps T false { M with e := 101 } L) := by
  obtain ⟨ba, bc, po, pc, hM, -⟩ := h.dr.ex
  have he2 : (M.e != 100) = false := by simpa using he
  have kv := hM.kv
  rw [he2] at kv
  have hq := hM.lt
  have HTr : Hid (Calls Tryd.prog 30 #[ptr q] w fun e w' => e = .returned (.bool true) ∧ Below w.heap.size w w') := by
    have := rtrap_any h
    rw [ht, he] at this; exact this
  have HA : Hid (∀ W, Below w.heap.size w W → DAt W q (dG ba ps.length bc po pc M L)) := fun W hb => hM.up hb
  have HD : Hid (DM w q ps T M L) := h
  clear h hM he ht
  go_enter Tryd.func29, Tryd.ntmps29
  go_wp2_with (first | (go_at_call 30; refine Calls.mono HTr.out ?_; rintro e w1 ⟨rfl, hb⟩; have HB : Hid (Below w.heap.size w w1) := hb; have k1 := (HA.out w1 hb).kv; have k2 := (HA.out w1 hb).ke; have f1 := (HA.out w1 hb).fz 295; have f2 := (HA.out w1 hb).fz 296; have q1 := (HA.out w1 hb).lt; clear hb HTr HA kv hq))
  go_ret
  have h1 := (HD.out.up HB.out).trap
  exact ⟨rfl, T, h1.1, (Tn.of HB.out).trans h1.2⟩
set_option maxHeartbeats 8000000 in
theorem rstep_do (h : DM w q ps T M L) (he : M.e = 100) (ht : trapB ps M = false) (hs : M.s < 1000000000000) (hlt : M.o < (listM ps M).length) : Calls Tryd.prog 29 #[ptr q] w (RSt w q ps T true (stepM ps M) (tagM ps M)) := by
  obtain ⟨b, f, bc, po, pc, x, p, hS, hfar⟩ := h.sd2
  have he2 : (M.e != 100) = false := by simpa using he
  have kv := hS.at_.kv
  rw [he2] at kv
  have hq := hS.at_.lt
  have HTr : Hid (Calls Tryd.prog 30 #[ptr q] w fun e w' => e = .returned (.bool false) ∧ Below w.heap.size w w') := by
    have := rtrap_any h
    rw [ht, Bool.and_false] at this; exact this
  have hl := hS.list
  have htag : tagM ps M = ((M.b : Int), M.y, (M.o : Int)) := by unfold tagM; rw [if_neg (by omega)]
  rw [hl] at hlt
  obtain ⟨lb, lf, hla, -, -⟩ := hS.ops.is (by omega)
  have hlq : ¬ lb = q := fun e => hfar (by omega) _ hla (.inr (Nat.le_of_eq e.symm))
  have hom : OkM (lst x M.y)[M.o] := hS.xm.lst (List.getElem_mem hlt)
  have hto : trapO (lst x M.y)[M.o] M = false := by
    have : trapB ps M = trapO (lst x M.y)[M.o] M := by unfold trapB; rw [hl, List.getElem?_eq_getElem hlt]
    rw [← this]; exact ht
  have hst : stepM ps M = withOS (landO (lst x M.y)[M.o] (valO (lst x M.y)[M.o] M) M) (M.o + 1) (M.s + 1) := by
    unfold stepM nextM
    rw [hS.is]
    simp only
    rw [List.getElem?_eq_getElem hlt]
    rfl
  have HI : Hid (Inv ps (stepM ps M) ∧ EOk (stepM ps M) ∧ PsM ps) := ⟨inv_step h.ps h.inv, eok_step he, h.ps⟩
  have HO5 : Hid (∀ W, Below w.heap.size w W → OAt W lb (lf + M.o * 5) (lst x M.y)[M.o] ∧ lb < W.heap.size) := fun W hb => by
    obtain ⟨lb', lf', e, z, hx⟩ := (hS.up hb).ops.is (by omega)
    rw [hla] at e
    cases e
    exact ⟨hx M.o hlt, z⟩
  have HL : Hid (∀ W, Below w.heap.size w W → Calls Tryd.prog 56 #[ptr q] W fun e w' => e = .returned (.slice (some ⟨lb, lf, none⟩) (lst x M.y).length (lC p M.y)) ∧ Below W.heap.size W w') := fun W hb => by
    have := rlist_any (hS.up hb)
    rw [hla] at this; exact this
  have HA : Hid (∀ W, Below w.heap.size w W → DAt W q (dG (some ⟨b, f, none⟩) ps.length bc po pc M L)) := fun W hb => (hS.up hb).at_
  have HD : Hid (∀ W, Below w.heap.size w W → DM W q ps T M L) := fun W hb => h.up hb
  have HOP : Hid (∀ W T', DM W q ps T' M ((M.b : Int), M.y, (M.o : Int)) → Calls Tryd.prog 57 #[ptr q, (lst x M.y)[M.o].val] W (ROp W q ps T' (landO (lst x M.y)[M.o] (valO (lst x M.y)[M.o] M) M) ((M.b : Int), M.y, (M.o : Int)))) := fun W T' hd => rop_any _ hd hom hto (by omega)
  have hlo := land_os (lst x M.y)[M.o] (valO (lst x M.y)[M.o] M) M
  have hol := hS.ops.len
  have hlti : (M.o : Int) < ((lst x M.y).length : Int) := by omega
  have hsi : (M.s : Int) < 1000000000000 := by omega
  rw [hst] at HI
  rw [hst, htag]
  clear h he ht hS hfar hl htag hla hom hto hst he2
  generalize (lst x M.y)[M.o] = o at *
  generalize landO o (valO o M) M = N at *
  generalize (lst x M.y).length = ll at *
  generalize lC p M.y = lc at *
  go_enter Tryd.func29, Tryd.ntmps29
  go_wp2_with (first
    | (go_at_call 30; refine Calls.mono HTr.out ?_; rintro e w1 ⟨rfl, hb⟩; have HB : Hid (Below w.heap.size w w1) := hb; clear hb HTr kv hq)
    | (go_at_call 56; refine Calls.mono (HL.out w1 HB.out) ?_; rintro e w2 ⟨rfl, hb⟩; have HB2 : Hid (Below w.heap.size w w2) := HB.out.trans (hb.mono HB.out.size); clear hb HL; have k1 := (HA.out w2 HB2.out).kb; have k2 := (HA.out w2 HB2.out).ky; have k3 := (HA.out w2 HB2.out).ko; have k4 := (HA.out w2 HB2.out).l0; have k5 := (HA.out w2 HB2.out).l1; have k6 := (HA.out w2 HB2.out).l2; have k7 := (HA.out w2 HB2.out).l3; have f4 := (HA.out w2 HB2.out).fz 298; have f5 := (HA.out w2 HB2.out).fz 299; have f6 := (HA.out w2 HB2.out).fz 300; have f7 := (HA.out w2 HB2.out).fz 301; have q1 := (HA.out w2 HB2.out).lt))
  have HLa : Hid (DM ((((w2.setCell ⟨q, 298, none⟩ (.int .i64 (M.b : Int))).setCell ⟨q, 299, none⟩ (.bool M.y)).setCell ⟨q, 300, none⟩ (.int .i64 (M.o : Int))).setCell ⟨q, 301, none⟩ (.bool false)).drew q ps T M ((M.b : Int), M.y, (M.o : Int)) ∧ Tn w T ((((w2.setCell ⟨q, 298, none⟩ (.int .i64 (M.b : Int))).setCell ⟨q, 299, none⟩ (.bool M.y)).setCell ⟨q, 300, none⟩ (.int .i64 (M.o : Int))).setCell ⟨q, 301, none⟩ (.bool false)).drew T) := by
    have h1 := (HD.out w2 HB2.out).last ((M.b : Int), M.y, (M.o : Int))
    exact ⟨h1.1.up (drew_up _), ((Tn.of HB2.out).trans h1.2).then (drew_up _)⟩
  obtain ⟨⟨o0, o1, o2, o3, o4⟩, oz⟩ := HO5.out w2 HB2.out
  have hlq' : ¬ q = lb := fun e => hlq e.symm
  clear HO5 HA HD
  go_big_region
  all_goals
    go_wp2_with (first
      | (go_at_call 57; refine Calls.mono (HOP.out _ T HLa.out.1) ?_; rintro e w6 ⟨rfl, T6, h6, g6⟩; have H6 : Hid (DR w6 q ps T6 N ((M.b : Int), M.y, (M.o : Int)) ∧ Tn w T w6 T6) := ⟨h6, HLa.out.2.trans g6⟩; obtain ⟨m1, m2, m3, m4⟩ := h6.at'; rw [hlo.1] at m1; rw [hlo.2] at m2; have n1 := m3 291; have n2 := m3 293; clear h6 g6 m3 HOP HLa k1 k2 k3 k4 k5 k6 k7 f4 f5 f6 f7 o0 o1 o2 o3 o4))
    go_ret
    have h7 := H6.out.1.os (M.o + 1) (M.s + 1)
    exact ⟨rfl, T6, ⟨h7.1, HI.out.1, HI.out.2.2, HI.out.2.1⟩, H6.out.2.trans h7.2⟩
set_option maxHeartbeats 8000000 in
theorem rstep_end (h : DM w q ps T M L) (he : M.e = 100) (ht : trapB ps M = false) (hs : M.s < 1000000000000) (hlt : M.o = (listM ps M).length) : Calls Tryd.prog 29 #[ptr q] w (RSt w q ps T true (stepM ps M) (tagM ps M)) := by
  obtain ⟨b, f, bc, po, pc, x, p, hS⟩ := h.sd
  have he2 : (M.e != 100) = false := by simpa using he
  have kv := hS.at_.kv
  rw [he2] at kv
  have hq := hS.at_.lt
  have HTr : Hid (Calls Tryd.prog 30 #[ptr q] w fun e w' => e = .returned (.bool false) ∧ Below w.heap.size w w') := by
    have := rtrap_any h
    rw [ht, Bool.and_false] at this; exact this
  have hl := hS.list
  have htag : tagM ps M = ((M.b : Int), false, (-1 : Int)) := by unfold tagM; rw [if_pos hlt]
  rw [hl] at hlt
  have hst : stepM ps M = withS (endM x M) (M.s + 1) := by
    unfold stepM nextM
    rw [hS.is]
    simp only
    rw [List.getElem?_eq_none (by omega)]
    rfl
  have HI : Hid (Inv ps (stepM ps M) ∧ EOk (stepM ps M) ∧ PsM ps) := ⟨inv_step h.ps h.inv, eok_step he, h.ps⟩
  have HL : Hid (∀ W, Below w.heap.size w W → Calls Tryd.prog 56 #[ptr q] W fun e w' => e = .returned (.slice (lA p M.y) (lst x M.y).length (lC p M.y)) ∧ Below W.heap.size W w') := fun W hb => rlist_any (hS.up hb)
  have HS : Hid (∀ W, Below w.heap.size w W → W.cell? ⟨q, 289, none⟩ = some (.int .i64 (M.b : Int)) ∧ W.cell? ⟨q, 291, none⟩ = some (.int .i64 (M.o : Int)) ∧ W.cell? ⟨q, 0, none⟩ = some (.slice (some ⟨b, f, none⟩) ps.length bc) ∧ BAt W b (f + M.b * 6) x p ∧ b < W.heap.size ∧ q < W.heap.size) := fun W hb => ⟨(hS.up hb).at_.kb, (hS.up hb).at_.ko, (hS.up hb).at_.k0, (hS.up hb).bk, (hS.up hb).bl, (hS.up hb).at_.lt⟩
  have HEn : Hid (∀ W, Below w.heap.size w W → Calls Tryd.prog 58 #[ptr q, x.val p] W (REn W q ps T (endM x M) ((M.b : Int), false, -1))) := fun W hb => rend_any x p (h.up hb) (List.mem_of_getElem? hS.is)
  have hes := end_s x M
  have hol := hS.ops.len
  have hsi : (M.s : Int) < 1000000000000 := by omega
  have hbi : (M.b : Int) < ps.length := by have := hS.lt; omega
  rw [hst] at HI
  rw [hst, htag]
  clear h he ht hS hl htag hst he2
  generalize endM x M = N at *
  generalize (lst x M.y).length = ll at *
  generalize lA p M.y = la at *
  generalize lC p M.y = lc at *
  generalize M.b = mb at *
  generalize M.o = mo at *
  subst hlt
  generalize M.s = ms at *
  generalize ps.length = pl at *
  go_enter Tryd.func29, Tryd.ntmps29
  go_wp2_with (first
    | (go_at_call 30; refine Calls.mono HTr.out ?_; rintro e w1 ⟨rfl, hb⟩; have HB : Hid (Below w.heap.size w w1) := hb; clear hb HTr kv hq)
    | (go_at_call 56; refine Calls.mono (HL.out w1 HB.out) ?_; rintro e w2 ⟨rfl, hb⟩; have HB2 : Hid (Below w.heap.size w w2) := HB.out.trans (hb.mono HB.out.size); clear hb HL; obtain ⟨k1, k3, k0, ⟨c0, c1, c2, c3, c4, c5⟩, z1, q1⟩ := HS.out w2 HB2.out; clear HS))
  go_region_with (first | (go_at_call 58; refine Calls.mono (HEn.out _ (drewN_below HB2.out 1)) ?_; rintro e w6 ⟨rfl, T6, h6, g6⟩; have H6 : Hid (DR w6 q ps T6 N ((mb : Int), false, -1) ∧ Tn w T w6 T6) := ⟨h6, (Tn.of (drewN_below HB2.out 1)).trans g6⟩; obtain ⟨m1, m2, m3, m4⟩ := h6.at'; rw [hes] at m2; have n2 := m3 293; clear h6 g6 m1 m3 HEn))
  all_goals
    clear k0 k1 k3 c0 c1 c2 c3 c4 c5
    go_wp2_with fail
    go_ret
    have h7 := H6.out.1.s1 (ms + 1)
    exact ⟨rfl, T6, ⟨h7.1, HI.out.1, HI.out.2.2, HI.out.2.1⟩, H6.out.2.trans h7.2⟩
end
end Go.Proofs.YtlnfhbkkodhmaaaDoor.Sm
