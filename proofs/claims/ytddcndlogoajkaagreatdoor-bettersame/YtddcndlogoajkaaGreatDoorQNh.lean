/- What a step makes of the machine, or that it stops there: read off the program by the walk. Conditions: the machine and its program lie in memory. -/
import Derived.Test.YtddcndlogoajkaaGreatDoorQNe
import Derived.Test.YtddcndlogoajkaaGreatDoorQNf
namespace Go.Proofs.YtddcndlogoajkaaGreatDoor.L8.Sm
open Go.ChangeShapes Go.WideShapes Go.ChangeAt Go.RowKit
open _root_.Go.Proofs.YtddcndlogoajkaaGreatDoor.L8.Op _root_.Go.Proofs.YtddcndlogoajkaaGreatDoor.L8.So
set_option maxRecDepth 20000

section
variable {w : World} {q n b f bc pc : Nat} {po : Option Addr} {x : Bk} {p : Pl} {M : Ma}
def lA (p : Pl) (y : Bool) : Option Addr := if y then p.ba else p.oa
def lC (p : Pl) (y : Bool) : Nat := if y then p.bc else p.oc
set_option maxHeartbeats 2000000 in
theorem list_any (h : MAt w q (some ⟨b, f, none⟩) n bc po pc M) (hb : BAt w b (f + M.b * 6) x p) (hlt : M.b < n) : Calls Tryz.prog 82 #[ptr q] w fun e w' => e = .returned (.slice (lA p M.y) (lst x M.y).length (lC p M.y)) ∧ ∃ m, w' = w.drewN m := by
  have c0 := hb.c0
  have c3 := hb.c3
  have a0 := h.b
  have a1 := h.y
  have ab := h.bk
  have hq := h.lt
  clear h hb
  cases hy : M.y
  · rw [hy] at a1
    clear hy
    generalize M.b = mb at *
    show Calls Tryz.prog 82 #[ptr q] w fun e w' => e = .returned (.slice p.oa x.ops.length p.oc) ∧ ∃ m, w' = w.drewN m
    go_enter Tryz.func82, Tryz.ntmps82
    go_wp2_with fail
    go_quiet (fail)
    go_wp2_with fail
    go_ret
    exact ⟨rfl, _, rfl⟩
  · rw [hy] at a1
    clear hy
    generalize M.b = mb at *
    show Calls Tryz.prog 82 #[ptr q] w fun e w' => e = .returned (.slice p.ba x.body.length p.bc) ∧ ∃ m, w' = w.drewN m
    go_enter Tryz.func82, Tryz.ntmps82
    go_wp2_with fail
    go_quiet (fail)
    go_wp2_with fail
    go_ret
    exact ⟨rfl, _, rfl⟩
set_option maxHeartbeats 2000000 in
theorem end_any (h : MAt w q (some ⟨b, f, none⟩) n bc po pc M) (hb : BAt w b (f + M.b * 6) x p) (hz : b < w.heap.size) (hlt : M.b < n) : Calls Tryz.prog 80 #[ptr q] w fun e w' => e = .returned (.agg #[.int .i64 (M.b : Int), .bool M.y, .int .i64 ((lst x M.y).length : Int)]) ∧ Below w.heap.size w w' := by
  have HL : Hid (∀ W, Below w.heap.size w W → Calls Tryz.prog 82 #[ptr q] W fun e w' => e = .returned (.slice (lA p M.y) (lst x M.y).length (lC p M.y)) ∧ ∃ m, w' = W.drewN m) := fun W hb' => list_any (h.up hb') (hb.below hb' hz) hlt
  have a0 := h.b
  have a1 := h.y
  have hq := h.lt
  clear h hb hz hlt
  generalize lA p M.y = la at *
  generalize lC p M.y = lc at *
  generalize (lst x M.y).length = ll at *
  generalize M.b = mb at *
  generalize M.y = my at *
  go_enter Tryz.func80, Tryz.ntmps80
  go_wp2_with fail
  have hne : ¬ q = w.heap.size := by omega
  have hne' : ¬ w.heap.size = q := by omega
  go_region_held3 (fun w' => w'.cell? ⟨q, 329, none⟩ = some (.int .i64 (mb : Int)) ∧ w'.cell? ⟨q, 330, none⟩ = some (.bool my))
    (first | (go_keep; done))
    (first | (go_at_call 82; refine Calls.mono (HL.out _ (below_ad _ _)) ?_; rintro e w2 ⟨rfl, m, hm⟩; subst hm))
  all_goals
    go_wp2_with fail
    refine bodyPost_ret (v := .agg #[.int .i64 (mb : Int), .bool my, .int .i64 (ll : Int)]) (by simp [results, Tryz.results80, go_sem]) rfl ⟨rfl, (((drewN_below ((Below.refl _ _).alloc (Nat.le_refl _) _) _).setCell (by show w.heap.size ≤ w.heap.size; omega) _).setCell (by show w.heap.size ≤ w.heap.size; omega) _).setCell (by show w.heap.size ≤ w.heap.size; omega) _⟩
end
end Go.Proofs.YtddcndlogoajkaaGreatDoor.L8.Sm
namespace Go.Proofs.YtddcndlogoajkaaGreatDoor.L8.Sm
open Go.ChangeShapes Go.WideShapes Go.ChangeAt Go.RowKit
open _root_.Go.Proofs.YtddcndlogoajkaaGreatDoor.L8.Op _root_.Go.Proofs.YtddcndlogoajkaaGreatDoor.L8.So
set_option maxRecDepth 20000

section
variable {w : World} {q : Nat} {ps : List Bk} {T : Nat → Prop} {M : Ma}
/-- Where the machine stands, in memory. -/
structure Std (w : World) (q : Nat) (ps : List Bk) (T : Nat → Prop) (M : Ma) (b f bc : Nat) (po : Option Addr) (pc : Nat) (x : Bk) (p : Pl) : Prop where
  at_ : MAt w q (some ⟨b, f, none⟩) ps.length bc po pc M
  bk : BAt w b (f + M.b * 6) x p
  bl : b < w.heap.size
  lt : M.b < ps.length
  is : ps[M.b]? = some x
  ops : OpsAt w (lA p M.y) (lst x M.y)
  ne : ¬ b = q
  xm : BkM ps.length x
theorem MM.std (h : MM w q ps T M) : ∃ b f bc po pc x p, Std w q ps T M b f bc po pc x p := by
  obtain ⟨ba, bc, po, pc, hM, hP, hR, hT⟩ := h.mr.ex
  have hb := h.inv.b
  obtain ⟨b, f, rfl, hz, hT', hx⟩ := hP.is (by omega)
  obtain ⟨p, h1, h2, -⟩ := hx M.b hb
  refine ⟨b, f, bc, po, pc, ps[M.b], p, hM, h1, hz, hb, List.getElem?_eq_getElem hb, ?_, fun e => hT' (.inl (by rw [e]; exact h.mr.tq)), h.ps.2.2 _ (List.getElem_mem hb)⟩
  unfold lA lst
  split
  · exact h2.b
  · exact h2.o
theorem Std.up {w' : World} {b f bc pc : Nat} {po : Option Addr} {x : Bk} {p : Pl} (h : Std w q ps T M b f bc po pc x p) (hb : Below w.heap.size w w') : Std w' q ps T M b f bc po pc x p :=
  ⟨h.at_.up hb, h.bk.below hb h.bl, Nat.lt_of_lt_of_le h.bl hb.size, h.lt, h.is, h.ops.below hb, h.ne, h.xm⟩
theorem Std.end_ {b f bc pc : Nat} {po : Option Addr} {x : Bk} {p : Pl} (h : Std w q ps T M b f bc po pc x p) : Calls Tryz.prog 80 #[ptr q] w fun e w' => e = .returned (.agg #[.int .i64 (M.b : Int), .bool M.y, .int .i64 ((lst x M.y).length : Int)]) ∧ Below w.heap.size w w' := end_any h.at_ h.bk h.bl h.lt
theorem Std.get {b f bc pc : Nat} {po : Option Addr} {x : Bk} {p : Pl} (h : Std w q ps T M b f bc po pc x p) : ps[M.b]'h.lt = x := by
  have := h.is
  rw [List.getElem?_eq_getElem h.lt] at this
  exact Option.some.inj this
theorem Std.list {b f bc pc : Nat} {po : Option Addr} {x : Bk} {p : Pl} (h : Std w q ps T M b f bc po pc x p) : listM ps M = lst x M.y := by
  rw [listM_at h.lt, h.get]
/-- What an end's turn leaves. -/
def TurnPost (w : World) (q : Nat) (ps : List Bk) (T : Nat → Prop) (M' : Ma) (e : Ending) (w' : World) : Prop := e = .returned (.tuple #[]) ∧ MR w' q ps T M' ∧ Tn w T w' T ∧ Fr (One q) w w'
theorem turn_of {M' : Ma} {b f bc pc : Nat} {po : Option Addr} {x : Bk} {p : Pl} (h : MM w q ps T M) (hS : Std w q ps T M b f bc po pc x p) {fn : FuncId} {args : Array Value} (hpr : M'.pr = M.pr)
    (hc : Calls Tryz.prog fn args w fun e w' => e = .returned (.tuple #[]) ∧ MAt w' q (some ⟨b, f, none⟩) ps.length bc po pc M' ∧ Fr (One q) w w') : Calls Tryz.prog fn args w (TurnPost w q ps T M') := by
  obtain ⟨ba, bc', po', pc', hM, hP, hR, hT⟩ := h.mr.ex
  have e1 := hM.bk.symm.trans hS.at_.bk
  have e2 := hM.p.symm.trans hS.at_.p
  injection e1 with e1; injection e1 with e1 _ e1'
  injection e2 with e2; injection e2 with e2 _ e2'
  subst e1 e1' e2 e2'
  refine hc.mono ?_
  rintro e w' ⟨rfl, h1, h2⟩
  obtain ⟨k1, k2⟩ := mr_one hP hR hT h.mr.tq h.mr.tl h1 h2 hpr
  exact ⟨rfl, k1, k2, h2⟩
theorem turn_any (h : MM w q ps T M) {b f bc pc : Nat} {po : Option Addr} {x : Bk} {p : Pl} (hS : Std w q ps T M b f bc po pc x p) : Calls Tryz.prog (57 + x.fin.toNat) #[ptr q, .pointer (some ⟨b, f + M.b * 6, none⟩)] w (TurnPost w q ps T (endM x M)) := by
  have hm := hS.xm
  obtain ⟨k, hk⟩ : ∃ k : Nat, x.fin = k := ⟨x.fin.toNat, by have := hm.fin; omega⟩
  have hk4 : k = 0 ∨ k = 1 ∨ k = 2 ∨ k = 3 := by have := hm.fin; omega
  rw [hk]
  unfold endM
  rcases hk4 with rfl | rfl | rfl | rfl
  · rw [if_pos (show x.fin = 0 by omega)]
    exact turn_of h hS rfl (jump_any hS.at_ hS.bk hm.thn.1)
  · rw [if_neg (by omega), if_pos (show x.fin = 1 by omega)]
    exact turn_of h hS rfl (branch_any hS.at_ hS.bk hS.ne hm.thn.1 hm.els.1 hm.a)
  · rw [if_neg (by omega), if_neg (by omega), if_pos (show x.fin = 2 by omega)]
    exact turn_of h hS rfl (halt_any hS.at_ hS.bk hS.ne hm.a)
  · rw [if_neg (by omega), if_neg (by omega), if_neg (by omega)]
    cases hy : M.y
    · rw [show rndM x.a M = max (M.r x.a.toNat) 0 by simp [rndM, hy]]
      refine turn_of h hS ?_ (loop_ops hS.at_ hS.bk hS.ne hm.thn.1 hm.a hy)
      split <;> rfl
    · rw [show rndM x.a M = wrap64 (M.n - 1) by simp [rndM, hy]]
      refine turn_of h hS ?_ (loop_body hS.at_ hS.bk hS.ne hm.thn.1 hm.a hy)
      split <;> rfl
set_option maxHeartbeats 4000000 in
theorem step_stay (h : MM w q ps T M) (he : M.o = (listM ps M).length) : Calls Tryz.prog 63 #[ptr q, .bool false] w fun e w' => e = .returned (.bool false) ∧ Below w.heap.size w w' := by
  obtain ⟨b, f, bc, po, pc, x, p, hS⟩ := h.std
  have HL : Hid (∀ W, Below w.heap.size w W → Calls Tryz.prog 80 #[ptr q] W fun e w' => e = .returned (.agg #[.int .i64 (M.b : Int), .bool M.y, .int .i64 ((lst x M.y).length : Int)]) ∧ Below W.heap.size W w') := fun W hb => (hS.up hb).end_
  have HM : Hid (∀ W, Below w.heap.size w W → W.cell? ⟨q, 329, none⟩ = some (.int .i64 (M.b : Int)) ∧ W.cell? ⟨q, 330, none⟩ = some (.bool M.y) ∧ W.cell? ⟨q, 331, none⟩ = some (.int .i64 (M.o : Int))) := fun W hb' => ⟨(hS.up hb').at_.b, (hS.up hb').at_.y, (hS.up hb').at_.o⟩
  have hq := hS.at_.lt
  have hl : M.o = (lst x M.y).length := by
    rw [he, listM_at hS.lt]
    have := hS.is
    rw [List.getElem?_eq_getElem hS.lt] at this
    rw [Option.some.inj this]
  clear h he hS
  generalize (lst x M.y).length = ll at *
  subst hl
  generalize M.b = mb at *
  generalize M.y = my at *
  generalize M.o = mo at *
  go_enter Tryz.func63, Tryz.ntmps63
  go_wp2_with fail
  have e0 : ∀ z : Wd (Below w.heap.size w), z.w.cell? ⟨q, 329, none⟩ = some (.int .i64 (mb : Int)) := fun z => (HM.out z.w z.ok).1
  have e1 : ∀ z : Wd (Below w.heap.size w), z.w.cell? ⟨q, 330, none⟩ = some (.bool my) := fun z => (HM.out z.w z.ok).2.1
  have e2 : ∀ z : Wd (Below w.heap.size w), z.w.cell? ⟨q, 331, none⟩ = some (.int .i64 (mo : Int)) := fun z => (HM.out z.w z.ok).2.2
  haveI inst : Nonempty (Wd (Below w.heap.size w)) := ⟨⟨w, Below.refl _ _⟩⟩
  have HX : Hid (∀ z : Wd (Below w.heap.size w), Below w.heap.size w z.w) := fun z => z.ok
  refine wp_region_in (Below w.heap.size w) (by kernel_rfl) (by kernel_rfl) ((Below.refl _ _).drew) ?_
  repeat (first | go_big_quiet_step ((go_at_call 80; exact calls_in (Nat.le_refl _) _ (HL.out _ (HX.out _)))))
  refine wpQuiet_nil ?_
  rintro _ ⟨x, rfl⟩
  have hx := x.ok
  clear e0 e1 e2
  go_wp2_with fail
  go_ret
  exact ⟨rfl, hx⟩
set_option maxHeartbeats 8000000 in
theorem step_end (h : MM w q ps T M) (he : M.o = (listM ps M).length) : Calls Tryz.prog 63 #[ptr q, .bool true] w fun e w' => e = .returned (.bool true) ∧ ∃ T', MR w' q ps T' (nextM ps M) ∧ Tn w T w' T' := by
  obtain ⟨b, f, bc, po, pc, x, p, hS⟩ := h.std
  have HL : Hid (∀ W, Below w.heap.size w W → Calls Tryz.prog 80 #[ptr q] W fun e w' => e = .returned (.agg #[.int .i64 (M.b : Int), .bool M.y, .int .i64 ((lst x M.y).length : Int)]) ∧ Below W.heap.size W w') := fun W hb => (hS.up hb).end_
  have HM : Hid (∀ W, Below w.heap.size w W → W.cell? ⟨q, 329, none⟩ = some (.int .i64 (M.b : Int)) ∧ W.cell? ⟨q, 330, none⟩ = some (.bool M.y) ∧ W.cell? ⟨q, 331, none⟩ = some (.int .i64 (M.o : Int))) := fun W hb' => ⟨(hS.up hb').at_.b, (hS.up hb').at_.y, (hS.up hb').at_.o⟩
  have hq := hS.at_.lt
  have hl : M.o = (lst x M.y).length := by rw [he, hS.list]
  have hn : nextM ps M = endM x M := by
    have := next_end hS.lt (M := M) (by rw [hS.get]; omega)
    rw [hS.get] at this; exact this
  rw [hn]
  have HT : Hid (∀ W, Below w.heap.size w W → Calls Tryz.prog (57 + x.fin.toNat) #[ptr q, .pointer (some ⟨b, f + M.b * 6, none⟩)] W (TurnPost W q ps T (endM x M))) := fun W hb => turn_any (h.up hb) (hS.up hb)
  have HC : Hid (∀ W, Below w.heap.size w W → W.cell? ⟨q, 0, none⟩ = some (.slice (some ⟨b, f, none⟩) ps.length bc) ∧ W.cell? ⟨b, f + M.b * 6 + 1, none⟩ = some (.int .i8 x.fin)) := fun W hb => ⟨(hS.up hb).at_.bk, (hS.up hb).bk.c1⟩
  have HD : Hid (∀ W T' M', MR W q ps T' M' → W.cell? ⟨q, 37 + x.fin.toNat, none⟩ = some (fnV (57 + x.fin.toNat))) := fun W T' M' hm => by
    obtain ⟨_, _, _, _, hA⟩ := hm.mat
    exact hA.en _ (by have := hS.xm.fin; omega)
  have HR : Hid (MR w q ps T M) := h.mr
  have hbl := hS.bl
  have hne := hS.ne
  have hlt := hS.lt
  have hf0 := hS.xm.fin
  obtain ⟨k, hk⟩ : ∃ k : Nat, x.fin = k := ⟨x.fin.toNat, by omega⟩
  have hk4 : k = 0 ∨ k = 1 ∨ k = 2 ∨ k = 3 := by omega
  have hpl : (ps.length : Int) ≤ 128 := by have := h.ps.1; omega
  rw [hk] at HT HC HD
  clear hk hf0 h he hS hn
  generalize endM x M = M2 at *
  generalize (lst x M.y).length = ll at *
  subst hl
  generalize ps.length = pl at *
  generalize M.b = mb at *
  generalize M.y = my at *
  generalize M.o = mo at *
  rcases hk4 with rfl | rfl | rfl | rfl
  · go_enter Tryz.func63, Tryz.ntmps63
    go_wp2_with fail
    have e0 : ∀ z : Wd (Below w.heap.size w), z.w.cell? ⟨q, 329, none⟩ = some (.int .i64 (mb : Int)) := fun z => (HM.out z.w z.ok).1
    have e1 : ∀ z : Wd (Below w.heap.size w), z.w.cell? ⟨q, 330, none⟩ = some (.bool my) := fun z => (HM.out z.w z.ok).2.1
    have e2 : ∀ z : Wd (Below w.heap.size w), z.w.cell? ⟨q, 331, none⟩ = some (.int .i64 (mo : Int)) := fun z => (HM.out z.w z.ok).2.2
    haveI inst : Nonempty (Wd (Below w.heap.size w)) := ⟨⟨w, Below.refl _ _⟩⟩
    have HX : Hid (∀ z : Wd (Below w.heap.size w), Below w.heap.size w z.w) := fun z => z.ok
    refine wp_region_in (Below w.heap.size w) (by kernel_rfl) (by kernel_rfl) ((Below.refl _ _).drew) ?_
    repeat (first | go_big_quiet_step ((go_at_call 80; exact calls_in (Nat.le_refl _) _ (HL.out _ (HX.out _)))))
    refine wpQuiet_nil ?_
    rintro _ ⟨z, rfl⟩
    have hx := z.ok
    clear e0 e1 e2
    have b0 := (HC.out z.w hx).1
    have b1 := (HM.out z.w hx).1
    have q1 : q < z.w.heap.size := Nat.lt_of_lt_of_le hq hx.size
    go_wp2_with fail
    go_quiet (fail)
    have HS : Hid ((z.w.drewN nq).drew.cell? ⟨b, f + mb * 6 + 1, none⟩ = some (.int .i8 0) ∧ (z.w.drewN nq).drew.cell? ⟨q, 37, none⟩ = some (.func (.func 57) #[] #[])) := ⟨(HC.out _ (((hx.trans ((drewN_up z.w nq).mono hx.size))).trans ((drew_up _).mono (Nat.le_trans hx.size (drewN_up z.w nq).size)))).2, HD.out _ T M (HR.out.up (((hx.trans ((drewN_up z.w nq).mono hx.size))).trans ((drew_up _).mono (Nat.le_trans hx.size (drewN_up z.w nq).size))))⟩
    have HTz : Hid (Calls Tryz.prog 57 #[ptr q, .pointer (some ⟨b, f + mb * 6, none⟩)] (z.w.drewN nq).drew (TurnPost (z.w.drewN nq).drew q ps T M2)) := HT.out _ (((hx.trans ((drewN_up z.w nq).mono hx.size))).trans ((drew_up _).mono (Nat.le_trans hx.size (drewN_up z.w nq).size)))
    have HE : Hid (Below w.heap.size w (z.w.drewN nq).drew) := ((hx.trans ((drewN_up z.w nq).mono hx.size))).trans ((drew_up _).mono (Nat.le_trans hx.size (drewN_up z.w nq).size))
    have HCl : Hid (b < (z.w.drewN nq).drew.heap.size) := Nat.lt_of_lt_of_le hbl HE.out.size
    clear HT HL HM HR b0 b1 HX
    go_wp2_with fail
    go_region_held3 (fun w' => w'.cell? ⟨b, f + mb * 6 + 1, none⟩ = some (.int .i8 0) ∧ w'.cell? ⟨q, 37, none⟩ = some (.func (.func 57) #[] #[]))
      (first | exact HS.out)
      (first | (go_at_call 57; refine Calls.mono HTz.out ?_; rintro e w2 ⟨rfl, hm, htn, hfr⟩; have HY : Hid (MR w2 q ps T M2 ∧ Tn (z.w.drewN nq).drew T w2 T) := ⟨hm, htn⟩; have HS : Hid (w2.cell? ⟨b, f + mb * 6 + 1, none⟩ = some (.int .i8 0) ∧ w2.cell? ⟨q, 37, none⟩ = some (.func (.func 57) #[] #[])) := ⟨(hfr.cell HCl.out hne _).trans HS.out.1, HD.out _ _ _ hm⟩; clear hm htn hfr HTz))
    go_wp2_with fail
    go_ret
    exact ⟨rfl, T, HY.out.1, (Tn.of HE.out).trans HY.out.2⟩
  · go_enter Tryz.func63, Tryz.ntmps63
    go_wp2_with fail
    have e0 : ∀ z : Wd (Below w.heap.size w), z.w.cell? ⟨q, 329, none⟩ = some (.int .i64 (mb : Int)) := fun z => (HM.out z.w z.ok).1
    have e1 : ∀ z : Wd (Below w.heap.size w), z.w.cell? ⟨q, 330, none⟩ = some (.bool my) := fun z => (HM.out z.w z.ok).2.1
    have e2 : ∀ z : Wd (Below w.heap.size w), z.w.cell? ⟨q, 331, none⟩ = some (.int .i64 (mo : Int)) := fun z => (HM.out z.w z.ok).2.2
    haveI inst : Nonempty (Wd (Below w.heap.size w)) := ⟨⟨w, Below.refl _ _⟩⟩
    have HX : Hid (∀ z : Wd (Below w.heap.size w), Below w.heap.size w z.w) := fun z => z.ok
    refine wp_region_in (Below w.heap.size w) (by kernel_rfl) (by kernel_rfl) ((Below.refl _ _).drew) ?_
    repeat (first | go_big_quiet_step ((go_at_call 80; exact calls_in (Nat.le_refl _) _ (HL.out _ (HX.out _)))))
    refine wpQuiet_nil ?_
    rintro _ ⟨z, rfl⟩
    have hx := z.ok
    clear e0 e1 e2
    have b0 := (HC.out z.w hx).1
    have b1 := (HM.out z.w hx).1
    have q1 : q < z.w.heap.size := Nat.lt_of_lt_of_le hq hx.size
    go_wp2_with fail
    go_quiet (fail)
    have HS : Hid ((z.w.drewN nq).drew.cell? ⟨b, f + mb * 6 + 1, none⟩ = some (.int .i8 1) ∧ (z.w.drewN nq).drew.cell? ⟨q, 38, none⟩ = some (.func (.func 58) #[] #[])) := ⟨(HC.out _ (((hx.trans ((drewN_up z.w nq).mono hx.size))).trans ((drew_up _).mono (Nat.le_trans hx.size (drewN_up z.w nq).size)))).2, HD.out _ T M (HR.out.up (((hx.trans ((drewN_up z.w nq).mono hx.size))).trans ((drew_up _).mono (Nat.le_trans hx.size (drewN_up z.w nq).size))))⟩
    have HTz : Hid (Calls Tryz.prog 58 #[ptr q, .pointer (some ⟨b, f + mb * 6, none⟩)] (z.w.drewN nq).drew (TurnPost (z.w.drewN nq).drew q ps T M2)) := HT.out _ (((hx.trans ((drewN_up z.w nq).mono hx.size))).trans ((drew_up _).mono (Nat.le_trans hx.size (drewN_up z.w nq).size)))
    have HE : Hid (Below w.heap.size w (z.w.drewN nq).drew) := ((hx.trans ((drewN_up z.w nq).mono hx.size))).trans ((drew_up _).mono (Nat.le_trans hx.size (drewN_up z.w nq).size))
    have HCl : Hid (b < (z.w.drewN nq).drew.heap.size) := Nat.lt_of_lt_of_le hbl HE.out.size
    clear HT HL HM HR b0 b1 HX
    go_wp2_with fail
    go_region_held3 (fun w' => w'.cell? ⟨b, f + mb * 6 + 1, none⟩ = some (.int .i8 1) ∧ w'.cell? ⟨q, 38, none⟩ = some (.func (.func 58) #[] #[]))
      (first | exact HS.out)
      (first | (go_at_call 58; refine Calls.mono HTz.out ?_; rintro e w2 ⟨rfl, hm, htn, hfr⟩; have HY : Hid (MR w2 q ps T M2 ∧ Tn (z.w.drewN nq).drew T w2 T) := ⟨hm, htn⟩; have HS : Hid (w2.cell? ⟨b, f + mb * 6 + 1, none⟩ = some (.int .i8 1) ∧ w2.cell? ⟨q, 38, none⟩ = some (.func (.func 58) #[] #[])) := ⟨(hfr.cell HCl.out hne _).trans HS.out.1, HD.out _ _ _ hm⟩; clear hm htn hfr HTz))
    go_wp2_with fail
    go_ret
    exact ⟨rfl, T, HY.out.1, (Tn.of HE.out).trans HY.out.2⟩
  · go_enter Tryz.func63, Tryz.ntmps63
    go_wp2_with fail
    have e0 : ∀ z : Wd (Below w.heap.size w), z.w.cell? ⟨q, 329, none⟩ = some (.int .i64 (mb : Int)) := fun z => (HM.out z.w z.ok).1
    have e1 : ∀ z : Wd (Below w.heap.size w), z.w.cell? ⟨q, 330, none⟩ = some (.bool my) := fun z => (HM.out z.w z.ok).2.1
    have e2 : ∀ z : Wd (Below w.heap.size w), z.w.cell? ⟨q, 331, none⟩ = some (.int .i64 (mo : Int)) := fun z => (HM.out z.w z.ok).2.2
    haveI inst : Nonempty (Wd (Below w.heap.size w)) := ⟨⟨w, Below.refl _ _⟩⟩
    have HX : Hid (∀ z : Wd (Below w.heap.size w), Below w.heap.size w z.w) := fun z => z.ok
    refine wp_region_in (Below w.heap.size w) (by kernel_rfl) (by kernel_rfl) ((Below.refl _ _).drew) ?_
    repeat (first | go_big_quiet_step ((go_at_call 80; exact calls_in (Nat.le_refl _) _ (HL.out _ (HX.out _)))))
    refine wpQuiet_nil ?_
    rintro _ ⟨z, rfl⟩
    have hx := z.ok
    clear e0 e1 e2
    have b0 := (HC.out z.w hx).1
    have b1 := (HM.out z.w hx).1
    have q1 : q < z.w.heap.size := Nat.lt_of_lt_of_le hq hx.size
    go_wp2_with fail
    go_quiet (fail)
    have HS : Hid ((z.w.drewN nq).drew.cell? ⟨b, f + mb * 6 + 1, none⟩ = some (.int .i8 2) ∧ (z.w.drewN nq).drew.cell? ⟨q, 39, none⟩ = some (.func (.func 59) #[] #[])) := ⟨(HC.out _ (((hx.trans ((drewN_up z.w nq).mono hx.size))).trans ((drew_up _).mono (Nat.le_trans hx.size (drewN_up z.w nq).size)))).2, HD.out _ T M (HR.out.up (((hx.trans ((drewN_up z.w nq).mono hx.size))).trans ((drew_up _).mono (Nat.le_trans hx.size (drewN_up z.w nq).size))))⟩
    have HTz : Hid (Calls Tryz.prog 59 #[ptr q, .pointer (some ⟨b, f + mb * 6, none⟩)] (z.w.drewN nq).drew (TurnPost (z.w.drewN nq).drew q ps T M2)) := HT.out _ (((hx.trans ((drewN_up z.w nq).mono hx.size))).trans ((drew_up _).mono (Nat.le_trans hx.size (drewN_up z.w nq).size)))
    have HE : Hid (Below w.heap.size w (z.w.drewN nq).drew) := ((hx.trans ((drewN_up z.w nq).mono hx.size))).trans ((drew_up _).mono (Nat.le_trans hx.size (drewN_up z.w nq).size))
    have HCl : Hid (b < (z.w.drewN nq).drew.heap.size) := Nat.lt_of_lt_of_le hbl HE.out.size
    clear HT HL HM HR b0 b1 HX
    go_wp2_with fail
    go_region_held3 (fun w' => w'.cell? ⟨b, f + mb * 6 + 1, none⟩ = some (.int .i8 2) ∧ w'.cell? ⟨q, 39, none⟩ = some (.func (.func 59) #[] #[]))
      (first | exact HS.out)
      (first | (go_at_call 59; refine Calls.mono HTz.out ?_; rintro e w2 ⟨rfl, hm, htn, hfr⟩; have HY : Hid (MR w2 q ps T M2 ∧ Tn (z.w.drewN nq).drew T w2 T) := ⟨hm, htn⟩; have HS : Hid (w2.cell? ⟨b, f + mb * 6 + 1, none⟩ = some (.int .i8 2) ∧ w2.cell? ⟨q, 39, none⟩ = some (.func (.func 59) #[] #[])) := ⟨(hfr.cell HCl.out hne _).trans HS.out.1, HD.out _ _ _ hm⟩; clear hm htn hfr HTz))
    go_wp2_with fail
    go_ret
    exact ⟨rfl, T, HY.out.1, (Tn.of HE.out).trans HY.out.2⟩
  · go_enter Tryz.func63, Tryz.ntmps63
    go_wp2_with fail
    have e0 : ∀ z : Wd (Below w.heap.size w), z.w.cell? ⟨q, 329, none⟩ = some (.int .i64 (mb : Int)) := fun z => (HM.out z.w z.ok).1
    have e1 : ∀ z : Wd (Below w.heap.size w), z.w.cell? ⟨q, 330, none⟩ = some (.bool my) := fun z => (HM.out z.w z.ok).2.1
    have e2 : ∀ z : Wd (Below w.heap.size w), z.w.cell? ⟨q, 331, none⟩ = some (.int .i64 (mo : Int)) := fun z => (HM.out z.w z.ok).2.2
    haveI inst : Nonempty (Wd (Below w.heap.size w)) := ⟨⟨w, Below.refl _ _⟩⟩
    have HX : Hid (∀ z : Wd (Below w.heap.size w), Below w.heap.size w z.w) := fun z => z.ok
    refine wp_region_in (Below w.heap.size w) (by kernel_rfl) (by kernel_rfl) ((Below.refl _ _).drew) ?_
    repeat (first | go_big_quiet_step ((go_at_call 80; exact calls_in (Nat.le_refl _) _ (HL.out _ (HX.out _)))))
    refine wpQuiet_nil ?_
    rintro _ ⟨z, rfl⟩
    have hx := z.ok
    clear e0 e1 e2
    have b0 := (HC.out z.w hx).1
    have b1 := (HM.out z.w hx).1
    have q1 : q < z.w.heap.size := Nat.lt_of_lt_of_le hq hx.size
    go_wp2_with fail
    go_quiet (fail)
    have HS : Hid ((z.w.drewN nq).drew.cell? ⟨b, f + mb * 6 + 1, none⟩ = some (.int .i8 3) ∧ (z.w.drewN nq).drew.cell? ⟨q, 40, none⟩ = some (.func (.func 60) #[] #[])) := ⟨(HC.out _ (((hx.trans ((drewN_up z.w nq).mono hx.size))).trans ((drew_up _).mono (Nat.le_trans hx.size (drewN_up z.w nq).size)))).2, HD.out _ T M (HR.out.up (((hx.trans ((drewN_up z.w nq).mono hx.size))).trans ((drew_up _).mono (Nat.le_trans hx.size (drewN_up z.w nq).size))))⟩
    have HTz : Hid (Calls Tryz.prog 60 #[ptr q, .pointer (some ⟨b, f + mb * 6, none⟩)] (z.w.drewN nq).drew (TurnPost (z.w.drewN nq).drew q ps T M2)) := HT.out _ (((hx.trans ((drewN_up z.w nq).mono hx.size))).trans ((drew_up _).mono (Nat.le_trans hx.size (drewN_up z.w nq).size)))
    have HE : Hid (Below w.heap.size w (z.w.drewN nq).drew) := ((hx.trans ((drewN_up z.w nq).mono hx.size))).trans ((drew_up _).mono (Nat.le_trans hx.size (drewN_up z.w nq).size))
    have HCl : Hid (b < (z.w.drewN nq).drew.heap.size) := Nat.lt_of_lt_of_le hbl HE.out.size
    clear HT HL HM HR b0 b1 HX
    go_wp2_with fail
    go_region_held3 (fun w' => w'.cell? ⟨b, f + mb * 6 + 1, none⟩ = some (.int .i8 3) ∧ w'.cell? ⟨q, 40, none⟩ = some (.func (.func 60) #[] #[]))
      (first | exact HS.out)
      (first | (go_at_call 60; refine Calls.mono HTz.out ?_; rintro e w2 ⟨rfl, hm, htn, hfr⟩; have HY : Hid (MR w2 q ps T M2 ∧ Tn (z.w.drewN nq).drew T w2 T) := ⟨hm, htn⟩; have HS : Hid (w2.cell? ⟨b, f + mb * 6 + 1, none⟩ = some (.int .i8 3) ∧ w2.cell? ⟨q, 40, none⟩ = some (.func (.func 60) #[] #[])) := ⟨(hfr.cell HCl.out hne _).trans HS.out.1, HD.out _ _ _ hm⟩; clear hm htn hfr HTz))
    go_wp2_with fail
    go_ret
    exact ⟨rfl, T, HY.out.1, (Tn.of HE.out).trans HY.out.2⟩
end
end Go.Proofs.YtddcndlogoajkaaGreatDoor.L8.Sm
