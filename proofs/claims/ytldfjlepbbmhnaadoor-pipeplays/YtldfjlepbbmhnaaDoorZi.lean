/- The document's machine: its registers and memory told (State), read off the program by the walk. Conditions: the machine lies in memory. -/
import Derived.Test.YtldfjlepbbmhnaaDoorZh
import Derived.Maps.AppendAt
import Derived.Laws.AppendOwnNone
import Derived.Deep.RegionLaw
import Derived.Deep.DeepCutAuto
namespace Go.Proofs.YtldfjlepbbmhnaaDoor.Pp
open Go.ChangeShapes Go.WideShapes Go.ChangeAt Go.RowKit
open _root_.Go.Proofs.YtldfjlepbbmhnaaDoor.Op _root_.Go.Proofs.YtldfjlepbbmhnaaDoor.So _root_.Go.Proofs.YtldfjlepbbmhnaaDoor.Bu
open _root_.Go.Proofs.YtldfjlepbbmhnaaDoor.Tb (Tab TabAt Bnds)
set_option maxRecDepth 20000

/-- Numbers that can be read from somewhere. -/
def Src (w : World) (v : Value) (l : List Int) : Prop := (v = .slice none 0 0 ∧ l = []) ∨ ∃ ad c, v = .slice (some ad) l.length c ∧ ∀ j u, (nums l)[j]? = some u → w.cell? (ad.add j) = some u
theorem addr0 (g j : Nat) : (⟨g, 0, none⟩ : Addr).add j = ⟨g, j, none⟩ := by unfold Addr.add; split <;> simp_all
theorem Src.row {w : World} {B : Nat} {v : Value} {l : List Int} (h : w.ownsRow B 2 1 v l.length (nums l)) : Src w v l := by
  rcases h.2 with ⟨e, e0⟩ | ⟨g, cap, cur, e, -⟩
  · exact .inl ⟨e, List.eq_nil_of_length_eq_zero e0⟩
  · subst e
    exact .inr ⟨_, _, rfl, fun j u hj => by rw [addr0]; exact row_cell' h hj⟩
theorem Src.blk {w : World} {b n c : Nat} {g : Nat → Int} (h : NBk w b n g) : Src w (.slice (some ⟨b, 0, none⟩) n c) ((List.range n).map g) := .inr ⟨_, c, by rw [List.length_map, List.length_range], fun j u hj => by
  rw [addr0]
  unfold nums at hj
  rw [List.getElem?_map, List.getElem?_map] at hj
  cases hr : (List.range n)[j]? with
  | none => rw [hr] at hj; cases hj
  | some k =>
    rw [hr] at hj
    simp only [Option.map_some, Option.some.injEq] at hj
    obtain ⟨h1, h2⟩ := List.getElem?_eq_some_iff.1 hr
    rw [List.getElem_range] at h2
    rw [List.length_range] at h1
    rw [← hj, ← h2]
    exact h.c j h1⟩
theorem grown_below {w w' : World} (h : w.grownBy w' none) : Below w.heap.size w w' := (fr_grown h).below (Nat.le_refl _) fun _ _ e => by cases e
theorem step_copy_row (w : World) {ops : Array Oper} {o : Oper} {a : Act} {K : Act → World → Prop} {Q : Exit → Act → World → Prop} {E : Prop} (hgd : o.guard = none) (s x : Operand)
    (ho : o.op = .call { callee := .builtin .append, args := #[s, x], argTypes := #[26, 26] }) (hs : a.eval s = .slice none 0 0) (v : Value) (l : List Int) (hx : a.eval x = v) (hv : Src w v l) (hl : l.length ≤ 1000000000000)
    (h : ∀ ao c w', w'.ownsRow w.heap.size 2 1 (.slice ao l.length c) l.length (nums l) → Below w.heap.size w w' → K (a.put o.dst (.slice ao l.length c)) w') :
    if Region.wanted o (yielded ops a.tmps) = true then Oper.wp Tryd.prog o a w K Q else E := by
  rw [if_pos (by simp [Region.wanted, hgd])]
  obtain ⟨i0, hi, hi2⟩ := Option.map_eq_some_iff.1 info2b
  simp only [Prod.mk.injEq] at hi2
  have h0 : w.ownsRow w.heap.size 2 1 (.slice none 0 0) 0 [] := ⟨rfl, .inl ⟨rfl, rfl⟩⟩
  rcases hv with ⟨e, e0⟩ | ⟨ad, c, e, hc⟩
  · subst e0
    rw [e] at hx
    have hrun := run_append_owned_none (P := Tryd.prog) (w := w) w.heap.size 26 o.type 2 i0 1 Tryd.underlying26 hi _ _ _ h0
    have hk := h none 0 w h0 (Below.refl _ _)
    unfold Oper.wp
    simp [execOp, ho, resolve, invoke, builtin, hs, hx, hrun, Result.andThen]
    exact hk
  · rw [e] at hx
    obtain ⟨v', w', hr, h2, h3, -, h5⟩ := run_append_own_at (P := Tryd.prog) w w.heap.size 26 o.type 2 i0 (.int .i64 0) 1 8 Tryd.underlying26 hi hi2.1 hi2.2.1 hi2.2.2 rfl (by decide) (.slice none 0 0) 0 [] h0 ad l.length c (nums l) (by unfold nums; simp) hc (nums_one _) (by unfold maxLen; omega) (by omega) (Nat.le_refl _)
    rw [Nat.zero_add, List.nil_append] at h2
    obtain ⟨ao, c', rfl⟩ := row_slice h2
    unfold Oper.wp execOp
    simp only [ho, resolve, invoke, builtin, Sem.run_bind, Sem.run_pure, Result.andThen_ok, List.map_toArray, List.map_cons, List.map_nil, hs, hx, hr]
    exact h ao c' w' h2 (grown_below h3)
section
variable {w : World} {t : Tab} {bs : List Bn} {H : Rx} {R : RM}
def rgR (R : RM) : List Int := (List.range 32).map R.r
def mmR (R : RM) : List Int := (List.range 256).map R.m
theorem rgR_len (R : RM) : (rgR R).length = 32 := by unfold rgR; simp
theorem mmR_len (R : RM) : (mmR R).length = 256 := by unfold mmR; simp
/-- What State answers. -/
def RsOut (w : World) (R : RM) (e : Ending) (w' : World) : Prop := ∃ ro rc mo mc, e = .returned (.agg #[.slice ro 32 rc, .slice mo 256 mc]) ∧ w'.ownsRow w.heap.size 2 1 (.slice ro 32 rc) 32 (nums (rgR R)) ∧ w'.ownsRow w.heap.size 2 1 (.slice mo 256 mc) 256 (nums (mmR R)) ∧ Below w.heap.size w w'
/-- State under way. -/
structure Sx (w W : World) (u v : Value) : Prop where
  a : At W w.heap.size #[.slice none 0 0, .slice none 0 0]
  b : At W (w.heap.size + 1) #[u, v]
  up : Below w.heap.size w W
  z : w.heap.size + 2 ≤ W.heap.size
theorem Sx.next {w W W' : World} {u v : Value} (h : Sx w W u v) (g : Below W.heap.size W W') : Sx w W' u v := ⟨h.a.below g h.a.lt, h.b.below g h.b.lt, h.up.trans (g.mono h.up.size), Nat.le_trans h.z g.size⟩
theorem Sx.set0 {w W : World} {u v x : Value} (h : Sx w W u v) : Sx w (W.setCell ⟨w.heap.size + 1, 0, none⟩ x) x v := by
  have f : Fr (One (w.heap.size + 1)) W (W.setCell ⟨w.heap.size + 1, 0, none⟩ x) := (Fr.refl (One (w.heap.size + 1)) _).setCell (.inr rfl) _ _
  exact ⟨At.frb h.a f (fun e => by have e : w.heap.size = w.heap.size + 1 := e; omega), At.setk (k := 0) h.b (by simp), h.up.trans (f.below h.up.size fun b hb e => by have e : b = w.heap.size + 1 := e; omega), Nat.le_trans h.z f.size⟩
theorem Sx.set1 {w W : World} {u v x : Value} (h : Sx w W u v) : Sx w (W.setCell ⟨w.heap.size + 1, 1, none⟩ x) u x := by
  have f : Fr (One (w.heap.size + 1)) W (W.setCell ⟨w.heap.size + 1, 1, none⟩ x) := (Fr.refl (One (w.heap.size + 1)) _).setCell (.inr rfl) _ _
  exact ⟨At.frb h.a f (fun e => by have e : w.heap.size = w.heap.size + 1 := e; omega), At.setk (k := 1) h.b (by simp), h.up.trans (f.below h.up.size fun b hb e => by have e : b = w.heap.size + 1 := e; omega), Nat.le_trans h.z f.size⟩
set_option maxHeartbeats 4000000 in
theorem rstate_any (h : Rch w t bs H R) : Calls Tryd.prog 15 #[ptr H.mb] w (RsOut w R) := by
  have HM : Hid (∀ V, Below w.heap.size w V → H.mb < V.heap.size ∧ V.cell? ⟨H.mb, 14, none⟩ = some (.slice (some ⟨H.rb, 0, none⟩) 32 32) ∧ V.cell? ⟨H.mb, 15, none⟩ = some (.slice (some ⟨H.ub, 0, none⟩) 256 256) ∧ Src V (.slice (some ⟨H.rb, 0, none⟩) 32 32) (rgR R) ∧ Src V (.slice (some ⟨H.ub, 0, none⟩) 256 256) (mmR R)) := fun V hV => ⟨(h.up hV).c.lt, (h.up hV).c.rs, (h.up hV).c.ms, Src.blk (h.up hV).rr, Src.blk (h.up hV).mm⟩
  have HL : Hid ((rgR R).length = 32 ∧ (mmR R).length = 256) := ⟨rgR_len R, mmR_len R⟩
  have HX : Hid (Sx w ((w.alloc (.cells #[.slice none 0 0, .slice none 0 0] 28)).alloc (.cells #[.slice none 0 0, .slice none 0 0] 28)) (.slice none 0 0) (.slice none 0 0)) := by
    obtain ⟨a1, a2, a3, -, a5⟩ := two_new w #[.slice none 0 0, .slice none 0 0] #[.slice none 0 0, .slice none 0 0] 28 28 (Below.refl _ _)
    exact ⟨a1, a2, a3, by omega⟩
  clear h
  go_enter Tryd.func15, Tryd.ntmps15
  go_upto_region 2 with fail
  generalize ((w.alloc (.cells #[.slice none 0 0, .slice none 0 0] 28)).alloc (.cells #[.slice none 0 0, .slice none 0 0] 28)) = X at *
  refine wp_region_held_drew (S := fun V => Below w.heap.size w V) (by kernel_rfl) HX.out.up.drew (fun hHeld => ?_)
  refine wpAnyH_take (i := 0) (v := .pointer (some ⟨w.heap.size + 1, 0, none⟩)) rfl (by kernel_rfl) (by kernel_rfl) (by kernel_rfl) (fun _ _ _ h => h) (Or.inl ⟨by rfl, fun w' hSw => by (go_simp)⟩) hHeld ?_
  simp only [Act.put, List.setIfInBounds_toArray, List.set_cons_zero, List.set_cons_succ, List.getElem_cons_zero, List.getElem_toArray]
  refine wpAnyH_take (i := 2) (v := .pointer (some ⟨H.mb, 0, none⟩)) rfl (by kernel_rfl) (by kernel_rfl) (by kernel_rfl) (fun _ _ _ h => h) (Or.inl ⟨by rfl, fun w' hSw => by (go_simp)⟩) hHeld ?_
  simp only [Act.put, List.setIfInBounds_toArray, List.set_cons_zero, List.set_cons_succ, List.getElem_cons_zero, List.getElem_cons_succ, List.getElem_toArray]
  refine wpAnyH_take (i := 3) (v := .pointer (some ⟨H.mb, 0, none⟩)) rfl (by kernel_rfl) (by kernel_rfl) (by kernel_rfl) (fun _ _ _ h => h) (Or.inl ⟨by rfl, fun w' hSw => by (go_simp)⟩) hHeld ?_
  simp only [Act.put, List.setIfInBounds_toArray, List.set_cons_zero, List.set_cons_succ, List.getElem_cons_zero, List.getElem_cons_succ, List.getElem_toArray]
  refine wpAnyH_take (i := 4) (v := .pointer (some ⟨H.mb, 14, none⟩)) rfl (by kernel_rfl) (by kernel_rfl) (by kernel_rfl) (fun _ _ _ h => h) (Or.inl ⟨by rfl, fun w' hSw => by (go_simp)⟩) hHeld ?_
  simp only [Act.put, List.setIfInBounds_toArray, List.set_cons_zero, List.set_cons_succ, List.getElem_cons_zero, List.getElem_cons_succ, List.getElem_toArray]
  refine wpAnyH_take (i := 5) (v := .slice (some ⟨H.rb, 0, none⟩) 32 32) rfl (by kernel_rfl) (by kernel_rfl) (by kernel_rfl) (fun _ _ _ h => h) (Or.inl ⟨by rfl, fun w' hSw => by (have y := (HM.out w' hSw).2.1; have yl := (HM.out w' hSw).1; go_simp)⟩) hHeld ?_
  simp only [Act.put, List.setIfInBounds_toArray, List.set_cons_zero, List.set_cons_succ, List.getElem_cons_zero, List.getElem_cons_succ, List.getElem_toArray]
  have z0 : X.drew.cell? ⟨w.heap.size + 1, 0, none⟩ = some (.slice none 0 0) := HX.out.b.c 0 _ rfl
  have zl : w.heap.size + 1 < X.drew.heap.size := HX.out.b.lt
  refine wpAnyH_ready (rs := [1]) (by kernel_rfl) (by simp) ?_
  refine AllReadyH.cons rfl (fun K hK => ?_) AllReadyH.nil
  go_simp
  refine hK.out _ _ hHeld (fun hHeld => ?_)
  clear hK K z0 zl
  refine wpAnyH_ready (rs := [6]) (by kernel_rfl) (by simp) ?_
  refine AllReadyH.cons rfl (fun K hK => ?_) AllReadyH.nil
  refine step_copy_row _ (by rfl) _ _ (by rfl) (by rfl) (.slice (some ⟨H.rb, 0, none⟩) 32 32) (rgR R) (by rfl) (HM.out _ hHeld).2.2.2.1 (by rw [HL.out.1]; decide) ?_
  intro a0 c0 w5 hown hb
  rw [HL.out.1] at hown ⊢
  have HS0 : Hid (Sx w w5 (.slice none 0 0) (.slice none 0 0) ∧ w5.ownsRow (w.heap.size + 2) 2 1 (.slice a0 32 c0) 32 (nums (rgR R))) := ⟨(HX.out.next (drew_up _)).next hb, row_le hown HX.out.z⟩
  clear hown hb
  refine hK.out _ _ HS0.out.1.up (fun hHeld => ?_)
  clear hK K
  refine wpAnyH_take (i := 7) (v := .pointer (some ⟨w.heap.size + 1, 0, none⟩)) rfl (by kernel_rfl) (by kernel_rfl) (by kernel_rfl) (fun _ _ _ h => h) (Or.inl ⟨by rfl, fun w' hSw => by (go_simp)⟩) hHeld ?_
  simp only [Act.put, List.setIfInBounds_toArray, List.set_cons_zero, List.set_cons_succ, List.getElem_cons_zero, List.getElem_cons_succ, List.getElem_toArray]
  have z0 := HS0.out.1.b.c 0 _ rfl
  have zl := HS0.out.1.b.lt
  have zf := HS0.out.1.b.f
  refine wpAnyH_ready (rs := [8]) (by kernel_rfl) (by simp) ?_
  refine AllReadyH.cons rfl (fun K hK => ?_) AllReadyH.nil
  go_simp
  have HT0 : Hid (Sx w (w5.setCell ⟨w.heap.size + 1, 0, none⟩ (.slice a0 32 c0)) (.slice a0 32 c0) (.slice none 0 0) ∧ (w5.setCell ⟨w.heap.size + 1, 0, none⟩ (.slice a0 32 c0)).ownsRow (w.heap.size + 2) 2 1 (.slice a0 32 c0) 32 (nums (rgR R))) := by
    have f : Fr (One (w.heap.size + 1)) w5 (w5.setCell ⟨w.heap.size + 1, 0, none⟩ (.slice a0 32 c0)) := (Fr.refl (One (w.heap.size + 1)) _).setCell (.inr rfl) _ _
    have g : ∀ (B : Nat) (v : Value) (n : Nat) (xs : List Value), w.heap.size + 2 ≤ B → w5.ownsRow B 2 1 v n xs → (w5.setCell ⟨w.heap.size + 1, 0, none⟩ (.slice a0 32 c0)).ownsRow B 2 1 v n xs := fun B v n xs hB hr => row_fr hr f fun b e e2 => by
      have e2 : b = w.heap.size + 1 := e2
      have := (hr.lt b e).1
      omega
    exact ⟨HS0.out.1.set0, g _ _ _ _ (Nat.le_refl _) HS0.out.2⟩
  refine hK.out _ _ HT0.out.1.up (fun hHeld => ?_)
  clear hK K z0 zl zf
  refine wpAnyH_done (by kernel_rfl) ?_ _
  clear hHeld HS0
  generalize (w5.setCell ⟨w.heap.size + 1, 0, none⟩ (.slice a0 32 c0)) = Y at *
  have HX1 : Hid (Sx w Y (.slice a0 32 c0) (.slice none 0 0)) := HT0.out.1
  go_upto_region 3 with fail
  refine wp_region_held_drew (S := fun V => Below w.heap.size w V) (by kernel_rfl) HX1.out.up.drew (fun hHeld => ?_)
  refine wpAnyH_take (i := 0) (v := .pointer (some ⟨w.heap.size + 1, 1, none⟩)) rfl (by kernel_rfl) (by kernel_rfl) (by kernel_rfl) (fun _ _ _ h => h) (Or.inl ⟨by rfl, fun w' hSw => by (go_simp)⟩) hHeld ?_
  simp only [Act.put, List.setIfInBounds_toArray, List.set_cons_zero, List.set_cons_succ, List.getElem_cons_zero, List.getElem_toArray]
  refine wpAnyH_take (i := 2) (v := .pointer (some ⟨H.mb, 0, none⟩)) rfl (by kernel_rfl) (by kernel_rfl) (by kernel_rfl) (fun _ _ _ h => h) (Or.inl ⟨by rfl, fun w' hSw => by (go_simp)⟩) hHeld ?_
  simp only [Act.put, List.setIfInBounds_toArray, List.set_cons_zero, List.set_cons_succ, List.getElem_cons_zero, List.getElem_cons_succ, List.getElem_toArray]
  refine wpAnyH_take (i := 3) (v := .pointer (some ⟨H.mb, 0, none⟩)) rfl (by kernel_rfl) (by kernel_rfl) (by kernel_rfl) (fun _ _ _ h => h) (Or.inl ⟨by rfl, fun w' hSw => by (go_simp)⟩) hHeld ?_
  simp only [Act.put, List.setIfInBounds_toArray, List.set_cons_zero, List.set_cons_succ, List.getElem_cons_zero, List.getElem_cons_succ, List.getElem_toArray]
  refine wpAnyH_take (i := 4) (v := .pointer (some ⟨H.mb, 15, none⟩)) rfl (by kernel_rfl) (by kernel_rfl) (by kernel_rfl) (fun _ _ _ h => h) (Or.inl ⟨by rfl, fun w' hSw => by (go_simp)⟩) hHeld ?_
  simp only [Act.put, List.setIfInBounds_toArray, List.set_cons_zero, List.set_cons_succ, List.getElem_cons_zero, List.getElem_cons_succ, List.getElem_toArray]
  refine wpAnyH_take (i := 5) (v := .slice (some ⟨H.ub, 0, none⟩) 256 256) rfl (by kernel_rfl) (by kernel_rfl) (by kernel_rfl) (fun _ _ _ h => h) (Or.inl ⟨by rfl, fun w' hSw => by (have y := (HM.out w' hSw).2.2.1; have yl := (HM.out w' hSw).1; go_simp)⟩) hHeld ?_
  simp only [Act.put, List.setIfInBounds_toArray, List.set_cons_zero, List.set_cons_succ, List.getElem_cons_zero, List.getElem_cons_succ, List.getElem_toArray]
  have z0 : Y.drew.cell? ⟨w.heap.size + 1, 1, none⟩ = some (.slice none 0 0) := HX1.out.b.c 1 _ rfl
  have zl : w.heap.size + 1 < Y.drew.heap.size := HX1.out.b.lt
  refine wpAnyH_ready (rs := [1]) (by kernel_rfl) (by simp) ?_
  refine AllReadyH.cons rfl (fun K hK => ?_) AllReadyH.nil
  go_simp
  refine hK.out _ _ hHeld (fun hHeld => ?_)
  clear hK K z0 zl
  refine wpAnyH_ready (rs := [6]) (by kernel_rfl) (by simp) ?_
  refine AllReadyH.cons rfl (fun K hK => ?_) AllReadyH.nil
  refine step_copy_row _ (by rfl) _ _ (by rfl) (by rfl) (.slice (some ⟨H.ub, 0, none⟩) 256 256) (mmR R) (by rfl) (HM.out _ hHeld).2.2.2.2 (by rw [HL.out.2]; decide) ?_
  intro a1 c1 w6 hown hb
  rw [HL.out.2] at hown ⊢
  have HS1 : Hid (Sx w w6 (.slice a0 32 c0) (.slice none 0 0) ∧ w6.ownsRow (w.heap.size + 2) 2 1 (.slice a1 256 c1) 256 (nums (mmR R)) ∧ w6.ownsRow (w.heap.size + 2) 2 1 (.slice a0 32 c0) 32 (nums (rgR R))) := ⟨(HX1.out.next (drew_up _)).next hb, row_le hown HX1.out.z, row_up (row_up HT0.out.2 (drew_up _)) hb⟩
  clear hown hb
  refine hK.out _ _ HS1.out.1.up (fun hHeld => ?_)
  clear hK K
  refine wpAnyH_take (i := 7) (v := .pointer (some ⟨w.heap.size + 1, 1, none⟩)) rfl (by kernel_rfl) (by kernel_rfl) (by kernel_rfl) (fun _ _ _ h => h) (Or.inl ⟨by rfl, fun w' hSw => by (go_simp)⟩) hHeld ?_
  simp only [Act.put, List.setIfInBounds_toArray, List.set_cons_zero, List.set_cons_succ, List.getElem_cons_zero, List.getElem_cons_succ, List.getElem_toArray]
  have z0 := HS1.out.1.b.c 1 _ rfl
  have zl := HS1.out.1.b.lt
  have zf := HS1.out.1.b.f
  refine wpAnyH_ready (rs := [8]) (by kernel_rfl) (by simp) ?_
  refine AllReadyH.cons rfl (fun K hK => ?_) AllReadyH.nil
  go_simp
  have HT1 : Hid (Sx w (w6.setCell ⟨w.heap.size + 1, 1, none⟩ (.slice a1 256 c1)) (.slice a0 32 c0) (.slice a1 256 c1) ∧ (w6.setCell ⟨w.heap.size + 1, 1, none⟩ (.slice a1 256 c1)).ownsRow (w.heap.size + 2) 2 1 (.slice a1 256 c1) 256 (nums (mmR R)) ∧ (w6.setCell ⟨w.heap.size + 1, 1, none⟩ (.slice a1 256 c1)).ownsRow (w.heap.size + 2) 2 1 (.slice a0 32 c0) 32 (nums (rgR R))) := by
    have f : Fr (One (w.heap.size + 1)) w6 (w6.setCell ⟨w.heap.size + 1, 1, none⟩ (.slice a1 256 c1)) := (Fr.refl (One (w.heap.size + 1)) _).setCell (.inr rfl) _ _
    have g : ∀ (B : Nat) (v : Value) (n : Nat) (xs : List Value), w.heap.size + 2 ≤ B → w6.ownsRow B 2 1 v n xs → (w6.setCell ⟨w.heap.size + 1, 1, none⟩ (.slice a1 256 c1)).ownsRow B 2 1 v n xs := fun B v n xs hB hr => row_fr hr f fun b e e2 => by
      have e2 : b = w.heap.size + 1 := e2
      have := (hr.lt b e).1
      omega
    exact ⟨HS1.out.1.set1, g _ _ _ _ (Nat.le_refl _) HS1.out.2.1, g _ _ _ _ (Nat.le_refl _) HS1.out.2.2⟩
  refine hK.out _ _ HT1.out.1.up (fun hHeld => ?_)
  clear hK K z0 zl zf
  refine wpAnyH_done (by kernel_rfl) ?_ _
  clear hHeld HS1
  generalize (w6.setCell ⟨w.heap.size + 1, 1, none⟩ (.slice a1 256 c1)) = Z at *
  have z0 := HT1.out.1.b.c 0 _ rfl
  have z1 := HT1.out.1.b.c 1 _ rfl
  have zl := HT1.out.1.b.lt
  have y0 := HT1.out.1.a.c 0 _ rfl
  have y1 := HT1.out.1.a.c 1 _ rfl
  have yl := HT1.out.1.a.lt
  have yf := HT1.out.1.a.f
  go_wp2_with fail
  have f3 : Fr (One w.heap.size) Z ((Z.setCell ⟨w.heap.size, 0, none⟩ (.slice a0 32 c0)).setCell ⟨w.heap.size, 1, none⟩ (.slice a1 256 c1)) := ((Fr.refl (One w.heap.size) Z).setCell (.inr rfl) _ _).setCell (.inr rfl) _ _
  have HY : At ((Z.setCell ⟨w.heap.size, 0, none⟩ (.slice a0 32 c0)).setCell ⟨w.heap.size, 1, none⟩ (.slice a1 256 c1)) w.heap.size #[.slice a0 32 c0, .slice a1 256 c1] := At.setk (k := 1) (At.setk (k := 0) HT1.out.1.a (by simp)) (by simp)
  have k0 := HY.c 0 _ rfl
  have k1 := HY.c 1 _ rfl
  have kB : Below w.heap.size w ((Z.setCell ⟨w.heap.size, 0, none⟩ (.slice a0 32 c0)).setCell ⟨w.heap.size, 1, none⟩ (.slice a1 256 c1)) := HT1.out.1.up.trans (f3.below HT1.out.1.up.size fun b hb e => by have e : b = w.heap.size := e; omega)
  have r0 := row_fr HT1.out.2.2 f3 fun b e e2 => by have e2 : b = w.heap.size := e2; have := (HT1.out.2.2.lt b e).1; omega
  have r1 := row_fr HT1.out.2.1 f3 fun b e e2 => by have e2 : b = w.heap.size := e2; have := (HT1.out.2.1.lt b e).1; omega
  clear f3 HY
  generalize ((Z.setCell ⟨w.heap.size, 0, none⟩ (.slice a0 32 c0)).setCell ⟨w.heap.size, 1, none⟩ (.slice a1 256 c1)) = V at *
  exact bodyPost_ret (v := .agg #[.slice a0 32 c0, .slice a1 256 c1]) (by simp [results, Tryd.results15, go_sem, k0, k1]) rfl ⟨_, _, _, _, rfl, row_le r0 (by omega), row_le r1 (by omega), kB⟩
end
end Go.Proofs.YtldfjlepbbmhnaaDoor.Pp
