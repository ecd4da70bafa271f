/- What a run tells (Run), and rows of numbers laid anew (Clone), read off the program by the walk. Conditions: the machine lies in memory. -/
import Derived.Test.YtldfjlepbbmhnaaDoorQi
namespace Go.Proofs.YtldfjlepbbmhnaaDoor.Pp
open Go.ChangeShapes Go.WideShapes Go.ChangeAt Go.RowKit
open _root_.Go.Proofs.YtldfjlepbbmhnaaDoor.Op _root_.Go.Proofs.YtldfjlepbbmhnaaDoor.So _root_.Go.Proofs.YtldfjlepbbmhnaaDoor.Bu
open _root_.Go.Proofs.YtldfjlepbbmhnaaDoor.Tb (Tab TabAt Bnds)
set_option maxRecDepth 20000

section
variable {W : World} {t : Tab} {bs : List Bn} {H : Hx} {S : PM}
theorem bdM_ok (t : Tab) : ∀ (l : List (O × Nat)) {S : PM} {L : Nat}, S.Ok L → (∀ p ∈ l, OkM p.1) → (bdM t S l).1.Ok (L + l.length) ∧ (bdM t S l).1.s = S.s ∧ (bdM t S l).1.e = S.e ∧ (bdM t S l).1.a = S.a
  | [], S, L, h, _ => ⟨h, rfl, rfl, rfl⟩
  | p :: l, S, L, h, ho => by
    unfold bdM
    cases e : isE S p.1 with
    | some z => exact ⟨h.mono (by omega), rfl, rfl, rfl⟩
    | none =>
      have hp := ho p (by simp)
      have h1 := bdM_ok t l (isM_ok t (S.s + (t.l p.2).toNat) h hp.ok hp.k) fun q hq => ho q (by simp [hq])
      have h2 := isM_s (S := S) t p.1 (S.s + (t.l p.2).toNat)
      exact ⟨h1.1.mono (by simp; omega), h1.2.1.trans h2.1, h1.2.2.1.trans h2.2.2, h1.2.2.2.trans h2.2.1⟩
theorem restO_mem {x : Bn} {p : O × Nat} : ∀ n, n ≤ 4 → p ∈ restO x n → ∃ k, k < 4 ∧ p.1 ∈ x.l k
  | 0, _, h => by cases h
  | n + 1, hn, h => by
    rcases List.mem_append.1 h with h | h
    · obtain ⟨o, ho, rfl⟩ := List.mem_map.1 h
      exact ⟨3 - n, by omega, ho⟩
    · exact restO_mem n (by omega) h
theorem restO_len {x : Bn} (h : ∀ k, k < 4 → (x.l k).length ≤ 128) : ∀ n, n ≤ 4 → (restO x n).length ≤ 128 * n
  | 0, _ => by simp [restO]
  | n + 1, hn => by
    have h1 := restO_len h n (by omega)
    have h2 := h (3 - n) (by omega)
    show (clsO x (3 - n) ++ restO x n).length ≤ _
    rw [List.length_append]
    unfold clsO
    rw [List.length_map]
    omega
theorem landM_s (S : PM) : (landM S).s = S.s ∧ (landM S).e = S.e := by
  unfold landM
  have : ∀ (l : List F) (T : PM), (l.foldl ld1 T).s = T.s ∧ (l.foldl ld1 T).e = T.e := fun l => by
    induction l with
    | nil => exact fun _ => ⟨rfl, rfl⟩
    | cons y l ih => exact fun T => ⟨(ih (ld1 T y)).1.trans (ld1_s T y).1, (ih (ld1 T y)).2.trans (ld1_s T y).2.2.2⟩
  exact this _ _
theorem cyM_ok {L : Nat} (h : S.Ok L) (hB : Bo t bs) : (cyM t bs S).1.Ok (L + 512) ∧ (cyM t bs S).1.s ≤ S.s + 1 := by
  have h1 := landM_ok h
  have h2 := landM_s S
  unfold cyM
  by_cases ha : 0 ≤ (landM S).a ∧ (landM S).a < (bs.length : Int)
  · rw [if_pos ha]
    have hi : (landM S).a.toNat < bs.length := by omega
    rw [show bs.getD (landM S).a.toNat ⟨fun _ => []⟩ = bs[(landM S).a.toNat] by rw [List.getD_eq_getElem?_getD, List.getElem?_eq_getElem hi]; rfl]
    have hm : bs[(landM S).a.toNat] ∈ bs := List.getElem_mem hi
    generalize bs[(landM S).a.toNat] = x at *
    have ho := bdM_ok t (restO x 4) h1 fun p hp => by
      obtain ⟨k, hk, hx⟩ := restO_mem 4 (by decide) hp
      exact hB.o x hm k hk _ hx
    have hl := restO_len (hB.n x hm) 4 (by decide)
    generalize bdM t (landM S) (restO x 4) = R at *
    obtain ⟨S2, z⟩ := R
    have o2 := ho.1
    have s2 := ho.2.1
    have a2 := ho.2.2.2
    dsimp only at o2 s2 a2
    cases z with
    | some z => exact ⟨o2.mono (by omega), by show S2.s ≤ _; omega⟩
    | none =>
      refine ⟨⟨o2.r, o2.m, ?_, o2.c0, o2.c1, o2.f, fun k => Nat.le_trans (o2.l k) (by omega), Nat.le_trans o2.p (by omega)⟩, by show S2.s + 1 ≤ _; omega⟩
      show I64 (S2.a + 1)
      have hb := hB.b
      unfold I64
      omega
  · rw [if_neg ha]
    exact ⟨⟨h1.r, h1.m, h1.a, h1.c0, h1.c1, h1.f, fun k => Nat.le_trans (h1.l k) (by omega), Nat.le_trans h1.p (by omega)⟩, by show (landM S).s ≤ _; omega⟩
theorem ta_nil (w : World) : (Instr.typeAssert .nilIface 20 109 true).run Tryd.prog w = .ok (.tuple #[.agg #[.int .i64 0, .int .i64 0], .bool false]) w := by kernel_rfl
theorem ta_hit (z : Int × Int) (w : World) : (Instr.typeAssert (.iface 109 (.agg #[.int .i64 z.1, .int .i64 z.2])) 20 109 true).run Tryd.prog w = .ok (.tuple #[.agg #[.int .i64 z.1, .int .i64 z.2], .bool true]) w := by kernel_rfl
theorem rep25 : Array.replicate 25 undef = #[undef, undef, undef, undef, undef, undef, undef, undef, undef, undef, undef, undef, undef, undef, undef, undef, undef, undef, undef, undef, undef, undef, undef, undef, undef] := rfl
set_option maxHeartbeats 1000000 in
theorem catch_idle (p : Addr) (w : World) : CallsD Tryd.prog 47 #[.pointer (some p)] .returning w fun e u' w' => e = .returned (.tuple #[]) ∧ u' = .returning ∧ Below w.heap.size w w' := by
  refine callsD_of_wpS Tryd.func47 rfl fun c₀ cs hu => ?_
  apply wpS_seq
  apply wpS_region
  simp [wpOpsS, go_sem, recoverD, hu, Tryd.ntmps47, Exit.thenS, ta_nil, Oper.upon, Result.andThen, rep25]
  apply wpS_seq
  apply wpS_region
  simp [wpOpsS, go_sem, Exit.thenS]
  refine wpS_cond (t := false) (by simp [Act.eval]) ?_
  simp only [Bool.false_eq_true, if_false]
  refine wpS_of_wp (wp_skip ?_)
  cases c₀
  simp_all [bodyPostS, results, Tryd.results47]
  exact (Below.refl _ _).alloc (Nat.le_refl _) _
set_option maxHeartbeats 2000000 in
theorem catch_panic {w : World} (n : Nat) (z : Int × Int) (h : Mch w t bs H S) (hn : w.cell? ⟨n, 0, none⟩ = some (ptr H.mb)) (h1 : n < w.heap.size) (hno : n ≠ H.mb) (hs : S.s ≤ 1000000000000) : CallsD Tryd.prog 47 #[.pointer (some ⟨n, 0, none⟩)] (.panicking [{ v := .iface 109 (.agg #[.int .i64 z.1, .int .i64 z.2]), recovered := false }]) w fun e u' w' => e = .returned (.tuple #[]) ∧ u' = .panicking [{ v := .iface 109 (.agg #[.int .i64 z.1, .int .i64 z.2]), recovered := true }] ∧ Mch w' t bs H (endM S z) ∧ Tn w H w' H := by
  have hbx : w.heap.size ≠ H.mb := fun e => by have := h.c.lt; omega
  have g : Below w.heap.size w (w.alloc (.cells #[.int .i64 z.1, .int .i64 z.2] 109)) := (Below.refl _ _).alloc (Nat.le_refl _) _
  have HX : Hid (Mch (w.alloc (.cells #[.int .i64 z.1, .int .i64 z.2] 109)) t bs H S ∧ Tn w H (w.alloc (.cells #[.int .i64 z.1, .int .i64 z.2] 109)) H) := ⟨h.up g, Tn.of g⟩
  refine callsD_of_wpS Tryd.func47 rfl fun c₀ cs hu => ?_
  apply wpS_seq
  apply wpS_region
  simp [wpOpsS, go_sem, recoverD, hu, Tryd.ntmps47, Exit.thenS, ta_hit, Oper.upon, Result.andThen, rep25]
  refine wpS_of_wp ?_
  have HA : Hid (At (w.alloc (.cells #[.int .i64 z.1, .int .i64 z.2] 109)) w.heap.size #[.int .i64 z.1, .int .i64 z.2]) := At.new _ _ _
  have x0 : (w.alloc (.cells #[.int .i64 z.1, .int .i64 z.2] 109)).cell? ⟨n, 0, none⟩ = some (ptr H.mb) := by rw [(bcell g).1 _ _ h1]; exact hn
  have xl : n < (w.alloc (.cells #[.int .i64 z.1, .int .i64 z.2] 109)).heap.size := Nat.lt_of_lt_of_le h1 g.size
  clear hn h1 g h
  generalize (w.alloc (.cells #[.int .i64 z.1, .int .i64 z.2] 109)) = X at *
  have y0 := HA.out.c 0 _ rfl
  have y1 := HA.out.c 1 _ rfl
  have yl := HA.out.lt
  have e0 := HX.out.1.c.e
  have e1 := HX.out.1.c.v
  have e2 := HX.out.1.c.s
  have ez := HX.out.1.c.fz
  have el := HX.out.1.c.lt
  have hs1 : (S.s : Int) ≤ 1000000000000 := by omega
  have HG : Hid (∀ V, V = (((X.setCell ⟨H.mb, 312, none⟩ (.int .i64 z.1)).setCell ⟨H.mb, 313, none⟩ (.int .i64 z.2)).setCell ⟨H.mb, 315, none⟩ (.int .i64 ((S.s : Int) + 1))).drew → Mch V t bs H (endM S z) ∧ Tn w H V H) := fun V hV => by
    subst hV
    have f1 := HX.out.1.one (HX.out.1.c.setE z.1) ((Fr.refl (One H.mb) _).setCell (.inr rfl) _ _) rfl rfl
    have f2 := f1.1.one (f1.1.c.setV z.2) ((Fr.refl (One H.mb) _).setCell (.inr rfl) _ _) rfl rfl
    have f3 := f2.1.one (f2.1.c.setS (S.s + 1)) ((Fr.refl (One H.mb) _).setCell (.inr rfl) _ _) rfl rfl
    have tn := HX.out.2.trans (f1.2.trans (f2.2.trans f3.2))
    have hm := f3.1
    rw [show ((S.s + 1 : Nat) : Int) = (S.s : Int) + 1 by omega] at hm tn
    exact ⟨hm.up (drew_up _), tn.up (drew_up _)⟩
  have hbn : w.heap.size ≠ H.mb := hbx
  have HS : Hid (∀ V, Fr (One H.mb) X V → (n < V.heap.size ∧ V.cell? ⟨n, 0, none⟩ = some (ptr H.mb)) ∧ At V w.heap.size #[.int .i64 z.1, .int .i64 z.2]) := fun V hV => ⟨⟨Nat.lt_of_lt_of_le xl hV.size, by rw [hV.cell xl hno]; exact x0⟩, At.frb HA.out hV hbn⟩
  clear HX HA y0 y1 yl
  go_upto_region 2 with fail
  refine wp_region_held_drew (S := fun W' => (n < W'.heap.size ∧ W'.cell? ⟨n, 0, none⟩ = some (ptr H.mb)) ∧ At W' w.heap.size #[.int .i64 z.1, .int .i64 z.2]) (by kernel_rfl) (HS.out _ (Fr.refl _ X).drew) (fun hHeld => ?_)
  refine wpAnyH_take (i := 0) (v := ptr H.mb) rfl (by kernel_rfl) (by kernel_rfl) (by kernel_rfl) (fun _ _ _ h => h) (Or.inl ⟨by rfl, fun w' hSw => by (have q := hSw.1.2; have ql := hSw.1.1; go_simp)⟩) hHeld ?_
  simp only [Act.put, List.setIfInBounds_toArray, List.set_cons_zero, List.set_cons_succ, List.getElem_cons_zero, List.getElem_toArray]
  refine wpAnyH_take (i := 1) (v := ptr H.mb) rfl (by kernel_rfl) (by kernel_rfl) (by kernel_rfl) (fun _ _ _ h => h) (Or.inl ⟨by rfl, fun w' hSw => by (have q := hSw.1.2; have ql := hSw.1.1; go_simp)⟩) hHeld ?_
  simp only [Act.put, List.setIfInBounds_toArray, List.set_cons_zero, List.set_cons_succ, List.getElem_cons_zero, List.getElem_cons_succ, List.getElem_toArray]
  refine wpAnyH_take (i := 2) (v := .pointer (some ⟨w.heap.size, 0, none⟩)) rfl (by kernel_rfl) (by kernel_rfl) (by kernel_rfl) (fun _ _ _ h => h) (Or.inl ⟨by rfl, fun w' hSw => by (go_simp)⟩) hHeld ?_
  simp only [Act.put, List.setIfInBounds_toArray, List.set_cons_zero, List.set_cons_succ, List.getElem_cons_zero, List.getElem_cons_succ, List.getElem_toArray]
  refine wpAnyH_take (i := 3) (v := .int .i64 z.1) rfl (by kernel_rfl) (by kernel_rfl) (by kernel_rfl) (fun _ _ _ h => h) (Or.inl ⟨by rfl, fun w' hSw => by (have y0 := hSw.2.c 0 _ rfl; have y1 := hSw.2.c 1 _ rfl; have yl := hSw.2.lt; go_simp)⟩) hHeld ?_
  simp only [Act.put, List.setIfInBounds_toArray, List.set_cons_zero, List.set_cons_succ, List.getElem_cons_zero, List.getElem_cons_succ, List.getElem_toArray]
  refine wpAnyH_take (i := 4) (v := .pointer (some ⟨w.heap.size, 1, none⟩)) rfl (by kernel_rfl) (by kernel_rfl) (by kernel_rfl) (fun _ _ _ h => h) (Or.inl ⟨by rfl, fun w' hSw => by (go_simp)⟩) hHeld ?_
  simp only [Act.put, List.setIfInBounds_toArray, List.set_cons_zero, List.set_cons_succ, List.getElem_cons_zero, List.getElem_cons_succ, List.getElem_toArray]
  refine wpAnyH_take (i := 5) (v := .int .i64 z.2) rfl (by kernel_rfl) (by kernel_rfl) (by kernel_rfl) (fun _ _ _ h => h) (Or.inl ⟨by rfl, fun w' hSw => by (have y0 := hSw.2.c 0 _ rfl; have y1 := hSw.2.c 1 _ rfl; have yl := hSw.2.lt; go_simp)⟩) hHeld ?_
  simp only [Act.put, List.setIfInBounds_toArray, List.set_cons_zero, List.set_cons_succ, List.getElem_cons_zero, List.getElem_cons_succ, List.getElem_toArray]
  refine wpAnyH_take (i := 6) (v := ptr H.mb) rfl (by kernel_rfl) (by kernel_rfl) (by kernel_rfl) (fun _ _ _ h => h) (Or.inl ⟨by rfl, fun w' hSw => by (go_simp)⟩) hHeld ?_
  simp only [Act.put, List.setIfInBounds_toArray, List.set_cons_zero, List.set_cons_succ, List.getElem_cons_zero, List.getElem_cons_succ, List.getElem_toArray]
  refine wpAnyH_take (i := 7) (v := .pointer (some ⟨H.mb, 312, none⟩)) rfl (by kernel_rfl) (by kernel_rfl) (by kernel_rfl) (fun _ _ _ h => h) (Or.inl ⟨by rfl, fun w' hSw => by (go_simp)⟩) hHeld ?_
  simp only [Act.put, List.setIfInBounds_toArray, List.set_cons_zero, List.set_cons_succ, List.getElem_cons_zero, List.getElem_cons_succ, List.getElem_toArray]
  refine wpAnyH_ready (rs := [8]) (by kernel_rfl) (by simp) ?_
  refine AllReadyH.cons rfl (fun K hK => ?_) AllReadyH.nil
  go_simp
  refine hK.out _ _ (HS.out _ (((Fr.refl (One H.mb) X).setCell (.inr rfl) _ _).drew)) (fun hHeld => ?_)
  clear hK K
  refine wpAnyH_take (i := 9) (v := ptr H.mb) rfl (by kernel_rfl) (by kernel_rfl) (by kernel_rfl) (fun _ _ _ h => h) (Or.inl ⟨by rfl, fun w' hSw => by (go_simp)⟩) hHeld ?_
  simp only [Act.put, List.setIfInBounds_toArray, List.set_cons_zero, List.set_cons_succ, List.getElem_cons_zero, List.getElem_cons_succ, List.getElem_toArray]
  refine wpAnyH_take (i := 10) (v := .pointer (some ⟨H.mb, 313, none⟩)) rfl (by kernel_rfl) (by kernel_rfl) (by kernel_rfl) (fun _ _ _ h => h) (Or.inl ⟨by rfl, fun w' hSw => by (go_simp)⟩) hHeld ?_
  simp only [Act.put, List.setIfInBounds_toArray, List.set_cons_zero, List.set_cons_succ, List.getElem_cons_zero, List.getElem_cons_succ, List.getElem_toArray]
  refine wpAnyH_ready (rs := [11]) (by kernel_rfl) (by simp) ?_
  refine AllReadyH.cons rfl (fun K hK => ?_) AllReadyH.nil
  go_simp
  refine hK.out _ _ (HS.out _ ((((Fr.refl (One H.mb) X).setCell (.inr rfl) _ _).setCell (.inr rfl) _ _).drew)) (fun hHeld => ?_)
  clear hK K
  refine wpAnyH_done (by kernel_rfl) ?_ _
  clear hHeld
  go_wp2_with fail
  simp [bodyPostS, results, Tryd.results47]
  exact HG.out _ rfl
end
end Go.Proofs.YtldfjlepbbmhnaaDoor.Pp
namespace Go.Proofs.YtldfjlepbbmhnaaDoor.Pp
open Go.ChangeShapes Go.WideShapes Go.ChangeAt Go.RowKit
open _root_.Go.Proofs.YtldfjlepbbmhnaaDoor.Op _root_.Go.Proofs.YtldfjlepbbmhnaaDoor.So _root_.Go.Proofs.YtldfjlepbbmhnaaDoor.Bu
open _root_.Go.Proofs.YtldfjlepbbmhnaaDoor.Tb (Tab TabAt Bnds)
set_option maxRecDepth 20000

/-- The machine under way, with the box that the catcher reads. -/
structure Gs (w wr : World) (t : Tab) (bs : List Bn) (H H1 : Hx) (S1 : PM) : Prop where
  mm : Mch wr t bs H1 S1
  tn : Tn w H wr H1
  bx : wr.cell? ⟨w.heap.size, 0, none⟩ = some (ptr H.mb)
  bl : w.heap.size < wr.heap.size
  bt : ¬ own H1 w.heap.size
section
variable {w wr w2 : World} {t : Tab} {bs : List Bn} {H H1 H2 : Hx} {S S1 S2 : PM}
theorem Gs.go (h : Gs w wr t bs H H1 S1) (hm : Mch w2 t bs H2 S2) (htn : Tn wr H1 w2 H2) : Gs w w2 t bs H H2 S2 :=
  ⟨hm, h.tn.trans htn, (htn.f.cell h.bl h.bt 0).trans h.bx, Nat.lt_of_lt_of_le h.bl htn.f.size, fun h' => (htn.t _ h').elim h.bt fun h'' => by have := h.bl; omega⟩
theorem Gs.up (h : Gs w wr t bs H H1 S1) (hb : Below wr.heap.size wr w2) : Gs w w2 t bs H H1 S1 := h.go (h.mm.up hb) (Tn.of hb)
theorem run_zero (t : Tab) (bs : List Bn) (S : PM) : runM t bs 0 S = S := rfl
theorem run_over (t : Tab) (bs : List Bn) {S : PM} (h : S.e ≠ 100) (k : Nat) : runM t bs k S = S := by
  cases k with
  | zero => rfl
  | succ k => unfold runM; rw [if_neg h]
theorem run_some (t : Tab) (bs : List Bn) {S S' : PM} {z : Int × Int} (h : S.e = 100) (e : cyM t bs S = (S', some z)) (k : Nat) : runM t bs (k + 1) S = endM S' z := by unfold runM; rw [if_pos h, e]
theorem run_none (t : Tab) (bs : List Bn) {S S' : PM} (h : S.e = 100) (e : cyM t bs S = (S', none)) (k : Nat) : runM t bs (k + 1) S = runM t bs k S' := by
  rw [runM, if_pos h, e]
set_option maxHeartbeats 4000000 in
theorem goOn_any (n L : Nat) (h : Mch w t bs H S) (hS : S.Ok L) (hB : Bo t bs) (hs : S.s + n ≤ 10000000000) (hL : L + 512 * n ≤ 100000000) : Calls Tryd.prog 28 #[ptr H.mb, .int .i64 (n : Int)] w fun e w' => e = .returned (.tuple #[]) ∧ ∃ H', Mch w' t bs H' (runM t bs n S) ∧ Tn w H w' H' := by
  have hmf : ∀ (fn : Fn) (first cap : Array Value) (w : World), (Instr.makeFunc fn first cap).run Tryd.prog w = .ok (.func fn first cap) w := fun _ _ _ _ => rfl
  have hq := h.c.lt
  have HG : Hid (Gs w (w.alloc (.cells #[ptr H.mb] 37)) t bs H H S) := ⟨h.up ((Below.refl _ _).alloc (Nat.le_refl _) _), Tn.of ((Below.refl _ _).alloc (Nat.le_refl _) _), (At.new w #[ptr H.mb] 37).c 0 _ rfl, by simp, fun e => by
    rcases e with e | ⟨i, hi, e⟩ | e
    · omega
    · have := ((h.rr i hi).lt _ e).2; omega
    · have := (h.pp.lt _ e).2; omega⟩
  have HB : Hid (Bo t bs) := hB
  clear h hB
  go_enter_defers Tryd.func28, Tryd.ntmps28
  go_wp2_with fail
  go_loopw [1] (fun i wr => ∃ (k L1 : Nat) (H1 : Hx) (S1 : PM), i = .int .i64 k ∧ Gs w wr t bs H H1 S1 ∧ runM t bs k S1 = runM t bs n S ∧ S1.s + k ≤ 10000000000 ∧ S1.Ok L1 ∧ L1 + 512 * k ≤ 100000000) (fun i _ => (intOf i).toNat)
  case atStart => exact ⟨n, L, H, S, rfl, HG.out, rfl, hs, hS, hL⟩
  case round =>
    rename_i wr
    obtain ⟨k, L1, H1, S1, rfl, hg, hrun, hbd, hok, hL1⟩ := hrel
    have me := hg.mm.c.e
    have ml := hg.mm.c.lt
    have mq := hg.tn.q
    rw [mq] at me ml
    have bx := hg.bx
    have bl := hg.bl
    cases k with
    | zero =>
      have HY : Hid (Gs w wr t bs H H1 S1) := hg
      have HF : Hid (runM t bs 0 S1 = runM t bs n S) := hrun
      clear hg hrun hbd hok hL1 HG mq
      go_wp2_with fail
      refine leaves_cons (f := 47) (args := #[.pointer (some ⟨w.heap.size, 0, none⟩)]) (by simp) (by simp [go_sem]) ?_
      refine (catch_idle ⟨w.heap.size, 0, none⟩ _).mono ?_
      rintro e u' w'' ⟨rfl, rfl, hb2⟩
      have hy := HY.out.up hb2
      simp [Leaves, settle, results, Tryd.results28, go_sem]
      exact ⟨H1, by rw [← HF.out]; exact hy.mm, hy.tn⟩
    | succ k =>
      have hk0 : (0 : Int) < ((k + 1 : Nat) : Int) := by omega
      have hkc : ((k + 1 : Nat) : Int) = (k : Int) + 1 := by omega
      have hkb : (k : Int) ≤ 10000000000 := by omega
      by_cases he : S1.e = 100
      · rw [he] at me
        have hcy : Calls Tryd.prog 48 #[ptr H.mb] wr fun e w' => CyP wr t bs H1 (cyM t bs S1) e w' := by
          have := cycle_any hg.mm hok HB.out (by omega) (by omega)
          rw [mq] at this
          exact this
        have hco := cyM_ok hok HB.out
        generalize hR : cyM t bs S1 = R at *
        obtain ⟨S', z⟩ := R
        cases z with
        | none =>
          have HN : Hid (Calls Tryd.prog 48 #[ptr H.mb] wr fun e w' => e = .returned (.tuple #[]) ∧ ∃ H', Mch w' t bs H' S' ∧ Tn wr H1 w' H') := hcy
          have HF : Hid (runM t bs k S' = runM t bs n S) := by
            show runM t bs k S' = runM t bs n S
            rw [← hrun, run_none t bs he hR]
          have HW : Hid (Gs w wr t bs H H1 S1) := hg
          have HO : Hid (S'.Ok (L1 + 512) ∧ S'.s + k ≤ 10000000000 ∧ L1 + 512 + 512 * k ≤ 100000000) := ⟨hco.1, by have := hco.2; dsimp only at this; omega, by omega⟩
          clear hg hrun hbd hok hL1 HG hcy hco hR he mq
          rw [hkc] at hk0 ⊢
          clear hkc
          go_wp2_with (first | (go_at_call 48; refine Calls.mono HN.out ?_; rintro e w1 ⟨rfl, H2, m2, t2⟩; have HY : Hid (Gs w w1 t bs H H2 S') := HW.out.go m2 t2; clear m2 t2))
          go_roundw
          case rel => exact ⟨k, L1 + 512, H2, S', by go_num, HY.out, HF.out, HO.out.2.1, HO.out.1, HO.out.2.2⟩
          case measure => simp [intOf]
        | some z =>
          have HN : Hid (Calls Tryd.prog 48 #[ptr H.mb] wr fun e w' => e = .panicked [{ v := .iface 109 (.agg #[.int .i64 z.1, .int .i64 z.2]), recovered := false }] ∧ ∃ H', Mch w' t bs H' S' ∧ Tn wr H1 w' H') := hcy
          have HF : Hid (endM S' z = runM t bs n S) := by
            show endM S' z = runM t bs n S
            rw [← hrun, run_some t bs he hR]
          have HW : Hid (Gs w wr t bs H H1 S1) := hg
          have hs' : S'.s ≤ 1000000000000 := by have := hco.2; dsimp only at this; omega
          have HQ : Hid (w.heap.size ≠ H.mb) := fun e => by omega
          clear hg hrun hbd hok hL1 HG hcy hco hR he mq
          rw [hkc] at hk0 ⊢
          clear hkc
          go_wp2_with (first | (go_at_call 48; refine Calls.mono HN.out ?_; rintro e w1 ⟨rfl, H2, m2, t2⟩; have HY : Hid (Gs w w1 t bs H H2 S') := HW.out.go m2 t2; clear m2 t2))
          all_goals
            have hy := HY.out
            refine leaves_cons (f := 47) (args := #[.pointer (some ⟨w.heap.size, 0, none⟩)]) (by simp) (by simp [go_sem]) ?_
            refine (catch_panic w.heap.size z hy.mm (by rw [hy.tn.q]; exact hy.bx) hy.bl (by rw [hy.tn.q]; exact HQ.out) hs').mono ?_
            rintro e u' w'' ⟨rfl, rfl, m3, t3⟩
            simp [Leaves, settle, results, Tryd.results28, go_sem]
            exact ⟨H2, by rw [← HF.out]; exact m3, hy.tn.trans t3⟩
      · have HY : Hid (Gs w wr t bs H H1 S1) := hg
        have HF : Hid (S1 = runM t bs n S) := by
          show S1 = runM t bs n S
          rw [← hrun, run_over t bs he]
        have he' : (S1.e == 100) = false := by simpa using he
        clear hg hrun hbd hok hL1 HG he mq
        rw [hkc] at hk0 ⊢
        clear hkc
        go_wp2_with fail
        refine leaves_cons (f := 47) (args := #[.pointer (some ⟨w.heap.size, 0, none⟩)]) (by simp) (by simp [go_sem]) ?_
        refine (catch_idle ⟨w.heap.size, 0, none⟩ _).mono ?_
        rintro e u' w'' ⟨rfl, rfl, hb2⟩
        have hy := HY.out.up hb2
        simp [Leaves, settle, results, Tryd.results28, go_sem]
        exact ⟨H1, by rw [← HF.out]; exact hy.mm, hy.tn⟩
end
end Go.Proofs.YtldfjlepbbmhnaaDoor.Pp
namespace Go.Proofs.YtldfjlepbbmhnaaDoor.Pp
open Go.ChangeShapes Go.WideShapes Go.ChangeAt Go.RowKit
open _root_.Go.Proofs.YtldfjlepbbmhnaaDoor.Op _root_.Go.Proofs.YtldfjlepbbmhnaaDoor.So _root_.Go.Proofs.YtldfjlepbbmhnaaDoor.Bu
open _root_.Go.Proofs.YtldfjlepbbmhnaaDoor.Tb (Tab TabAt Bnds)
set_option maxRecDepth 20000

theorem add_at' (b f j : Nat) : (⟨b, f, none⟩ : Addr).add j = ⟨b, f + j, none⟩ := by simp [Addr.add]
theorem eq_nil26 (a : Addr) (n cap : Nat) (w : World) : (binOp .eql 26 (.slice (some a) n cap) (.slice none 0 0)).run Tryd.prog w = .ok (.bool false) w := by kernel_rfl
theorem eq_none26 (w : World) : (binOp .eql 26 (.slice none 0 0) (.slice none 0 0)).run Tryd.prog w = .ok (.bool true) w := by kernel_rfl
/-- A row that is laid anew. -/
structure Cf (w w' : World) (v : Value) (n : Nat) (cs : List Value) : Prop where
  r : w'.ownsRow w.heap.size 2 1 v n cs
  b : Below w.heap.size w w'
set_option maxHeartbeats 2000000 in
theorem clone_some (a : Addr) (n cap : Nat) (cs : List Value) (w : World) (hl : n ≤ 1000000000000) (hc : cs.length = n * 1) (h1 : ∀ u, u ∈ cs → u.oneCell' = true) (hn : ∀ j u, cs[j]? = some u → w.cell? (a.add j) = some u) :
    Calls Tryd.prog 29 #[.slice (some a) n cap] w fun e w' => ∃ v, e = .returned v ∧ Cf w w' v n cs := by
  obtain ⟨i0, hi, hi2⟩ := Option.map_eq_some_iff.1 info2b
  simp only [Prod.mk.injEq] at hi2
  have HI : Hid (Tryd.prog.info? 2 = some i0 ∧ i0.zero = some (.int .i64 0) ∧ i0.size = 1 ∧ i0.bytes = 8) := ⟨hi, hi2.1, hi2.2.1, hi2.2.2⟩
  clear hi hi2
  have HN : Hid _ := hn
  have H1 : Hid _ := h1
  clear hn h1
  have hnil := eq_nil26 a n cap
  go_enter Tryd.func29, Tryd.ntmps29
  go_wp2_with (first
    | (at_builtin; refine wpList_append_own _ rfl (.tmp 5) (.tmp 6) 26 rfl w.heap.size 2 i0 (.int .i64 0) 1 8 Tryd.underlying26 HI.out.1 HI.out.2.1 HI.out.2.2.1 HI.out.2.2.2 rfl (by decide) _ 0 [] rfl ?ho a n cap cs rfl hc ?hn H1.out (by unfold maxLen; omega) (by omega) (by simp) ?_; (case ho => exact World.ownsRow_made w #[] 0 (Nat.le_refl _) (by decide) rfl); (case hn => exact fun j u hj => (World.cell?_alloc_some _ _ _ (by rw [HN.out j u hj]; rfl)).trans (HN.out j u hj)); intro v' w2 hown2 hgrow2 hnil2; have HF : Hid (Cf w w2 v' n cs) := ⟨(by have := hown2; simp only [Nat.zero_add, List.nil_append] at this; exact this), ((Below.refl _ _).alloc (Nat.le_refl _) _).grown hgrow2 (by simp) (fun b hb => by cases hb; exact Nat.le_refl _)⟩; clear hown2 hgrow2 hnil2))
  go_ret
  exact ⟨_, rfl, HF.out⟩
theorem clone_none (w : World) : Calls Tryd.prog 29 #[.slice none 0 0] w fun e w' => e = .returned (.slice none 0 0) ∧ w' = w := by
  have hnil := eq_none26
  go_enter Tryd.func29, Tryd.ntmps29
  go_wp2_with fail
  go_ret
  exact ⟨rfl, rfl⟩
theorem clone_row (v : Value) (l : List Int) (w : World) (hl : l.length ≤ 1000000000000) (h : w.ownsRow 0 2 1 v l.length (l.map fun x => .int .i64 x)) :
    Calls Tryd.prog 29 #[v] w fun e w' => ∃ v', e = .returned v' ∧ Cf w w' v' l.length (l.map fun x => .int .i64 x) := by
  rcases h.2 with ⟨h1, h2⟩ | ⟨g, cap, cur, h1, h2, h3⟩
  · obtain rfl : l = [] := List.eq_nil_of_length_eq_zero h2
    rw [h1]
    refine (clone_none w).mono ?_
    rintro e w' ⟨rfl, rfl⟩
    exact ⟨_, rfl, World.ownsRow_nil _ _ _ _, Below.refl _ _⟩
  · subst h1
    have hc := h.cells (g := g) rfl
    exact clone_some ⟨g, 0, none⟩ l.length cap _ w hl (by simp) (fun u hu => by obtain ⟨x, -, rfl⟩ := List.mem_map.1 hu; rfl) hc
section
variable {w : World} {t : Tab} {bs : List Bn} {H : Hx} {S : PM}
/-- The cells, laid anew. -/
theorem clone_mem (h : MC w t bs.length H S) : Calls Tryd.prog 29 #[.slice (some ⟨H.mb, 46, none⟩) 256 256] w fun e w' => ∃ v', e = .returned v' ∧ Cf w w' v' 256 ((List.range 256).map fun k => .int .i64 (S.m k)) :=
  clone_some ⟨H.mb, 46, none⟩ 256 256 _ w (by decide) (by simp) (fun u hu => by obtain ⟨x, -, rfl⟩ := List.mem_map.1 hu; rfl) fun j u hj => by
    have hj' : j < 256 := by have := (List.getElem?_eq_some_iff.1 hj).1; simpa using this
    rw [List.getElem?_map, List.getElem?_range hj'] at hj
    injection hj with hj
    rw [← hj, add_at']
    exact h.m j hj'
theorem clone_regs (h : MC w t bs.length H S) : Calls Tryd.prog 29 #[.slice (some ⟨H.mb, 14, none⟩) 32 32] w fun e w' => ∃ v', e = .returned v' ∧ Cf w w' v' 32 ((List.range 32).map fun k => .int .i64 (S.r k)) :=
  clone_some ⟨H.mb, 14, none⟩ 32 32 _ w (by decide) (by simp) (fun u hu => by obtain ⟨x, -, rfl⟩ := List.mem_map.1 hu; rfl) fun j u hj => by
    have hj' : j < 32 := by have := (List.getElem?_eq_some_iff.1 hj).1; simpa using this
    rw [List.getElem?_map, List.getElem?_range hj'] at hj
    injection hj with hj
    rw [← hj, add_at']
    exact h.r j hj'
/-- A nil machine. -/
theorem run_nil (n : Int) (w : World) : Calls Tryd.prog 10 #[.pointer none, .int .i64 n] w fun e w' => e = .returned (.agg #[.int .i64 1, .int .i64 0, .slice none 0 0, .slice none 0 0, .int .i64 0]) ∧ Below w.heap.size w w' := by
  go_enter Tryd.func10, Tryd.ntmps10
  go_wp2_with fail
  exact bodyPost_ret (v := .agg #[.int .i64 1, .int .i64 0, .slice none 0 0, .slice none 0 0, .int .i64 0]) (by simp [results, Tryd.results10, go_sem]) rfl ⟨rfl, by go_grown⟩
theorem state_nil (w : World) : Calls Tryd.prog 13 #[.pointer none] w fun e w' => e = .returned (.agg #[.slice none 0 0, .slice none 0 0]) ∧ Below w.heap.size w w' := by
  go_enter Tryd.func13, Tryd.ntmps13
  go_wp2_with fail
  exact bodyPost_ret (v := .agg #[.slice none 0 0, .slice none 0 0]) (by simp [results, Tryd.results13, go_sem]) rfl ⟨rfl, by go_grown⟩
theorem flying_nil (w : World) : Calls Tryd.prog 17 #[.pointer none] w fun e w' => e = .returned (.slice none 0 0) ∧ w' = w := by
  go_enter Tryd.func17, Tryd.ntmps17
  go_wp2_with fail
  go_ret
  exact ⟨rfl, rfl⟩
end
end Go.Proofs.YtldfjlepbbmhnaaDoor.Pp
