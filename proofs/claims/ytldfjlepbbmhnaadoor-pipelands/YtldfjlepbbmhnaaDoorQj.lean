/- So many cycles (goOn), with what ends a run caught, read off the program by the walk. Conditions: the machine lies in memory, its bundles are well formed. -/
import Derived.Test.YtldfjlepbbmhnaaDoorQi
namespace Go.Proofs.YtldfjlepbbmhnaaDoor.Pp
open Go.ChangeShapes Go.WideShapes Go.ChangeAt Go.RowKit
open _root_.Go.Proofs.YtldfjlepbbmhnaaDoor.Op _root_.Go.Proofs.YtldfjlepbbmhnaaDoor.So _root_.Go.Proofs.YtldfjlepbbmhnaaDoor.Bu
open _root_.Go.Proofs.YtldfjlepbbmhnaaDoor.Tb (Tab TabAt Bnds)
set_option maxRecDepth 20000

section
variable {W : World} {t : Tab} {bs : List Bn} {H : Hx} {S : PM}
theorem bdM_ok (t : Tab) : ∀ (l : List (O × Nat)) {S : PM} {L : Nat}, S.Ok L → (∀ p ∈ l, OkM p.1) → (bdM t S l).1.Ok (L + l.length) ∧ (bdM t S l).1.s = S.s ∧ (bdM t S l).1.e = S.e ∧ (bdM t S l).1.a = S.a
  | [], S, L, h, _ => ⟨h, rfl, rfl, rfl⟩
  | p :: l, S, L, h, ho => by
    unfold bdM
    cases e : isE S p.1 with
    | some z => exact ⟨h.mono (by omega), rfl, rfl, rfl⟩
    | none =>
      have hp := ho p (by simp)
      have h1 := bdM_ok t l (isM_ok t (S.s + (t.l p.2).toNat) h hp.ok hp.k) fun q hq => ho q (by simp [hq])
      have h2 := isM_s (S := S) t p.1 (S.s + (t.l p.2).toNat)
      exact ⟨h1.1.mono (by simp; omega), h1.2.1.trans h2.1, h1.2.2.1.trans h2.2.2, h1.2.2.2.trans h2.2.1⟩
theorem restO_mem {x : Bn} {p : O × Nat} : ∀ n, n ≤ 4 → p ∈ restO x n → ∃ k, k < 4 ∧ p.1 ∈ x.l k
  | 0, _, h => by cases h
  | n + 1, hn, h => by
    rcases List.mem_append.1 h with h | h
    · obtain ⟨o, ho, rfl⟩ := List.mem_map.1 h
      exact ⟨3 - n, by omega, ho⟩
    · exact restO_mem n (by omega) h
theorem restO_len {x : Bn} (h : ∀ k, k < 4 → (x.l k).length ≤ 128) : ∀ n, n ≤ 4 → (restO x n).length ≤ 128 * n
  | 0, _ => by simp [restO]
  | n + 1, hn => by
    have h1 := restO_len h n (by omega)
    have h2 := h (3 - n) (by omega)
    show (clsO x (3 - n) ++ restO x n).length ≤ _
    rw [List.length_append]
    unfold clsO
    rw [List.length_map]
    omega
theorem landM_s (S : PM) : (landM S).s = S.s ∧ (landM S).e = S.e := by
  unfold landM
  have : ∀ (l : List F) (T : PM), (l.foldl ld1 T).s = T.s ∧ (l.foldl ld1 T).e = T.e := fun l => by
    induction l with
    | nil => exact fun _ => ⟨rfl, rfl⟩
    | cons y l ih => exact fun T => ⟨(ih (ld1 T y)).1.trans (ld1_s T y).1, (ih (ld1 T y)).2.trans (ld1_s T y).2.2.2⟩
  exact this _ _
theorem cyM_ok {L : Nat} (h : S.Ok L) (hB : Bo t bs) : (cyM t bs S).1.Ok (L + 512) ∧ (cyM t bs S).1.s ≤ S.s + 1 := by
  have h1 := landM_ok h
  have h2 := landM_s S
  unfold cyM
  by_cases ha : 0 ≤ (landM S).a ∧ (landM S).a < (bs.length : Int)
  · rw [if_pos ha]
    have hi : (landM S).a.toNat < bs.length := by omega
    rw [show bs.getD (landM S).a.toNat ⟨fun _ => []⟩ = bs[(landM S).a.toNat] by rw [List.getD_eq_getElem?_getD, List.getElem?_eq_getElem hi]; rfl]
    have hm : bs[(landM S).a.toNat] ∈ bs := List.getElem_mem hi
    generalize bs[(landM S).a.toNat] = x at *
    have ho := bdM_ok t (restO x 4) h1 fun p hp => by
      obtain ⟨k, hk, hx⟩ := restO_mem 4 (by decide) hp
      exact hB.o x hm k hk _ hx
    have hl := restO_len (hB.n x hm) 4 (by decide)
    generalize bdM t (landM S) (restO x 4) = R at *
    obtain ⟨S2, z⟩ := R
    have o2 := ho.1
    have s2 := ho.2.1
    have a2 := ho.2.2.2
    dsimp only at o2 s2 a2
    cases z with
    | some z => exact ⟨o2.mono (by omega), by show S2.s ≤ _; omega⟩
    | none =>
      refine ⟨⟨o2.r, o2.m, ?_, o2.c0, o2.c1, o2.f, fun k => Nat.le_trans (o2.l k) (by omega), Nat.le_trans o2.p (by omega)⟩, by show S2.s + 1 ≤ _; omega⟩
      show I64 (S2.a + 1)
      have hb := hB.b
      unfold I64
      omega
  · rw [if_neg ha]
    exact ⟨⟨h1.r, h1.m, h1.a, h1.c0, h1.c1, h1.f, fun k => Nat.le_trans (h1.l k) (by omega), Nat.le_trans h1.p (by omega)⟩, by show (landM S).s ≤ _; omega⟩
theorem ta_nil (w : World) : (Instr.typeAssert .nilIface 20 109 true).run Tryd.prog w = .ok (.tuple #[.agg #[.int .i64 0, .int .i64 0], .bool false]) w := by kernel_rfl
theorem ta_hit (z : Int × Int) (w : World) : (Instr.typeAssert (.iface 109 (.agg #[.int .i64 z.1, .int .i64 z.2])) 20 109 true).run Tryd.prog w = .ok (.tuple #[.agg #[.int .i64 z.1, .int .i64 z.2], .bool true]) w := by kernel_rfl
theorem rep25 : Array.replicate 25 undef = #[undef, undef, undef, undef, undef, undef, undef, undef, undef, undef, undef, undef, undef, undef, undef, undef, undef, undef, undef, undef, undef, undef, undef, undef, undef] := rfl
set_option maxHeartbeats 1000000 in
theorem catch_idle (p : Addr) (w : World) : CallsD Tryd.prog 47 #[.pointer (some p)] .returning w fun e u' w' => e = .returned (.tuple #[]) ∧ u' = .returning ∧ Below w.heap.size w w' := by
  refine callsD_of_wpS Tryd.func47 rfl fun c₀ cs hu => ?_
  apply wpS_seq
  apply wpS_region
  simp [wpOpsS, go_sem, recoverD, hu, Tryd.ntmps47, Exit.thenS, ta_nil, Oper.upon, Result.andThen, rep25]
  apply wpS_seq
  apply wpS_region
  simp [wpOpsS, go_sem, Exit.thenS]
  refine wpS_cond (t := false) (by simp [Act.eval]) ?_
  simp only [Bool.false_eq_true, if_false]
  refine wpS_of_wp (wp_skip ?_)
  cases c₀
  simp_all [bodyPostS, results, Tryd.results47]
  exact (Below.refl _ _).alloc (Nat.le_refl _) _
set_option maxHeartbeats 2000000 in
theorem catch_panic {w : World} (n : Nat) (z : Int × Int) (h : Mch w t bs H S) (hn : w.cell? ⟨n, 0, none⟩ = some (ptr H.mb)) (h1 : n < w.heap.size) (hno : n ≠ H.mb) (hs : S.s ≤ 1000000000000) : CallsD Tryd.prog 47 #[.pointer (some ⟨n, 0, none⟩)] (.panicking [{ v := .iface 109 (.agg #[.int .i64 z.1, .int .i64 z.2]), recovered := false }]) w fun e u' w' => e = .returned (.tuple #[]) ∧ u' = .panicking [{ v := .iface 109 (.agg #[.int .i64 z.1, .int .i64 z.2]), recovered := true }] ∧ Mch w' t bs H (endM S z) ∧ Tn w H w' H := by
  have hbx : w.heap.size ≠ H.mb := fun e => by have := h.c.lt; omega
  have g : Below w.heap.size w (w.alloc (.cells #[.int .i64 z.1, .int .i64 z.2] 109)) := (Below.refl _ _).alloc (Nat.le_refl _) _
  have HX : Hid (Mch (w.alloc (.cells #[.int .i64 z.1, .int .i64 z.2] 109)) t bs H S ∧ Tn w H (w.alloc (.cells #[.int .i64 z.1, .int .i64 z.2] 109)) H) := ⟨h.up g, Tn.of g⟩
  refine callsD_of_wpS Tryd.func47 rfl fun c₀ cs hu => ?_
  apply wpS_seq
  apply wpS_region
  simp [wpOpsS, go_sem, recoverD, hu, Tryd.ntmps47, Exit.thenS, ta_hit, Oper.upon, Result.andThen, rep25]
  refine wpS_of_wp ?_
  have HA : Hid (At (w.alloc (.cells #[.int .i64 z.1, .int .i64 z.2] 109)) w.heap.size #[.int .i64 z.1, .int .i64 z.2]) := At.new _ _ _
  have x0 : (w.alloc (.cells #[.int .i64 z.1, .int .i64 z.2] 109)).cell? ⟨n, 0, none⟩ = some (ptr H.mb) := by rw [(bcell g).1 _ _ h1]; exact hn
  have xl : n < (w.alloc (.cells #[.int .i64 z.1, .int .i64 z.2] 109)).heap.size := Nat.lt_of_lt_of_le h1 g.size
  clear hn h1 g h
  generalize (w.alloc (.cells #[.int .i64 z.1, .int .i64 z.2] 109)) = X at *
  have y0 := HA.out.c 0 _ rfl
  have y1 := HA.out.c 1 _ rfl
  have yl := HA.out.lt
  have e0 := HX.out.1.c.e
  have e1 := HX.out.1.c.v
  have e2 := HX.out.1.c.s
  have ez := HX.out.1.c.fz
  have el := HX.out.1.c.lt
  have hs1 : (S.s : Int) ≤ 1000000000000 := by omega
  have HG : Hid (∀ V, V = (((X.setCell ⟨H.mb, 312, none⟩ (.int .i64 z.1)).setCell ⟨H.mb, 313, none⟩ (.int .i64 z.2)).setCell ⟨H.mb, 315, none⟩ (.int .i64 ((S.s : Int) + 1))).drew → Mch V t bs H (endM S z) ∧ Tn w H V H) := fun V hV => by
    subst hV
    have f1 := HX.out.1.one (HX.out.1.c.setE z.1) ((Fr.refl (One H.mb) _).setCell (.inr rfl) _ _) rfl rfl
    have f2 := f1.1.one (f1.1.c.setV z.2) ((Fr.refl (One H.mb) _).setCell (.inr rfl) _ _) rfl rfl
    have f3 := f2.1.one (f2.1.c.setS (S.s + 1)) ((Fr.refl (One H.mb) _).setCell (.inr rfl) _ _) rfl rfl
    have tn := HX.out.2.trans (f1.2.trans (f2.2.trans f3.2))
    have hm := f3.1
    rw [show ((S.s + 1 : Nat) : Int) = (S.s : Int) + 1 by omega] at hm tn
    exact ⟨hm.up (drew_up _), tn.up (drew_up _)⟩
  have hbn : w.heap.size ≠ H.mb := hbx
  have HS : Hid (∀ V, Fr (One H.mb) X V → (n < V.heap.size ∧ V.cell? ⟨n, 0, none⟩ = some (ptr H.mb)) ∧ At V w.heap.size #[.int .i64 z.1, .int .i64 z.2]) := fun V hV => ⟨⟨Nat.lt_of_lt_of_le xl hV.size, by rw [hV.cell xl hno]; exact x0⟩, At.frb HA.out hV hbn⟩
  clear HX HA y0 y1 yl
  go_upto_region 2 with fail
  refine wp_region_held_drew (S := fun W' => (n < W'.heap.size ∧ W'.cell? ⟨n, 0, none⟩ = some (ptr H.mb)) ∧ At W' w.heap.size #[.int .i64 z.1, .int .i64 z.2]) (by kernel_rfl) (HS.out _ (Fr.refl _ X).drew) (fun hHeld => ?_)
  refine wpAnyH_take (i := 0) (v := ptr H.mb) rfl (by kernel_rfl) (by kernel_rfl) (by kernel_rfl) (fun _ _ _ h => h) (Or.inl ⟨by rfl, fun w' hSw => by (have q := hSw.1.2; have ql := hSw.1.1; go_simp)⟩) hHeld ?_
  simp only [Act.put, List.setIfInBounds_toArray, List.set_cons_zero, List.set_cons_succ, List.getElem_cons_zero, List.getElem_toArray]
  refine wpAnyH_take (i := 1) (v := ptr H.mb) rfl (by kernel_rfl) (by kernel_rfl) (by kernel_rfl) (fun _ _ _ h => h) (Or.inl ⟨by rfl, fun w' hSw => by (have q := hSw.1.2; have ql := hSw.1.1; go_simp)⟩) hHeld ?_
  simp only [Act.put, List.setIfInBounds_toArray, List.set_cons_zero, List.set_cons_succ, List.getElem_cons_zero, List.getElem_cons_succ, List.getElem_toArray]
  refine wpAnyH_take (i := 2) (v := .pointer (some ⟨w.heap.size, 0, none⟩)) rfl (by kernel_rfl) (by kernel_rfl) (by kernel_rfl) (fun _ _ _ h => h) (Or.inl ⟨by rfl, fun w' hSw => by (go_simp)⟩) hHeld ?_
  simp only [Act.put, List.setIfInBounds_toArray, List.set_cons_zero, List.set_cons_succ, List.getElem_cons_zero, List.getElem_cons_succ, List.getElem_toArray]
  refine wpAnyH_take (i := 3) (v := .int .i64 z.1) rfl (by kernel_rfl) (by kernel_rfl) (by kernel_rfl) (fun _ _ _ h => h) (Or.inl ⟨by rfl, fun w' hSw => by (have y0 := hSw.2.c 0 _ rfl; have y1 := hSw.2.c 1 _ rfl; have yl := hSw.2.lt; go_simp)⟩) hHeld ?_
  simp only [Act.put, List.setIfInBounds_toArray, List.set_cons_zero, List.set_cons_succ, List.getElem_cons_zero, List.getElem_cons_succ, List.getElem_toArray]
  refine wpAnyH_take (i := 4) (v := .pointer (some ⟨w.heap.size, 1, none⟩)) rfl (by kernel_rfl) (by kernel_rfl) (by kernel_rfl) (fun _ _ _ h => h) (Or.inl ⟨by rfl, fun w' hSw => by (go_simp)⟩) hHeld ?_
  simp only [Act.put, List.setIfInBounds_toArray, List.set_cons_zero, List.set_cons_succ, List.getElem_cons_zero, List.getElem_cons_succ, List.getElem_toArray]
  refine wpAnyH_take (i := 5) (v := .int .i64 z.2) rfl (by kernel_rfl) (by kernel_rfl) (by kernel_rfl) (fun _ _ _ h => h) (Or.inl ⟨by rfl, fun w' hSw => by (have y0 := hSw.2.c 0 _ rfl; have y1 := hSw.2.c 1 _ rfl; have yl := hSw.2.lt; go_simp)⟩) hHeld ?_
  simp only [Act.put, List.setIfInBounds_toArray, List.set_cons_zero, List.set_cons_succ, List.getElem_cons_zero, List.getElem_cons_succ, List.getElem_toArray]
  refine wpAnyH_take (i := 6) (v := ptr H.mb) rfl (by kernel_rfl) (by kernel_rfl) (by kernel_rfl) (fun _ _ _ h => h) (Or.inl ⟨by rfl, fun w' hSw => by (go_simp)⟩) hHeld ?_
  simp only [Act.put, List.setIfInBounds_toArray, List.set_cons_zero, List.set_cons_succ, List.getElem_cons_zero, List.getElem_cons_succ, List.getElem_toArray]
  refine wpAnyH_take (i := 7) (v := .pointer (some ⟨H.mb, 312, none⟩)) rfl (by kernel_rfl) (by kernel_rfl) (by kernel_rfl) (fun _ _ _ h => h) (Or.inl ⟨by rfl, fun w' hSw => by (go_simp)⟩) hHeld ?_
  simp only [Act.put, List.setIfInBounds_toArray, List.set_cons_zero, List.set_cons_succ, List.getElem_cons_zero, List.getElem_cons_succ, List.getElem_toArray]
  refine wpAnyH_ready (rs := [8]) (by kernel_rfl) (by simp) ?_
  refine AllReadyH.cons rfl (fun K hK => ?_) AllReadyH.nil
  go_simp
  refine hK.out _ _ (HS.out _ (((Fr.refl (One H.mb) X).setCell (.inr rfl) _ _).drew)) (fun hHeld => ?_)
  clear hK K
  refine wpAnyH_take (i := 9) (v := ptr H.mb) rfl (by kernel_rfl) (by kernel_rfl) (by kernel_rfl) (fun _ _ _ h => h) (Or.inl ⟨by rfl, fun w' hSw => by (go_simp)⟩) hHeld ?_
  simp only [Act.put, List.setIfInBounds_toArray, List.set_cons_zero, List.set_cons_succ, List.getElem_cons_zero, List.getElem_cons_succ, List.getElem_toArray]
  refine wpAnyH_take (i := 10) (v := .pointer (some ⟨H.mb, 313, none⟩)) rfl (by kernel_rfl) (by kernel_rfl) (by kernel_rfl) (fun _ _ _ h => h) (Or.inl ⟨by rfl, fun w' hSw => by (go_simp)⟩) hHeld ?_
  simp only [Act.put, List.setIfInBounds_toArray, List.set_cons_zero, List.set_cons_succ, List.getElem_cons_zero, List.getElem_cons_succ, List.getElem_toArray]
  refine wpAnyH_ready (rs := [11]) (by kernel_rfl) (by simp) ?_
  refine AllReadyH.cons rfl (fun K hK => ?_) AllReadyH.nil
  go_simp
  refine hK.out _ _ (HS.out _ ((((Fr.refl (One H.mb) X).setCell (.inr rfl) _ _).setCell (.inr rfl) _ _).drew)) (fun hHeld => ?_)
  clear hK K
  refine wpAnyH_done (by kernel_rfl) ?_ _
  clear hHeld
  go_wp2_with fail
  simp [bodyPostS, results, Tryd.results47]
  exact HG.out _ rfl
end
end Go.Proofs.YtldfjlepbbmhnaaDoor.Pp
