/- The document's Decode. Conditions: none. -/
import Derived.Test.YtldfjlepbbmhnaaDoorXe
namespace Go.Proofs.YtldfjlepbbmhnaaDoor.Bu
open Go.ChangeShapes Go.WideShapes Go.ChangeAt Go.RowKit
open _root_.Go.Proofs.YtldfjlepbbmhnaaDoor.Op
open _root_.Go.Proofs.YtldfjlepbbmhnaaDoor.Tb (Tab TabAt Bnds four tabAt_new ckR)
open _root_.Go.Proofs.YtldfjlepbbmhnaaDoor.So
set_option maxRecDepth 20000
/-- A bundle that was read, in its box. -/
structure Bx (w W : World) (t : Tab) (a : Option Addr) (c : Nat) (ls : List Bn) (bb : Nat) (x : Bn) (p : Pb) : Prop where
  d : Rd w W t a c ls
  b : At W bb (bcs x p)
  x : BnIn W x p
  f : ∀ k, k < 4 → ∀ A, p.a k = some A → ∀ A', a = some A' → A.block ≠ A'.block
theorem at_set4 {W : World} {b : Nat} {v0 v1 v2 v3 u0 u1 u2 u3 : Value} (h : At W b #[u0, u1, u2, u3]) : At (set4 W b 0 v0 v1 v2 v3) b #[v0, v1, v2, v3] := by
  have hz := set4_frozen W b 0 v0 v1 v2 v3
  have at4 := set4_at (W := W) (b := b) (o := 0) v0 v1 v2 v3 (fun j hj => by
    rw [Nat.zero_add]
    match j, hj with
    | 0, _ => exact ⟨_, h.c 0 _ rfl⟩
    | 1, _ => exact ⟨_, h.c 1 _ rfl⟩
    | 2, _ => exact ⟨_, h.c 2 _ rfl⟩
    | 3, _ => exact ⟨_, h.c 3 _ rfl⟩)
  have g := set4_fr W b 0 v0 v1 v2 v3
  refine ⟨fun j u hj => ?_, fun j => by rw [hz]; exact h.f j, Nat.lt_of_lt_of_le h.lt g.size⟩
  rw [at4]
  match j, hj with
  | 0, hj => simpa using hj
  | 1, hj => simpa using hj
  | 2, hj => simpa using hj
  | 3, hj => simpa using hj
theorem Rd.frb {w W W' : World} {t : Tab} {a : Option Addr} {c bb : Nat} {ls : List Bn} (h : Rd w W t a c ls) (g : Fr (One bb) W W') (hb : w.heap.size < bb) (hn : ∀ A, a = some A → A.block ≠ bb) (hops : ∀ (q : Option Addr) (xs : List O), OpsAt W q xs → OpsAt W' q xs) : Rd w W' t a c ls := by
  obtain ⟨cs, h1, h2⟩ := h.row
  refine ⟨tab_fr h.t g (by show ¬ _ = _; omega), h.up.trans (g.below h.up.size fun j hj e => by have e : j = bb := e; omega), cs, row_fr h1 g fun q hq e => ?_, fun i hi => ?_⟩
  · have e : q = bb := e
    cases a with
    | none => simp [Value.ownBlock] at hq
    | some y =>
      simp only [Value.ownBlock, Option.some.injEq] at hq
      exact hn y rfl (by rw [hq]; exact e)
  · obtain ⟨p, h3, h4⟩ := h2 i hi
    exact ⟨p, h3, fun k hk => ⟨hops _ _ (h4 k hk).1, (h4 k hk).2⟩⟩
/-- Lists in memory do not lie in a block that holds lists alone. -/
theorem ops_off {W W' : World} {bb : Nat} (g : Fr (One bb) W W') (hk : ∀ j : Nat, ∀ o : Int, W.cell? ⟨bb, j, none⟩ ≠ some (.int .i8 o)) (q : Option Addr) (xs : List O) (h : OpsAt W q xs) : OpsAt W' q xs := by
  refine ⟨h.ok, h.len, fun h0 => ?_⟩
  obtain ⟨b, f, e, z, hc⟩ := h.is h0
  have hb : ¬ b = bb := by
    intro e2
    subst e2
    exact hk _ _ (hc 0 h0).c0
  refine ⟨b, f, e, Nat.lt_of_lt_of_le z g.size, fun i hi => ?_⟩
  obtain ⟨c0, c1, c2, c3, c4⟩ := hc i hi
  exact ⟨(g.cell z hb _).trans c0, (g.cell z hb _).trans c1, (g.cell z hb _).trans c2, (g.cell z hb _).trans c3, (g.cell z hb _).trans c4⟩
theorem box_kind (W : World) (v0 v1 v2 v3 : Option Addr) (n0 n1 n2 n3 c0 c1 c2 c3 : Nat) (ty : TypeId) : ∀ j : Nat, ∀ o : Int, (W.alloc (.cells #[.slice v0 n0 c0, .slice v1 n1 c1, .slice v2 n2 c2, .slice v3 n3 c3] ty)).cell? ⟨W.heap.size, j, none⟩ ≠ some (.int .i8 o) := by
  intro j o
  match j with
  | 0 => simp
  | 1 => simp
  | 2 => simp
  | 3 => simp
  | j + 4 => simp
theorem kind_up {W W' : World} {bb : Nat} (h : ∀ j : Nat, ∀ o : Int, W.cell? ⟨bb, j, none⟩ ≠ some (.int .i8 o)) (g : Below W.heap.size W W') (hb : bb < W.heap.size) : ∀ j : Nat, ∀ o : Int, W'.cell? ⟨bb, j, none⟩ ≠ some (.int .i8 o) := fun j o => by rw [(bcell g).1 _ _ hb]; exact h j o
theorem bx_make {w W4 : World} {t : Tab} {a : Option Addr} {c bb : Nat} {ls : List Bn} {x : Bn} {p : Pb} (hR : Rd w W4 t a c ls) (hbx : At W4 bb #[.slice none 0 0, .slice none 0 0, .slice none 0 0, .slice none 0 0]) (hk : ∀ j : Nat, ∀ o : Int, W4.cell? ⟨bb, j, none⟩ ≠ some (.int .i8 o)) (hB : BnIn W4 x p) (hbb : w.heap.size < bb) (hn : ∀ A, a = some A → A.block ≠ bb) (hf : ∀ k, k < 4 → ∀ A, p.a k = some A → ∀ A', a = some A' → A.block ≠ A'.block) : Bx w (set4 W4 bb 0 (.slice (p.a 0) (x.l 0).length (p.c 0)) (.slice (p.a 1) (x.l 1).length (p.c 1)) (.slice (p.a 2) (x.l 2).length (p.c 2)) (.slice (p.a 3) (x.l 3).length (p.c 3))) t a c ls bb x p := by
  have g := set4_fr W4 bb 0 (.slice (p.a 0) (x.l 0).length (p.c 0)) (.slice (p.a 1) (x.l 1).length (p.c 1)) (.slice (p.a 2) (x.l 2).length (p.c 2)) (.slice (p.a 3) (x.l 3).length (p.c 3))
  exact ⟨hR.frb g hbb hn (ops_off g hk), at_set4 hbx, ⟨fun k hk' => ops_off g hk _ _ (hB.o k hk')⟩, hf⟩
theorem Rd.blk {w W : World} {t : Tab} {a : Option Addr} {c : Nat} {ls : List Bn} (h : Rd w W t a c ls) : ∀ A, a = some A → A.block < W.heap.size := by
  obtain ⟨cs, h1, -⟩ := h.row
  intro A e
  subst e
  exact (h1.lt A.block rfl).2
set_option maxHeartbeats 8000000 in
theorem rdec_any (ao : Option Addr) (n cap : Nat) (v : Nat → Int) (t : Tab) (w : World) (hx : Ws w ao n v) (hc : n ≤ cap) (ht : t.ok = true) (hn : n ≤ 17592186044416) (h0 : n ≠ 0) (hm : n % ofs t 4 = 0) (hl : n / ofs t 4 ≤ 65536) :
    Calls Tryd.prog 26 #[.slice ao n cap, t.val] w (RdeOut w t v (n / ofs t 4)) := by
  have HC : Hid (∀ W, Calls Tryd.prog 42 #[t.val] W fun e w' => e = .returned (.int .i64 0) ∧ Below W.heap.size W w') := fun W => by
    have := Tb.refCheck_any t W
    rw [ck_good ht] at this
    exact this
  have HWd : Hid (∀ W, Calls Tryd.prog 43 #[t.val] W fun e w' => e = .returned (.int .i64 (ofs t 4 : Int)) ∧ Below W.heap.size W w') := fun W => rwidth_any t W ht
  have hn0 : ((n : Int) == 0) = false := by simpa using h0
  have HRe : Hid (∀ a' n' c' v' W, Ws W a' n' v' → ofs t 4 ≤ n' → Calls Tryd.prog 44 #[.slice a' n' c', t.val] W (ReOut W t v')) := fun a' n' c' v' W h h2 => rbundle_any a' n' c' v' t W h ht h2
  have HW : Hid (Ws w ao n v) := hx
  have HMul : Hid (n / ofs t 4 * ofs t 4 = n) := Nat.div_mul_cancel (Nat.dvd_of_mod_eq_zero hm)
  have h32 := ofs_le ht
  have hd0 : ofs t 4 ≠ 0 := fun e => by rw [e, Nat.mod_zero] at hm; exact h0 hm
  obtain ⟨i0, hi, hi2⟩ := Option.map_eq_some_iff.1 info63
  simp only [Prod.mk.injEq] at hi2
  obtain ⟨hz0, hz1, hz2⟩ := hi2
  have HI : Hid (Tryd.prog.info? 63 = some i0 ∧ i0.zero = some bz ∧ i0.size = 4 ∧ i0.bytes = 96) := ⟨hi, hz0, hz1, hz2⟩
  have h1 : ((ofs t 4 : Int) == 0) = false := by simp; omega
  have h2 : (n : Int).tdiv (ofs t 4 : Int) = ((n / ofs t 4 : Nat) : Int) := by simp
  have h3 : (n : Int).tmod (ofs t 4 : Int) = 0 := by rw [Int.tmod_eq_emod_of_nonneg (Int.natCast_nonneg n)]; omega
  have h5 : ¬ (ofs t 4 : Int) = 0 := by omega
  clear ht hm hx hi hz0 hz1 hz2 h0
  unfold Tab.val at *
  generalize n / ofs t 4 = cnt at *
  have hcn : (cnt : Int) ≤ 65536 := by omega
  have hd65 : decide ((65536 : Int) < (cnt : Int)) = false := by simp; omega
  obtain ⟨wd, hwd⟩ : ∃ wd, ofs t 4 = wd := ⟨_, rfl⟩
  have HWD : Hid (ofs t 4 = wd) := hwd
  rw [hwd] at HWd HRe HMul h32 h1 h2 h3 h5 hd0
  clear hwd
  have hwi : (wd : Int) ≤ 32 := by omega
  have hw0 : (0 : Int) < (wd : Int) := by omega
  go_enter Tryd.func26, Tryd.ntmps26
  go_upto_region 13 with (first | (go_at_call 42; refine Calls.mono (HC.out _) ?_; rintro e w1 ⟨rfl, hb⟩; have HS1 : Hid (TabAt w1 w.heap.size t ∧ Below w.heap.size w w1) := ⟨(tabAt_new w t 25).below hb (by simp), (by go_grown : Below w.heap.size w (w.alloc (.cells t.cells 25))).trans (hb.mono (by simp))⟩; clear hb; have k2 := HS1.out.1; have qu0 := k2.cu 0 (by decide); have qu1 := k2.cu 1 (by decide); have qu2 := k2.cu 2 (by decide); have qu3 := k2.cu 3 (by decide); have ql0 := k2.cl 0 (by decide); have ql1 := k2.cl 1 (by decide); have ql2 := k2.cl 2 (by decide); have ql3 := k2.cl 3 (by decide); have qb0 := k2.cb 0 (by decide); have qb1 := k2.cb 1 (by decide); have qb2 := k2.cb 2 (by decide); have qb3 := k2.cb 3 (by decide); have qd := k2.cd; have qz := k2.lt; clear k2) | (go_at_call 43; refine Calls.mono (HWd.out _) ?_; rintro e w2 ⟨rfl, hb⟩; have HS2 : Hid (TabAt w2 w.heap.size t ∧ Below w.heap.size w w2) := ⟨HS1.out.1.below hb HS1.out.1.lt, HS1.out.2.trans (hb.mono HS1.out.2.size)⟩; clear hb qu0 qu1 qu2 qu3 ql0 ql1 ql2 ql3 qb0 qb1 qb2 qb3 qd qz))
  have HD : Hid (Rd w w2 t none 0 []) := Rd.start w HS2.out.1 HS2.out.2
  clear HS1 HS2 HC HWd h1 h2 h3 h5 hn0
  go_loopw [8, 9] (fun l v9 wr => ∃ (k c : Nat) (a : Option Addr), k ≤ cnt ∧ v9 = .int .i64 ((k * wd : Nat) : Int) ∧ l = .slice a k c ∧ deB t v k = true ∧ Rd w wr t a c (deL t v k)) (fun _ v9 _ => cnt * wd - (intOf v9).toNat)
  case atStart => exact ⟨0, 0, none, by omega, by simp, rfl, rfl, HD.out⟩
  case round =>
    rename World => wr
    obtain ⟨k, c1, a1, hk, rfl, rfl, hq1, hq2⟩ := hrel
    have HQ : Hid (deB t v k = true ∧ Rd w wr t a1 c1 (deL t v k)) := ⟨hq1, hq2⟩
    clear hq1 hq2 HD
    obtain ⟨KK, hKK⟩ : ∃ KK, k * wd = KK := ⟨_, rfl⟩
    have HKK : Hid (k * wd = KK) := hKK
    have HK1 : Hid ((k + 1) * wd = KK + wd) := (by rw [Nat.succ_mul, hKK] : (k + 1) * wd = KK + wd)
    rw [hKK]
    have hKb : KK ≤ 2097152 := by rw [← hKK]; exact Nat.mul_le_mul (show k ≤ 65536 by omega) h32
    have hK0 : (0 : Int) ≤ (KK : Int) := by omega
    by_cases hlt : k < cnt
    · have hKN : KK + wd ≤ n := by
        rw [← HMul.out, ← HK1.out]
        exact Nat.mul_le_mul_right _ hlt
      clear hKK
      have hKn : (KK : Int) < (n : Int) := by omega
      have hKN' : (KK : Int) ≤ (n : Int) := by omega
      have hKi : (KK : Int) ≤ 2097152 := by omega
      have hKw0 : (0 : Int) ≤ (KK : Int) + (wd : Int) := by omega
      have hKw1 : (KK : Int) + (wd : Int) ≤ (cap : Int) := by omega
      have hKw2 : (KK : Int) ≤ (KK : Int) + (wd : Int) := by omega
      have HRd : Hid (∀ W, Below w.heap.size w W → Calls Tryd.prog 44 #[.slice (if cap = KK then ao else Option.map (fun x => x.add KK) ao) wd (cap - KK), .agg #[.int .i64 (t.u 0), .int .i64 (t.u 1), .int .i64 (t.u 2), .int .i64 (t.u 3), .int .i64 (t.l 0), .int .i64 (t.l 1), .int .i64 (t.l 2), .int .i64 (t.l 3), .int .i64 (t.b 0), .int .i64 (t.b 1), .int .i64 (t.b 2), .int .i64 (t.b 3), .int .i64 t.d]] W (ReOut W t (sv t v k))) := fun W hb => HRe.out _ _ _ _ W ((((HW.out.cut hc).take (m := wd) (by omega)).same fun j _ => by unfold sv; rw [HWD.out, HKK.out]).below hb) (Nat.le_refl _)
      have HNo : Hid (bdK t (sv t v k) 4 = false → deB t v cnt = false) := fun e => deB_no hlt e
      have HYe : Hid (bdK t (sv t v k) 4 = true → deB t v (k + 1) = true) := fun e => deB_iff.2 fun i hi => by
        by_cases e' : i = k
        · rw [e']; exact e
        · exact deB_iff.1 HQ.out.1 i (by omega)
      have HNx : Hid (deL t v (k + 1) = deL t v k ++ [bdX t (sv t v k)] ∧ (deL t v k).length = k) := ⟨deL_next t v k, deL_len t v k⟩
      have HX : Hid (Rd w wr.drew t a1 c1 (deL t v k)) := HQ.out.2.next (Below.refl _ _).drew
      go_upto_region 15 with fail
      cases hR : bdK t (sv t v k) 4
      · have hN := HNo.out hR
        have HRd2 : Hid (∀ W, Below w.heap.size w W → Calls Tryd.prog 44 #[.slice (if cap = KK then ao else Option.map (fun (x : Addr) => x.add KK) ao) wd (cap - KK), .agg #[.int .i64 (t.u 0), .int .i64 (t.u 1), .int .i64 (t.u 2), .int .i64 (t.u 3), .int .i64 (t.l 0), .int .i64 (t.l 1), .int .i64 (t.l 2), .int .i64 (t.l 3), .int .i64 (t.b 0), .int .i64 (t.b 1), .int .i64 (t.b 2), .int .i64 (t.b 3), .int .i64 t.d]] W fun e w' => e = .returned (.tuple #[bz, .bool false]) ∧ Below W.heap.size W w') := fun W hb => by
          have := HRd.out W hb
          unfold ReOut at this
          rw [hR] at this
          exact this
        clear hR HRd HNo HYe HQ
        refine wp_region_held_drew (S := fun W' => TabAt W' w.heap.size t) (by kernel_rfl) HX.out.t (fun hHeld => ?_)
        generalize wr.drew = XD at *
        refine wpAnyH_take (i := 0) (v := .slice ao n cap) rfl (by kernel_rfl) (by kernel_rfl) (by kernel_rfl) (fun _ _ _ h => h) (Or.inl ⟨by rfl, fun w' hSw => by (go_simp)⟩) hHeld ?_
        simp only [Act.put, List.setIfInBounds_toArray, List.set_cons_zero, List.set_cons_succ, List.getElem_cons_zero, List.getElem_toArray]
        refine wpAnyH_take (i := 1) (v := .int .i64 (KK : Int)) rfl (by kernel_rfl) (by kernel_rfl) (by kernel_rfl) (fun _ _ _ h => h) (Or.inl ⟨by rfl, fun w' hSw => by (go_simp)⟩) hHeld ?_
        simp only [Act.put, List.setIfInBounds_toArray, List.set_cons_zero, List.set_cons_succ, List.getElem_cons_zero, List.getElem_cons_succ, List.getElem_toArray]
        refine wpAnyH_take (i := 2) (v := .int .i64 (KK : Int)) rfl (by kernel_rfl) (by kernel_rfl) (by kernel_rfl) (fun _ _ _ h => h) (Or.inl ⟨by rfl, fun w' hSw => by (go_simp)⟩) hHeld ?_
        simp only [Act.put, List.setIfInBounds_toArray, List.set_cons_zero, List.set_cons_succ, List.getElem_cons_zero, List.getElem_cons_succ, List.getElem_toArray]
        refine wpAnyH_take (i := 3) (v := .int .i64 (wd : Int)) rfl (by kernel_rfl) (by kernel_rfl) (by kernel_rfl) (fun _ _ _ h => h) (Or.inl ⟨by rfl, fun w' hSw => by (go_simp)⟩) hHeld ?_
        simp only [Act.put, List.setIfInBounds_toArray, List.set_cons_zero, List.set_cons_succ, List.getElem_cons_zero, List.getElem_cons_succ, List.getElem_toArray]
        refine wpAnyH_take (i := 4) (v := .int .i64 ((KK : Int) + (wd : Int))) rfl (by kernel_rfl) (by kernel_rfl) (by kernel_rfl) (fun _ _ _ h => h) (Or.inl ⟨by rfl, fun w' hSw => by (go_simp; rw [IntKind.wrap_i64]; omega)⟩) hHeld ?_
        simp only [Act.put, List.setIfInBounds_toArray, List.set_cons_zero, List.set_cons_succ, List.getElem_cons_zero, List.getElem_cons_succ, List.getElem_toArray]
        refine wpAnyH_take (i := 5) (v := .slice (if cap = KK then ao else Option.map (fun (x : Addr) => x.add KK) ao) wd (cap - KK)) rfl (by kernel_rfl) (by kernel_rfl) (by kernel_rfl) (fun _ _ _ h => h) (Or.inl ⟨by rfl, fun w' hSw => by (go_simp; omega)⟩) hHeld ?_
        simp only [Act.put, List.setIfInBounds_toArray, List.set_cons_zero, List.set_cons_succ, List.getElem_cons_zero, List.getElem_cons_succ, List.getElem_toArray]
        refine wpAnyH_take (i := 6) (v := .agg #[.int .i64 (t.u 0), .int .i64 (t.u 1), .int .i64 (t.u 2), .int .i64 (t.u 3), .int .i64 (t.l 0), .int .i64 (t.l 1), .int .i64 (t.l 2), .int .i64 (t.l 3), .int .i64 (t.b 0), .int .i64 (t.b 1), .int .i64 (t.b 2), .int .i64 (t.b 3), .int .i64 t.d]) rfl (by kernel_rfl) (by kernel_rfl) (by kernel_rfl) (fun _ _ _ h => h) (Or.inl ⟨by rfl, fun w' hSw => by (have k2 := hSw; have qu0 := k2.cu 0 (by decide); have qu1 := k2.cu 1 (by decide); have qu2 := k2.cu 2 (by decide); have qu3 := k2.cu 3 (by decide); have ql0 := k2.cl 0 (by decide); have ql1 := k2.cl 1 (by decide); have ql2 := k2.cl 2 (by decide); have ql3 := k2.cl 3 (by decide); have qb0 := k2.cb 0 (by decide); have qb1 := k2.cb 1 (by decide); have qb2 := k2.cb 2 (by decide); have qb3 := k2.cb 3 (by decide); have qd := k2.cd; have qz := k2.lt; clear k2; go_simp)⟩) hHeld ?_
        simp only [Act.put, List.setIfInBounds_toArray, List.set_cons_zero, List.set_cons_succ, List.getElem_cons_zero, List.getElem_cons_succ, List.getElem_toArray]
        refine wpAnyH_ready (rs := [7, 11]) (by kernel_rfl) (by simp) ?_
        refine AllReadyH.cons rfl (fun K hK => ?_) (AllReadyH.cons rfl (fun K hK => ?_) AllReadyH.nil)
        · go_simp
          refine Calls.mono (HRd2.out _ HX.out.up) ?_
          rintro e w3 ⟨rfl, hb3⟩
          have HR3 : Hid (Rd w w3 t a1 c1 (deL t v k)) := HX.out.next hb3
          clear hb3
          refine hK.out _ _ HR3.out.t (fun hHeld => ?_)
          clear hK K
          refine wpAnyH_take (i := 8) (v := .tuple #[bz, .bool false]) rfl (by kernel_rfl) (by kernel_rfl) (by kernel_rfl) (fun _ _ _ h => h) (Or.inl ⟨by rfl, fun w' hSw => by (go_simp)⟩) hHeld ?_
          simp only [Act.put, List.setIfInBounds_toArray, List.set_cons_zero, List.set_cons_succ, List.getElem_cons_zero, List.getElem_cons_succ, List.getElem_toArray]
          refine wpAnyH_take (i := 9) (v := bz) rfl (by kernel_rfl) (by kernel_rfl) (by kernel_rfl) (fun _ _ _ h => h) (Or.inl ⟨by rfl, fun w' hSw => by (go_simp)⟩) hHeld ?_
          simp only [Act.put, List.setIfInBounds_toArray, List.set_cons_zero, List.set_cons_succ, List.getElem_cons_zero, List.getElem_cons_succ, List.getElem_toArray]
          refine wpAnyH_take (i := 10) (v := .bool false) rfl (by kernel_rfl) (by kernel_rfl) (by kernel_rfl) (fun _ _ _ h => h) (Or.inl ⟨by rfl, fun w' hSw => by (go_simp)⟩) hHeld ?_
          simp only [Act.put, List.setIfInBounds_toArray, List.set_cons_zero, List.set_cons_succ, List.getElem_cons_zero, List.getElem_cons_succ, List.getElem_toArray]
          refine wpAnyH_ready (rs := [11]) (by kernel_rfl) (by simp) ?_
          refine AllReadyH.cons rfl (fun K hK => ?_) AllReadyH.nil
          go_simp
          have HR4 : Hid (Rd w (w3.alloc (.cells #[.slice none 0 0, .slice none 0 0, .slice none 0 0, .slice none 0 0] 63)) t a1 c1 (deL t v k) ∧ At (w3.alloc (.cells #[.slice none 0 0, .slice none 0 0, .slice none 0 0, .slice none 0 0] 63)) w3.heap.size #[.slice none 0 0, .slice none 0 0, .slice none 0 0, .slice none 0 0] ∧ (∀ j : Nat, ∀ o : Int, (w3.alloc (.cells #[.slice none 0 0, .slice none 0 0, .slice none 0 0, .slice none 0 0] 63)).cell? ⟨w3.heap.size, j, none⟩ ≠ some (.int .i8 o)) ∧ w.heap.size < w3.heap.size ∧ (∀ A, a1 = some A → A.block ≠ w3.heap.size)) := ⟨HR3.out.next ((Below.refl _ _).alloc (Nat.le_refl _) _), At.new _ _ _, box_kind _ _ _ _ _ _ _ _ _ _ _ _ _ _, HR3.out.t.lt, fun A hA => Nat.ne_of_lt (HR3.out.blk A hA)⟩
          refine hK.out _ _ HR4.out.1.t (fun hHeld => ?_)
          clear hK K
          generalize (w3.alloc (.cells #[.slice none 0 0, .slice none 0 0, .slice none 0 0, .slice none 0 0] 63)) = W4 at *
          generalize w3.heap.size = bb at *
          refine wpAnyH_ready (rs := [12]) (by kernel_rfl) (by simp) ?_
          refine AllReadyH.cons rfl (fun K hK => ?_) AllReadyH.nil
          have z0 := HR4.out.2.1.c 0 _ rfl
          have z1 := HR4.out.2.1.c 1 _ rfl
          have z2 := HR4.out.2.1.c 2 _ rfl
          have z3 := HR4.out.2.1.c 3 _ rfl
          have f0 := HR4.out.2.1.f 0
          have f1 := HR4.out.2.1.f 1
          have f2 := HR4.out.2.1.f 2
          have f3 := HR4.out.2.1.f 3
          have fl := HR4.out.2.1.lt
          go_simp
          have HX5 : Hid (TabAt (set4 W4 bb 0 (.slice none 0 0) (.slice none 0 0) (.slice none 0 0) (.slice none 0 0)) w.heap.size t ∧ Below w.heap.size w (set4 W4 bb 0 (.slice none 0 0) (.slice none 0 0) (.slice none 0 0) (.slice none 0 0))) := ⟨tab_fr HR4.out.1.t (set4_fr _ _ _ _ _ _ _) (by have := HR4.out.2.2.2.1; show ¬ _ = bb; omega), HR4.out.1.up.trans ((set4_fr _ _ _ _ _ _ _).below HR4.out.1.up.size fun j hj e => by have e : j = bb := e; have := HR4.out.2.2.2.1; omega)⟩
          refine hK.out _ _ HX5.out.1 (fun hHeld => ?_)
          clear hK K z0 z1 z2 z3 f0 f1 f2 f3 fl HR4
          refine wpAnyH_take (i := 13) (v := .bool false) rfl (by kernel_rfl) (by kernel_rfl) (by kernel_rfl) (fun _ _ _ h => h) (Or.inl ⟨by rfl, fun w' hSw => by (go_simp)⟩) hHeld ?_
          simp only [Act.put, List.setIfInBounds_toArray, List.set_cons_zero, List.set_cons_succ, List.getElem_cons_zero, List.getElem_cons_succ, List.getElem_toArray]
          refine wpAnyH_done (by kernel_rfl) ?_ _
          clear hHeld
          generalize (if cap = KK then ao else Option.map (fun (x : Addr) => x.add KK) ao) = ra at *
          go_wp2_with fail
          go_ret2
          exact RdeOut.no hN HX5.out.2
        · go_simp
          have HR2 : Hid (Rd w (XD.alloc (.cells #[.slice none 0 0, .slice none 0 0, .slice none 0 0, .slice none 0 0] 63)) t a1 c1 (deL t v k) ∧ At (XD.alloc (.cells #[.slice none 0 0, .slice none 0 0, .slice none 0 0, .slice none 0 0] 63)) XD.heap.size #[.slice none 0 0, .slice none 0 0, .slice none 0 0, .slice none 0 0] ∧ (∀ j : Nat, ∀ o : Int, (XD.alloc (.cells #[.slice none 0 0, .slice none 0 0, .slice none 0 0, .slice none 0 0] 63)).cell? ⟨XD.heap.size, j, none⟩ ≠ some (.int .i8 o)) ∧ w.heap.size < XD.heap.size ∧ (∀ A, a1 = some A → A.block ≠ XD.heap.size)) := ⟨HX.out.next ((Below.refl _ _).alloc (Nat.le_refl _) _), At.new _ _ _, box_kind _ _ _ _ _ _ _ _ _ _ _ _ _ _, HX.out.t.lt, fun A hA => Nat.ne_of_lt (HX.out.blk A hA)⟩
          refine hK.out _ _ HR2.out.1.t (fun hHeld => ?_)
          clear hK K
          generalize (XD.alloc (.cells #[.slice none 0 0, .slice none 0 0, .slice none 0 0, .slice none 0 0] 63)) = W2 at *
          generalize XD.heap.size = bb at *
          refine wpAnyH_ready (rs := [7]) (by kernel_rfl) (by simp) ?_
          refine AllReadyH.cons rfl (fun K hK => ?_) AllReadyH.nil
          go_simp
          refine Calls.mono (HRd2.out _ HR2.out.1.up) ?_
          rintro e W4 ⟨rfl, hb3⟩
          have HR4 : Hid (Rd w W4 t a1 c1 (deL t v k) ∧ At W4 bb #[.slice none 0 0, .slice none 0 0, .slice none 0 0, .slice none 0 0] ∧ (∀ j : Nat, ∀ o : Int, W4.cell? ⟨bb, j, none⟩ ≠ some (.int .i8 o)) ∧ w.heap.size < bb ∧ (∀ A, a1 = some A → A.block ≠ bb)) := ⟨HR2.out.1.next hb3, HR2.out.2.1.below hb3 HR2.out.2.1.lt, kind_up HR2.out.2.2.1 hb3 HR2.out.2.1.lt, HR2.out.2.2.2⟩
          clear hb3
          refine hK.out _ _ HR4.out.1.t (fun hHeld => ?_)
          clear hK K
          refine wpAnyH_take (i := 8) (v := .tuple #[bz, .bool false]) rfl (by kernel_rfl) (by kernel_rfl) (by kernel_rfl) (fun _ _ _ h => h) (Or.inl ⟨by rfl, fun w' hSw => by (go_simp)⟩) hHeld ?_
          simp only [Act.put, List.setIfInBounds_toArray, List.set_cons_zero, List.set_cons_succ, List.getElem_cons_zero, List.getElem_cons_succ, List.getElem_toArray]
          refine wpAnyH_take (i := 9) (v := bz) rfl (by kernel_rfl) (by kernel_rfl) (by kernel_rfl) (fun _ _ _ h => h) (Or.inl ⟨by rfl, fun w' hSw => by (go_simp)⟩) hHeld ?_
          simp only [Act.put, List.setIfInBounds_toArray, List.set_cons_zero, List.set_cons_succ, List.getElem_cons_zero, List.getElem_cons_succ, List.getElem_toArray]
          refine wpAnyH_take (i := 10) (v := .bool false) rfl (by kernel_rfl) (by kernel_rfl) (by kernel_rfl) (fun _ _ _ h => h) (Or.inl ⟨by rfl, fun w' hSw => by (go_simp)⟩) hHeld ?_
          simp only [Act.put, List.setIfInBounds_toArray, List.set_cons_zero, List.set_cons_succ, List.getElem_cons_zero, List.getElem_cons_succ, List.getElem_toArray]
          refine wpAnyH_ready (rs := [12]) (by kernel_rfl) (by simp) ?_
          refine AllReadyH.cons rfl (fun K hK => ?_) AllReadyH.nil
          have z0 := HR4.out.2.1.c 0 _ rfl
          have z1 := HR4.out.2.1.c 1 _ rfl
          have z2 := HR4.out.2.1.c 2 _ rfl
          have z3 := HR4.out.2.1.c 3 _ rfl
          have f0 := HR4.out.2.1.f 0
          have f1 := HR4.out.2.1.f 1
          have f2 := HR4.out.2.1.f 2
          have f3 := HR4.out.2.1.f 3
          have fl := HR4.out.2.1.lt
          go_simp
          have HX5 : Hid (TabAt (set4 W4 bb 0 (.slice none 0 0) (.slice none 0 0) (.slice none 0 0) (.slice none 0 0)) w.heap.size t ∧ Below w.heap.size w (set4 W4 bb 0 (.slice none 0 0) (.slice none 0 0) (.slice none 0 0) (.slice none 0 0))) := ⟨tab_fr HR4.out.1.t (set4_fr _ _ _ _ _ _ _) (by have := HR4.out.2.2.2.1; show ¬ _ = bb; omega), HR4.out.1.up.trans ((set4_fr _ _ _ _ _ _ _).below HR4.out.1.up.size fun j hj e => by have e : j = bb := e; have := HR4.out.2.2.2.1; omega)⟩
          refine hK.out _ _ HX5.out.1 (fun hHeld => ?_)
          clear hK K z0 z1 z2 z3 f0 f1 f2 f3 fl HR4
          refine wpAnyH_take (i := 13) (v := .bool false) rfl (by kernel_rfl) (by kernel_rfl) (by kernel_rfl) (fun _ _ _ h => h) (Or.inl ⟨by rfl, fun w' hSw => by (go_simp)⟩) hHeld ?_
          simp only [Act.put, List.setIfInBounds_toArray, List.set_cons_zero, List.set_cons_succ, List.getElem_cons_zero, List.getElem_cons_succ, List.getElem_toArray]
          refine wpAnyH_done (by kernel_rfl) ?_ _
          clear hHeld
          generalize (if cap = KK then ao else Option.map (fun (x : Addr) => x.add KK) ao) = ra at *
          go_wp2_with fail
          go_ret2
          exact RdeOut.no hN HX5.out.2
      · have HRd2 : Hid (∀ W, Below w.heap.size w W → Calls Tryd.prog 44 #[.slice (if cap = KK then ao else Option.map (fun (x : Addr) => x.add KK) ao) wd (cap - KK), .agg #[.int .i64 (t.u 0), .int .i64 (t.u 1), .int .i64 (t.u 2), .int .i64 (t.u 3), .int .i64 (t.l 0), .int .i64 (t.l 1), .int .i64 (t.l 2), .int .i64 (t.l 3), .int .i64 (t.b 0), .int .i64 (t.b 1), .int .i64 (t.b 2), .int .i64 (t.b 3), .int .i64 t.d]] W fun e w' => ∃ p, e = .returned (.tuple #[bval (bdX t (sv t v k)) p, .bool true]) ∧ BnIn w' (bdX t (sv t v k)) p ∧ (∀ j, j < 4 → ∀ A, (p.a j) = some A → W.heap.size ≤ A.block) ∧ Below W.heap.size W w') := fun W hb => by
          have := HRd.out W hb
          unfold ReOut at this
          rw [hR] at this
          exact this
        have HY2 : Hid _ := HYe.out hR
        clear hR HRd HNo HYe
        refine wp_region_held_drew (S := fun W' => TabAt W' w.heap.size t) (by kernel_rfl) HX.out.t (fun hHeld => ?_)
        generalize wr.drew = XD at *
        refine wpAnyH_take (i := 0) (v := .slice ao n cap) rfl (by kernel_rfl) (by kernel_rfl) (by kernel_rfl) (fun _ _ _ h => h) (Or.inl ⟨by rfl, fun w' hSw => by (go_simp)⟩) hHeld ?_
        simp only [Act.put, List.setIfInBounds_toArray, List.set_cons_zero, List.set_cons_succ, List.getElem_cons_zero, List.getElem_toArray]
        refine wpAnyH_take (i := 1) (v := .int .i64 (KK : Int)) rfl (by kernel_rfl) (by kernel_rfl) (by kernel_rfl) (fun _ _ _ h => h) (Or.inl ⟨by rfl, fun w' hSw => by (go_simp)⟩) hHeld ?_
        simp only [Act.put, List.setIfInBounds_toArray, List.set_cons_zero, List.set_cons_succ, List.getElem_cons_zero, List.getElem_cons_succ, List.getElem_toArray]
        refine wpAnyH_take (i := 2) (v := .int .i64 (KK : Int)) rfl (by kernel_rfl) (by kernel_rfl) (by kernel_rfl) (fun _ _ _ h => h) (Or.inl ⟨by rfl, fun w' hSw => by (go_simp)⟩) hHeld ?_
        simp only [Act.put, List.setIfInBounds_toArray, List.set_cons_zero, List.set_cons_succ, List.getElem_cons_zero, List.getElem_cons_succ, List.getElem_toArray]
        refine wpAnyH_take (i := 3) (v := .int .i64 (wd : Int)) rfl (by kernel_rfl) (by kernel_rfl) (by kernel_rfl) (fun _ _ _ h => h) (Or.inl ⟨by rfl, fun w' hSw => by (go_simp)⟩) hHeld ?_
        simp only [Act.put, List.setIfInBounds_toArray, List.set_cons_zero, List.set_cons_succ, List.getElem_cons_zero, List.getElem_cons_succ, List.getElem_toArray]
        refine wpAnyH_take (i := 4) (v := .int .i64 ((KK : Int) + (wd : Int))) rfl (by kernel_rfl) (by kernel_rfl) (by kernel_rfl) (fun _ _ _ h => h) (Or.inl ⟨by rfl, fun w' hSw => by (go_simp; rw [IntKind.wrap_i64]; omega)⟩) hHeld ?_
        simp only [Act.put, List.setIfInBounds_toArray, List.set_cons_zero, List.set_cons_succ, List.getElem_cons_zero, List.getElem_cons_succ, List.getElem_toArray]
        refine wpAnyH_take (i := 5) (v := .slice (if cap = KK then ao else Option.map (fun (x : Addr) => x.add KK) ao) wd (cap - KK)) rfl (by kernel_rfl) (by kernel_rfl) (by kernel_rfl) (fun _ _ _ h => h) (Or.inl ⟨by rfl, fun w' hSw => by (go_simp; omega)⟩) hHeld ?_
        simp only [Act.put, List.setIfInBounds_toArray, List.set_cons_zero, List.set_cons_succ, List.getElem_cons_zero, List.getElem_cons_succ, List.getElem_toArray]
        refine wpAnyH_take (i := 6) (v := .agg #[.int .i64 (t.u 0), .int .i64 (t.u 1), .int .i64 (t.u 2), .int .i64 (t.u 3), .int .i64 (t.l 0), .int .i64 (t.l 1), .int .i64 (t.l 2), .int .i64 (t.l 3), .int .i64 (t.b 0), .int .i64 (t.b 1), .int .i64 (t.b 2), .int .i64 (t.b 3), .int .i64 t.d]) rfl (by kernel_rfl) (by kernel_rfl) (by kernel_rfl) (fun _ _ _ h => h) (Or.inl ⟨by rfl, fun w' hSw => by (have k2 := hSw; have qu0 := k2.cu 0 (by decide); have qu1 := k2.cu 1 (by decide); have qu2 := k2.cu 2 (by decide); have qu3 := k2.cu 3 (by decide); have ql0 := k2.cl 0 (by decide); have ql1 := k2.cl 1 (by decide); have ql2 := k2.cl 2 (by decide); have ql3 := k2.cl 3 (by decide); have qb0 := k2.cb 0 (by decide); have qb1 := k2.cb 1 (by decide); have qb2 := k2.cb 2 (by decide); have qb3 := k2.cb 3 (by decide); have qd := k2.cd; have qz := k2.lt; clear k2; go_simp)⟩) hHeld ?_
        simp only [Act.put, List.setIfInBounds_toArray, List.set_cons_zero, List.set_cons_succ, List.getElem_cons_zero, List.getElem_cons_succ, List.getElem_toArray]
        refine wpAnyH_ready (rs := [7, 11]) (by kernel_rfl) (by simp) ?_
        refine AllReadyH.cons rfl (fun K hK => ?_) (AllReadyH.cons rfl (fun K hK => ?_) AllReadyH.nil)
        · go_simp
          refine Calls.mono (HRd2.out _ HX.out.up) ?_
          rintro e w3 ⟨p, rfl, hB3, hf3, hb3⟩
          have HR3 : Hid (Rd w w3 t a1 c1 (deL t v k)) := HX.out.next hb3
          have HB3 : Hid (BnIn w3 (bdX t (sv t v k)) p ∧ ∀ j, j < 4 → ∀ A, p.a j = some A → ∀ A', a1 = some A' → A.block ≠ A'.block) := ⟨hB3, fun j hj A hA A' hA' => by have h1 := hf3 j hj A hA; have h2 := HX.out.blk A' hA'; omega⟩
          clear hB3 hf3
          clear hb3
          refine hK.out _ _ HR3.out.t (fun hHeld => ?_)
          clear hK K
          refine wpAnyH_take (i := 8) (v := .tuple #[bval (bdX t (sv t v k)) p, .bool true]) rfl (by kernel_rfl) (by kernel_rfl) (by kernel_rfl) (fun _ _ _ h => h) (Or.inl ⟨by rfl, fun w' hSw => by (go_simp)⟩) hHeld ?_
          simp only [Act.put, List.setIfInBounds_toArray, List.set_cons_zero, List.set_cons_succ, List.getElem_cons_zero, List.getElem_cons_succ, List.getElem_toArray]
          refine wpAnyH_take (i := 9) (v := bval (bdX t (sv t v k)) p) rfl (by kernel_rfl) (by kernel_rfl) (by kernel_rfl) (fun _ _ _ h => h) (Or.inl ⟨by rfl, fun w' hSw => by (go_simp)⟩) hHeld ?_
          simp only [Act.put, List.setIfInBounds_toArray, List.set_cons_zero, List.set_cons_succ, List.getElem_cons_zero, List.getElem_cons_succ, List.getElem_toArray]
          refine wpAnyH_take (i := 10) (v := .bool true) rfl (by kernel_rfl) (by kernel_rfl) (by kernel_rfl) (fun _ _ _ h => h) (Or.inl ⟨by rfl, fun w' hSw => by (go_simp)⟩) hHeld ?_
          simp only [Act.put, List.setIfInBounds_toArray, List.set_cons_zero, List.set_cons_succ, List.getElem_cons_zero, List.getElem_cons_succ, List.getElem_toArray]
          refine wpAnyH_ready (rs := [11]) (by kernel_rfl) (by simp) ?_
          refine AllReadyH.cons rfl (fun K hK => ?_) AllReadyH.nil
          go_simp
          have HR4 : Hid (Rd w (w3.alloc (.cells #[.slice none 0 0, .slice none 0 0, .slice none 0 0, .slice none 0 0] 63)) t a1 c1 (deL t v k) ∧ At (w3.alloc (.cells #[.slice none 0 0, .slice none 0 0, .slice none 0 0, .slice none 0 0] 63)) w3.heap.size #[.slice none 0 0, .slice none 0 0, .slice none 0 0, .slice none 0 0] ∧ (∀ j : Nat, ∀ o : Int, (w3.alloc (.cells #[.slice none 0 0, .slice none 0 0, .slice none 0 0, .slice none 0 0] 63)).cell? ⟨w3.heap.size, j, none⟩ ≠ some (.int .i8 o)) ∧ w.heap.size < w3.heap.size ∧ (∀ A, a1 = some A → A.block ≠ w3.heap.size)) := ⟨HR3.out.next ((Below.refl _ _).alloc (Nat.le_refl _) _), At.new _ _ _, box_kind _ _ _ _ _ _ _ _ _ _ _ _ _ _, HR3.out.t.lt, fun A hA => Nat.ne_of_lt (HR3.out.blk A hA)⟩
          have HB4 : Hid (BnIn (w3.alloc (.cells #[.slice none 0 0, .slice none 0 0, .slice none 0 0, .slice none 0 0] 63)) (bdX t (sv t v k)) p) := HB3.out.1.below ((Below.refl _ _).alloc (Nat.le_refl _) _)
          refine hK.out _ _ HR4.out.1.t (fun hHeld => ?_)
          clear hK K
          generalize (w3.alloc (.cells #[.slice none 0 0, .slice none 0 0, .slice none 0 0, .slice none 0 0] 63)) = W4 at *
          generalize w3.heap.size = bb at *
          refine wpAnyH_ready (rs := [12]) (by kernel_rfl) (by simp) ?_
          refine AllReadyH.cons rfl (fun K hK => ?_) AllReadyH.nil
          have z0 := HR4.out.2.1.c 0 _ rfl
          have z1 := HR4.out.2.1.c 1 _ rfl
          have z2 := HR4.out.2.1.c 2 _ rfl
          have z3 := HR4.out.2.1.c 3 _ rfl
          have f0 := HR4.out.2.1.f 0
          have f1 := HR4.out.2.1.f 1
          have f2 := HR4.out.2.1.f 2
          have f3 := HR4.out.2.1.f 3
          have fl := HR4.out.2.1.lt
          go_simp
          have HX5 : Hid (Bx w ((((W4.setCell ⟨bb, 0, none⟩ (.slice (p.a 0) ((bdX t (sv t v k)).l 0).length (p.c 0))).setCell ⟨bb, 1, none⟩ (.slice (p.a 1) ((bdX t (sv t v k)).l 1).length (p.c 1))).setCell ⟨bb, 2, none⟩ (.slice (p.a 2) ((bdX t (sv t v k)).l 2).length (p.c 2))).setCell ⟨bb, 3, none⟩ (.slice (p.a 3) ((bdX t (sv t v k)).l 3).length (p.c 3))) t a1 c1 (deL t v k) bb (bdX t (sv t v k)) p) := bx_make HR4.out.1 HR4.out.2.1 HR4.out.2.2.1 HB4.out HR4.out.2.2.2.1 HR4.out.2.2.2.2 HB3.out.2
          refine hK.out _ _ HX5.out.d.t (fun hHeld => ?_)
          clear hK K z0 z1 z2 z3 f0 f1 f2 f3 fl HR4
          refine wpAnyH_take (i := 13) (v := .bool true) rfl (by kernel_rfl) (by kernel_rfl) (by kernel_rfl) (fun _ _ _ h => h) (Or.inl ⟨by rfl, fun w' hSw => by (go_simp)⟩) hHeld ?_
          simp only [Act.put, List.setIfInBounds_toArray, List.set_cons_zero, List.set_cons_succ, List.getElem_cons_zero, List.getElem_cons_succ, List.getElem_toArray]
          refine wpAnyH_done (by kernel_rfl) ?_ _
          clear hHeld
          generalize ((((W4.setCell ⟨bb, 0, none⟩ (.slice (p.a 0) ((bdX t (sv t v k)).l 0).length (p.c 0))).setCell ⟨bb, 1, none⟩ (.slice (p.a 1) ((bdX t (sv t v k)).l 1).length (p.c 1))).setCell ⟨bb, 2, none⟩ (.slice (p.a 2) ((bdX t (sv t v k)).l 2).length (p.c 2))).setCell ⟨bb, 3, none⟩ (.slice (p.a 3) ((bdX t (sv t v k)).l 3).length (p.c 3))) = W5 at *
          generalize (if cap = KK then ao else Option.map (fun (x : Addr) => x.add KK) ao) = ra at *
          clear HRd2 HX HQ
          have ba := HX5.out.b
          have m0 := ba.c 0 _ rfl
          have m1 := ba.c 1 _ rfl
          have m2 := ba.c 2 _ rfl
          have m3 := ba.c 3 _ rfl
          have ml := ba.lt
          clear ba
          have HX6 : Hid (Rd w (W5.alloc (.cells (bcs (bdX t (sv t v k)) p) 63)) t a1 c1 (deL t v k) ∧ BnIn (W5.alloc (.cells (bcs (bdX t (sv t v k)) p) 63)) (bdX t (sv t v k)) p) := ⟨HX5.out.d.next ((Below.refl _ _).alloc (Nat.le_refl _) _), HX5.out.x.below ((Below.refl _ _).alloc (Nat.le_refl _) _)⟩
          obtain ⟨cs, hcs, hrow⟩ := HX6.out.1.row
          have HCs : Hid (∀ (i : Nat) (h : i < (deL t v k).length), ∃ p' : Pb, (∀ j, j < 4 → cs[i * 4 + j]? = some (.slice (p'.a j) ((deL t v k)[i].l j).length (p'.c j))) ∧ ∀ j, j < 4 → OpsAt (W5.alloc (.cells (bcs (bdX t (sv t v k)) p) 63)) (p'.a j) ((deL t v k)[i].l j) ∧ (0 < ((deL t v k)[i].l j).length → ∀ A, p'.a j = some A → ∀ A', a1 = some A' → A.block ≠ A'.block)) := hrow
          have HCr : Hid ((W5.alloc (.cells (bcs (bdX t (sv t v k)) p) 63)).ownsRow (w.heap.size + 1) 63 4 (.slice a1 (deL t v k).length c1) (deL t v k).length cs) := hcs
          have HCk : Hid ((W5.alloc (.cells (bcs (bdX t (sv t v k)) p) 63)).ownsRow (w.heap.size + 1) 63 4 (.slice a1 k c1) k cs) := by
            have := hcs
            rw [HNx.out.2] at this
            exact this
          have hW5 : w.heap.size + 1 ≤ W5.heap.size := HX5.out.d.t.lt
          clear hcs hrow
          go_wp2_with (first
            | (at_builtin; refine wpList_append_lies _ rfl _ _ 65 rfl (w.heap.size + 1) 63 i0 bz 4 96 Tryd.underlying65 HI.out.1 HI.out.2.1 HI.out.2.2.1 HI.out.2.2.2 rfl (by decide) (.slice a1 k c1) k cs rfl HCk.out ⟨W5.heap.size, 0, none⟩ 1 1 (bcs (bdX t (sv t v k)) p).toList rfl rfl (World.news_of_block (heap_alloc_new W5 _)) (by simp [Value.oneCell']) (by decide) (by unfold maxLen; omega) (by omega) (by simp; omega) (W5.heap.size + 1) (by simp) ?_; intro g cp w7 hown hgrow hat hlt3; have HR7 : Hid (Rd w w7 t (some ⟨g, 0, none⟩) cp (deL t v (k + 1))) := (by rw [HNx.out.1]; exact HX6.out.1.add HCr.out HCs.out HX6.out.2 HX5.out.f (by rw [HNx.out.2]; exact hgrow) (by rw [HNx.out.2]; exact hown) (by rw [HNx.out.2]; exact hat.imp id fun e => by rw [e]; simp) : Rd w w7 t (some ⟨g, 0, none⟩) cp (deL t v (k + 1))); clear hown hgrow hat hlt3))
          go_roundw
          case rel => exact ⟨k + 1, cp, some ⟨g, 0, none⟩, by omega, by rw [HK1.out]; first | rfl | (congr 1; omega), rfl, HY2.out, HR7.out⟩
          case measure => rw [HMul.out]; simp [intOf]; omega
        · go_simp
          have HR2 : Hid (Rd w (XD.alloc (.cells #[.slice none 0 0, .slice none 0 0, .slice none 0 0, .slice none 0 0] 63)) t a1 c1 (deL t v k) ∧ At (XD.alloc (.cells #[.slice none 0 0, .slice none 0 0, .slice none 0 0, .slice none 0 0] 63)) XD.heap.size #[.slice none 0 0, .slice none 0 0, .slice none 0 0, .slice none 0 0] ∧ (∀ j : Nat, ∀ o : Int, (XD.alloc (.cells #[.slice none 0 0, .slice none 0 0, .slice none 0 0, .slice none 0 0] 63)).cell? ⟨XD.heap.size, j, none⟩ ≠ some (.int .i8 o)) ∧ w.heap.size < XD.heap.size ∧ (∀ A, a1 = some A → A.block ≠ XD.heap.size)) := ⟨HX.out.next ((Below.refl _ _).alloc (Nat.le_refl _) _), At.new _ _ _, box_kind _ _ _ _ _ _ _ _ _ _ _ _ _ _, HX.out.t.lt, fun A hA => Nat.ne_of_lt (HX.out.blk A hA)⟩
          refine hK.out _ _ HR2.out.1.t (fun hHeld => ?_)
          clear hK K
          generalize (XD.alloc (.cells #[.slice none 0 0, .slice none 0 0, .slice none 0 0, .slice none 0 0] 63)) = W2 at *
          generalize XD.heap.size = bb at *
          refine wpAnyH_ready (rs := [7]) (by kernel_rfl) (by simp) ?_
          refine AllReadyH.cons rfl (fun K hK => ?_) AllReadyH.nil
          go_simp
          refine Calls.mono (HRd2.out _ HR2.out.1.up) ?_
          rintro e W4 ⟨p, rfl, hB3, hf3, hb3⟩
          have HR4 : Hid (Rd w W4 t a1 c1 (deL t v k) ∧ At W4 bb #[.slice none 0 0, .slice none 0 0, .slice none 0 0, .slice none 0 0] ∧ (∀ j : Nat, ∀ o : Int, W4.cell? ⟨bb, j, none⟩ ≠ some (.int .i8 o)) ∧ w.heap.size < bb ∧ (∀ A, a1 = some A → A.block ≠ bb)) := ⟨HR2.out.1.next hb3, HR2.out.2.1.below hb3 HR2.out.2.1.lt, kind_up HR2.out.2.2.1 hb3 HR2.out.2.1.lt, HR2.out.2.2.2⟩
          have HB4 : Hid (BnIn W4 (bdX t (sv t v k)) p) := hB3
          have HB3 : Hid (True ∧ ∀ j, j < 4 → ∀ A, p.a j = some A → ∀ A', a1 = some A' → A.block ≠ A'.block) := ⟨trivial, fun j hj A hA A' hA' => by have h1 := hf3 j hj A hA; have h2 := HR2.out.1.blk A' hA'; omega⟩
          clear hB3 hf3
          clear hb3
          refine hK.out _ _ HR4.out.1.t (fun hHeld => ?_)
          clear hK K
          refine wpAnyH_take (i := 8) (v := .tuple #[bval (bdX t (sv t v k)) p, .bool true]) rfl (by kernel_rfl) (by kernel_rfl) (by kernel_rfl) (fun _ _ _ h => h) (Or.inl ⟨by rfl, fun w' hSw => by (go_simp)⟩) hHeld ?_
          simp only [Act.put, List.setIfInBounds_toArray, List.set_cons_zero, List.set_cons_succ, List.getElem_cons_zero, List.getElem_cons_succ, List.getElem_toArray]
          refine wpAnyH_take (i := 9) (v := bval (bdX t (sv t v k)) p) rfl (by kernel_rfl) (by kernel_rfl) (by kernel_rfl) (fun _ _ _ h => h) (Or.inl ⟨by rfl, fun w' hSw => by (go_simp)⟩) hHeld ?_
          simp only [Act.put, List.setIfInBounds_toArray, List.set_cons_zero, List.set_cons_succ, List.getElem_cons_zero, List.getElem_cons_succ, List.getElem_toArray]
          refine wpAnyH_take (i := 10) (v := .bool true) rfl (by kernel_rfl) (by kernel_rfl) (by kernel_rfl) (fun _ _ _ h => h) (Or.inl ⟨by rfl, fun w' hSw => by (go_simp)⟩) hHeld ?_
          simp only [Act.put, List.setIfInBounds_toArray, List.set_cons_zero, List.set_cons_succ, List.getElem_cons_zero, List.getElem_cons_succ, List.getElem_toArray]
          refine wpAnyH_ready (rs := [12]) (by kernel_rfl) (by simp) ?_
          refine AllReadyH.cons rfl (fun K hK => ?_) AllReadyH.nil
          have z0 := HR4.out.2.1.c 0 _ rfl
          have z1 := HR4.out.2.1.c 1 _ rfl
          have z2 := HR4.out.2.1.c 2 _ rfl
          have z3 := HR4.out.2.1.c 3 _ rfl
          have f0 := HR4.out.2.1.f 0
          have f1 := HR4.out.2.1.f 1
          have f2 := HR4.out.2.1.f 2
          have f3 := HR4.out.2.1.f 3
          have fl := HR4.out.2.1.lt
          go_simp
          have HX5 : Hid (Bx w ((((W4.setCell ⟨bb, 0, none⟩ (.slice (p.a 0) ((bdX t (sv t v k)).l 0).length (p.c 0))).setCell ⟨bb, 1, none⟩ (.slice (p.a 1) ((bdX t (sv t v k)).l 1).length (p.c 1))).setCell ⟨bb, 2, none⟩ (.slice (p.a 2) ((bdX t (sv t v k)).l 2).length (p.c 2))).setCell ⟨bb, 3, none⟩ (.slice (p.a 3) ((bdX t (sv t v k)).l 3).length (p.c 3))) t a1 c1 (deL t v k) bb (bdX t (sv t v k)) p) := bx_make HR4.out.1 HR4.out.2.1 HR4.out.2.2.1 HB4.out HR4.out.2.2.2.1 HR4.out.2.2.2.2 HB3.out.2
          refine hK.out _ _ HX5.out.d.t (fun hHeld => ?_)
          clear hK K z0 z1 z2 z3 f0 f1 f2 f3 fl HR4
          refine wpAnyH_take (i := 13) (v := .bool true) rfl (by kernel_rfl) (by kernel_rfl) (by kernel_rfl) (fun _ _ _ h => h) (Or.inl ⟨by rfl, fun w' hSw => by (go_simp)⟩) hHeld ?_
          simp only [Act.put, List.setIfInBounds_toArray, List.set_cons_zero, List.set_cons_succ, List.getElem_cons_zero, List.getElem_cons_succ, List.getElem_toArray]
          refine wpAnyH_done (by kernel_rfl) ?_ _
          clear hHeld
          generalize ((((W4.setCell ⟨bb, 0, none⟩ (.slice (p.a 0) ((bdX t (sv t v k)).l 0).length (p.c 0))).setCell ⟨bb, 1, none⟩ (.slice (p.a 1) ((bdX t (sv t v k)).l 1).length (p.c 1))).setCell ⟨bb, 2, none⟩ (.slice (p.a 2) ((bdX t (sv t v k)).l 2).length (p.c 2))).setCell ⟨bb, 3, none⟩ (.slice (p.a 3) ((bdX t (sv t v k)).l 3).length (p.c 3))) = W5 at *
          generalize (if cap = KK then ao else Option.map (fun (x : Addr) => x.add KK) ao) = ra at *
          clear HRd2 HX HQ
          have ba := HX5.out.b
          have m0 := ba.c 0 _ rfl
          have m1 := ba.c 1 _ rfl
          have m2 := ba.c 2 _ rfl
          have m3 := ba.c 3 _ rfl
          have ml := ba.lt
          clear ba
          have HX6 : Hid (Rd w (W5.alloc (.cells (bcs (bdX t (sv t v k)) p) 63)) t a1 c1 (deL t v k) ∧ BnIn (W5.alloc (.cells (bcs (bdX t (sv t v k)) p) 63)) (bdX t (sv t v k)) p) := ⟨HX5.out.d.next ((Below.refl _ _).alloc (Nat.le_refl _) _), HX5.out.x.below ((Below.refl _ _).alloc (Nat.le_refl _) _)⟩
          obtain ⟨cs, hcs, hrow⟩ := HX6.out.1.row
          have HCs : Hid (∀ (i : Nat) (h : i < (deL t v k).length), ∃ p' : Pb, (∀ j, j < 4 → cs[i * 4 + j]? = some (.slice (p'.a j) ((deL t v k)[i].l j).length (p'.c j))) ∧ ∀ j, j < 4 → OpsAt (W5.alloc (.cells (bcs (bdX t (sv t v k)) p) 63)) (p'.a j) ((deL t v k)[i].l j) ∧ (0 < ((deL t v k)[i].l j).length → ∀ A, p'.a j = some A → ∀ A', a1 = some A' → A.block ≠ A'.block)) := hrow
          have HCr : Hid ((W5.alloc (.cells (bcs (bdX t (sv t v k)) p) 63)).ownsRow (w.heap.size + 1) 63 4 (.slice a1 (deL t v k).length c1) (deL t v k).length cs) := hcs
          have HCk : Hid ((W5.alloc (.cells (bcs (bdX t (sv t v k)) p) 63)).ownsRow (w.heap.size + 1) 63 4 (.slice a1 k c1) k cs) := by
            have := hcs
            rw [HNx.out.2] at this
            exact this
          have hW5 : w.heap.size + 1 ≤ W5.heap.size := HX5.out.d.t.lt
          clear hcs hrow
          go_wp2_with (first
            | (at_builtin; refine wpList_append_lies _ rfl _ _ 65 rfl (w.heap.size + 1) 63 i0 bz 4 96 Tryd.underlying65 HI.out.1 HI.out.2.1 HI.out.2.2.1 HI.out.2.2.2 rfl (by decide) (.slice a1 k c1) k cs rfl HCk.out ⟨W5.heap.size, 0, none⟩ 1 1 (bcs (bdX t (sv t v k)) p).toList rfl rfl (World.news_of_block (heap_alloc_new W5 _)) (by simp [Value.oneCell']) (by decide) (by unfold maxLen; omega) (by omega) (by simp; omega) (W5.heap.size + 1) (by simp) ?_; intro g cp w7 hown hgrow hat hlt3; have HR7 : Hid (Rd w w7 t (some ⟨g, 0, none⟩) cp (deL t v (k + 1))) := (by rw [HNx.out.1]; exact HX6.out.1.add HCr.out HCs.out HX6.out.2 HX5.out.f (by rw [HNx.out.2]; exact hgrow) (by rw [HNx.out.2]; exact hown) (by rw [HNx.out.2]; exact hat.imp id fun e => by rw [e]; simp) : Rd w w7 t (some ⟨g, 0, none⟩) cp (deL t v (k + 1))); clear hown hgrow hat hlt3))
          go_roundw
          case rel => exact ⟨k + 1, cp, some ⟨g, 0, none⟩, by omega, by rw [HK1.out]; first | rfl | (congr 1; omega), rfl, HY2.out, HR7.out⟩
          case measure => rw [HMul.out]; simp [intOf]; omega
    · obtain rfl : k = cnt := by omega
      have hKe : KK = n := by rw [← hKK]; exact HMul.out
      subst hKe
      have k1 : ¬ (KK : Int) < (KK : Int) := by omega
      go_wp2_with fail
      go_ret2
      exact RdeOut.yes HQ.out.1 (HQ.out.2.at (by rw [deL_len]; exact hl)) HQ.out.2.up
end Go.Proofs.YtldfjlepbbmhnaaDoor.Bu

namespace Go.Proofs.YtldfjlepbbmhnaaDoor.Bu
open Go.ChangeShapes Go.WideShapes Go.ChangeAt Go.RowKit
open _root_.Go.Proofs.YtldfjlepbbmhnaaDoor.Op
open _root_.Go.Proofs.YtldfjlepbbmhnaaDoor.Tb (Tab TabAt Bnds four tabAt_new ckR)
open _root_.Go.Proofs.YtldfjlepbbmhnaaDoor.So
set_option maxRecDepth 20000
theorem bs_nil (W : World) (a : Option Addr) : BsAt W a [] := ⟨by simp, fun h => by simp at h⟩
def LD (t : Tab) (v : Nat → Int) (n : Nat) : List Bn := if deE t v n = 0 then deL t v (n / ofs t 4) else []
theorem rdec_uni (ao : Option Addr) (n cap : Nat) (v : Nat → Int) (t : Tab) (w : World) (hx : Ws w ao n v) (hc : n ≤ cap) (hn : n ≤ 17592186044416) :
    Calls Tryd.prog 26 #[.slice ao n cap, t.val] w fun e w' => ∃ a c, e = .returned (.tuple #[.slice a (LD t v n).length c, .int .i64 (deE t v n)]) ∧ BsAt w' a (LD t v n) ∧ Below w.heap.size w w' := by
  cases ht : t.ok
  · have e1 : deE t v n = 20 := by simp [deE, ht]
    rw [show LD t v n = [] by simp [LD, e1], e1]
    refine (rdec_table ao n cap t w ht).mono fun e w' ⟨h1, h2⟩ => ⟨_, _, h1, bs_nil _ _, h2⟩
  · by_cases h0 : n = 0
    · subst h0
      have e1 : deE t v 0 = 0 := by simp [deE, ht, deB]
      rw [show LD t v 0 = [] by simp [LD, e1, deL], e1]
      refine (rdec_none ao cap t w ht).mono fun e w' ⟨h1, h2⟩ => ⟨_, _, h1, bs_nil _ _, h2⟩
    · by_cases hm : n % ofs t 4 = 0
      · by_cases hl : 65536 < n / ofs t 4
        · have e1 : deE t v n = 3 := by simp [deE, ht, hm, hl]
          rw [show LD t v n = [] by simp [LD, e1], e1]
          refine (rdec_long ao n cap t w ht hn h0 hm hl).mono fun e w' ⟨h1, h2⟩ => ⟨_, _, h1, bs_nil _ _, h2⟩
        · have := rdec_any ao n cap v t w hx hc ht hn h0 hm (by omega)
          unfold RdeOut at this
          cases hw : deB t v (n / ofs t 4)
          · have e1 : deE t v n = 210 := by simp [deE, ht, hl, hw, hm]
            rw [show LD t v n = [] by simp [LD, e1], e1]
            rw [hw] at this
            refine this.mono fun e w' ⟨h1, h2⟩ => ⟨_, _, h1, bs_nil _ _, h2⟩
          · have e1 : deE t v n = 0 := by simp [deE, ht, hl, hw, hm]
            rw [show LD t v n = deL t v (n / ofs t 4) by simp [LD, e1], e1, deL_len]
            rw [hw] at this
            exact this
      · have e1 : deE t v n = 210 := by simp [deE, ht, hm]
        rw [show LD t v n = [] by simp [LD, e1], e1]
        refine (rdec_odd ao n cap t w ht h0 hm).mono fun e w' ⟨h1, h2⟩ => ⟨_, _, h1, bs_nil _ _, h2⟩
end Go.Proofs.YtldfjlepbbmhnaaDoor.Bu
