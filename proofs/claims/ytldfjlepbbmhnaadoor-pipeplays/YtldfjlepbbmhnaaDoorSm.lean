/- What stays of memory while some blocks turn. Conditions: none. -/
import Derived.Test.YtldfjlepbbmhnaaDoorRk
import Derived.Deep.DeepCutAuto
import Derived.Deep.MidRow
import Derived.Test.YtldfjlepbbmhnaaDoorChecked
import Derived.ProofKit
import Derived.WalkKit
import Derived.WalkLawsBesides
import Derived.ChangeOld
import Derived.Below
import Derived.BigRegion
import Derived.BigQuiet
import Derived.Deep.LoopGhost
import Derived.Deep.QuietTactic
namespace Go.Proofs.YtldfjlepbbmhnaaDoor.Bu
open Go.ChangeShapes Go.WideShapes Go.ChangeAt Go.RowKit
open _root_.Go.Proofs.YtldfjlepbbmhnaaDoor.Op
open _root_.Go.Proofs.YtldfjlepbbmhnaaDoor.Tb (Tab TabAt Bnds four tabAt_new ckR)
set_option maxRecDepth 20000

/-- Where a bundle's lists lie. -/
structure Pb where
  a : Nat → Option Addr
  c : Nat → Nat
abbrev bcs (x : Bn) (p : Pb) : Array Value := #[.slice (p.a 0) (x.l 0).length (p.c 0), .slice (p.a 1) (x.l 1).length (p.c 1), .slice (p.a 2) (x.l 2).length (p.c 2), .slice (p.a 3) (x.l 3).length (p.c 3)]
abbrev bval (x : Bn) (p : Pb) : Value := .agg #[.slice (p.a 0) (x.l 0).length (p.c 0), .slice (p.a 1) (x.l 1).length (p.c 1), .slice (p.a 2) (x.l 2).length (p.c 2), .slice (p.a 3) (x.l 3).length (p.c 3)]
structure BnIn (w : World) (x : Bn) (p : Pb) : Prop where
  o : ∀ k, k < 4 → OpsAt w (p.a k) (x.l k)
theorem BnIn.below {w w' : World} {x : Bn} {p : Pb} (h : BnIn w x p) (hb : Below w.heap.size w w') : BnIn w' x p := ⟨fun k hk => (h.o k hk).below hb⟩
structure NAt (w : World) (b f : Nat) (x : Bn) (p : Pb) : Prop where
  c : ∀ k, k < 4 → w.cell? ⟨b, f + k, none⟩ = some (.slice (p.a k) (x.l k).length (p.c k))
theorem NAt.below {w w' : World} {b f B : Nat} {x : Bn} {p : Pb} (h : NAt w b f x p) (hb : Below B w w') (z : b < B) : NAt w' b f x p := ⟨fun k hk => by rw [(bcell hb).1 _ _ z]; exact h.c k hk⟩
/-- Bundles in memory. -/
structure BsAt (w : World) (ao : Option Addr) (ls : List Bn) : Prop where
  len : ls.length ≤ 2199023255552
  is : 0 < ls.length → ∃ b f, ao = some ⟨b, f, none⟩ ∧ b < w.heap.size ∧ ∀ (i : Nat) (h : i < ls.length), ∃ p, NAt w b (f + i * 4) ls[i] p ∧ BnIn w ls[i] p
theorem BsAt.below {w w' : World} {ao : Option Addr} {ls : List Bn} (h : BsAt w ao ls) (hb : Below w.heap.size w w') : BsAt w' ao ls := by
  refine ⟨h.len, fun h0 => ?_⟩
  obtain ⟨b, f, e, z, hx⟩ := h.is h0
  refine ⟨b, f, e, Nat.lt_of_lt_of_le z hb.size, fun i hi => ?_⟩
  obtain ⟨p, h1, h2⟩ := hx i hi
  exact ⟨p, h1.below hb z, h2.below hb⟩

theorem idx24 (s : Nat → Value) (k : Nat) (h : k < 4) (w : World) (hs : ∀ j, j < 4 → ∃ n, s j = .int .i64 n) : (Instr.index 23 (.agg #[s 0, s 1, s 2, s 3]) (.int .i64 k)).run Tryd.prog w = .ok (s k) w := by
  obtain ⟨n0, e0⟩ := hs 0 (by decide)
  obtain ⟨n1, e1⟩ := hs 1 (by decide)
  obtain ⟨n2, e2⟩ := hs 2 (by decide)
  obtain ⟨n3, e3⟩ := hs 3 (by decide)
  match k, h with
  | 0, _ => rw [e0, e1, e2, e3]; rfl
  | 1, _ => rw [e0, e1, e2, e3]; rfl
  | 2, _ => rw [e0, e1, e2, e3]; rfl
  | 3, _ => rw [e0, e1, e2, e3]; rfl
theorem idx34 (x : Bn) (p : Pb) (k : Nat) (h : k < 4) (w : World) : (Instr.index 61 (bval x p) (.int .i64 k)).run Tryd.prog w = .ok (.slice (p.a k) (x.l k).length (p.c k)) w := by
  match k, h with
  | 0, _ => rfl
  | 1, _ => rfl
  | 2, _ => rfl
  | 3, _ => rfl

theorem tab_in {t : Tab} (h : t.ok = true) {k : Nat} (hk : k < 4) : 0 ≤ t.u k ∧ t.u k ≤ 8 := by
  have := (Tb.ok_parts h).2 k hk
  exact Tb.inB_iff this.1
theorem u_nat {t : Tab} (h : t.ok = true) {k : Nat} (hk : k < 4) : t.u k = (U t k : Int) := by
  have := tab_in h hk
  unfold U
  omega
theorem u_le {t : Tab} (h : t.ok = true) {k : Nat} (hk : k < 4) : U t k ≤ 8 := by
  have := tab_in h hk
  unfold U
  omega
theorem ofs_le {t : Tab} (h : t.ok = true) : ofs t 4 ≤ 32 := by
  have h0 := u_le h (k := 0) (by decide)
  have h1 := u_le h (k := 1) (by decide)
  have h2 := u_le h (k := 2) (by decide)
  have h3 := u_le h (k := 3) (by decide)
  simp only [ofs]
  omega

set_option maxHeartbeats 1000000 in
theorem width_any (t : Tab) (w : World) (hG : Bnds w) (ht : t.ok = true) :
    Calls Tryd.prog 37 #[t.val] w fun e w' => e = .returned (.int .i64 (ofs t 4 : Int)) ∧ Below w.heap.size w w' := by
  have HC : Hid (∀ W, Below w.heap.size w W → Calls Tryd.prog 35 #[t.val] W fun e w' => e = .returned (.int .i64 0) ∧ Below W.heap.size W w') := fun W hb => by
    have := Tb.check_any t W (hG.below hb hG.big)
    unfold ckR at this
    rw [if_pos ht] at this
    exact this
  have HI : Hid (∀ k : Nat, k < 4 → ∀ w, (Instr.index 23 (.agg #[.int .i64 (t.u 0), .int .i64 (t.u 1), .int .i64 (t.u 2), .int .i64 (t.u 3)]) (.int .i64 k)).run Tryd.prog w = .ok (.int .i64 (t.u k)) w) := fun k hk w => idx24 (fun j => .int .i64 (t.u j)) k hk w fun j _ => ⟨_, rfl⟩
  have HU : Hid (∀ k, k < 4 → t.u k = (U t k : Int) ∧ U t k ≤ 8) := fun k hk => ⟨u_nat ht hk, u_le ht hk⟩
  clear ht hG
  unfold Tab.val at *
  go_enter Tryd.func37, Tryd.ntmps37
  go_wp2_with (first | (go_at_call 35; refine Calls.mono (HC.out _ (by go_grown)) ?_; rintro e w1 ⟨rfl, hb⟩; obtain ⟨a1, hb0, hz⟩ := one_new w _ _ hb; have HB : Hid (Below w.heap.size w w1) := hb0; have t0 := a1.c 0 _ rfl; have t1 := a1.c 1 _ rfl; have t2 := a1.c 2 _ rfl; have t3 := a1.c 3 _ rfl; clear hb hb0 a1))
  clear HC
  go_loop [3, 11] (fun s i => ∃ k : Nat, k ≤ 4 ∧ i = .int .i64 k ∧ s = .int .i64 (ofs t k : Int) ∧ ofs t k ≤ 8 * k) (fun _ i => 4 - (intOf i).toNat)
  case atStart => exact ⟨0, by omega, rfl, rfl, Nat.le_refl _⟩
  case round =>
    obtain ⟨k, hk, rfl, rfl, ho⟩ := hrel
    by_cases hlt : k < 4
    · have hi := HI.out k hlt
      obtain ⟨hu, hu8⟩ := HU.out k hlt
      have HO : Hid ((ofs t (k + 1) : Int) = ofs t k + U t k ∧ ofs t (k + 1) = ofs t k + U t k) := ⟨by show ((ofs t k + U t k : Nat) : Int) = _; omega, rfl⟩
      rw [hu] at hi
      clear hu
      generalize ofs t k = s at *
      generalize U t k = u at *
      go_wp2
      go_round
      case rel => exact ⟨k + 1, by omega, by go_num, by rw [HO.out.1], by rw [HO.out.2]; omega⟩
      case measure => simp [intOf]; omega
    · obtain rfl : k = 4 := by omega
      go_wp2
      go_ret
      exact ⟨rfl, HB.out⟩

theorem drewN_bu {B : Nat} {a w : World} (h : Below B a w) (n : Nat) : Below B a (w.drewN n) := ⟨h.os, h.tape, h.output, h.size, h.block⟩
set_option maxHeartbeats 1000000 in
theorem allOf_any (a : Option Addr) (cap : Nat) (xs : List O) (c : Int) (w : World) (h : OpsAt w a xs) :
    Calls Tryd.prog 56 #[.slice a xs.length cap, .int .i64 c] w fun e w' => e = .returned (.bool (xs.all (isB c))) ∧ Below w.heap.size w w' := by
  have HO : Hid (OpsAt w a xs) := h
  have HI : Hid (∀ o, o ∈ xs → ∀ W, Calls Tryd.prog 70 #[o.val, .int .i64 c] W fun e w' => e = .returned (.bool (isB c o)) ∧ Below W.heap.size W w') := fun o ho W => isOf_any o c W (h.ok o ho)
  have hlen := h.len
  clear h
  obtain ⟨R, hR⟩ : ∃ R, xs.all (isB c) = R := ⟨_, rfl⟩
  have HR0 : Hid (xs.all (isB c) = R) := hR
  rw [hR]
  clear hR
  go_enter Tryd.func56, Tryd.ntmps56
  go_wp2
  go_loopw [9] (fun i wr => ∃ k : Nat, k ≤ xs.length ∧ i = .int .i64 k ∧ (xs.take k).all (isB c) = true ∧ Below w.heap.size w wr) (fun i _ => xs.length - (intOf i).toNat)
  case atStart => exact ⟨0, by omega, rfl, by simp, Below.refl _ _⟩
  case round =>
    rename World => wr
    obtain ⟨k, hk, rfl, ha, hbw⟩ := hrel
    have HA : Hid ((xs.take k).all (isB c) = true ∧ Below w.heap.size w wr) := ⟨ha, hbw⟩
    clear ha hbw
    by_cases hlt : k < xs.length
    · obtain ⟨b, f, rfl, hz, hx⟩ := (HO.out.below HA.out.2).is (by omega)
      obtain ⟨q0, q1, q2, q3, q4⟩ := hx k hlt
      have HR : Hid (∀ W, Calls Tryd.prog 70 #[xs[k].val, .int .i64 c] W fun e w' => e = .returned (.bool (isB c xs[k])) ∧ Below W.heap.size W w') := HI.out _ (List.getElem_mem hlt)
      have HT : Hid (isB c xs[k] = true → (xs.take (k + 1)).all (isB c) = true) := fun e => by rw [List.take_succ_eq_append_getElem hlt, List.all_append, HA.out.1]; simp [e]
      have HF : Hid (isB c xs[k] = false → R = false) := fun e => by
        rw [← HR0.out]
        cases hb : xs.all (isB c)
        · rfl
        · rw [List.all_eq_true.1 hb _ (List.getElem_mem hlt)] at e; cases e
      clear hx
      generalize xs[k] = o at *
      cases hB : isB c o
      · rw [hB] at HR
        have hF := HF.out hB
        clear hB HT
        go_wp2_with (first | (go_at_call 70; refine Calls.mono (HR.out _) ?_; rintro e w1 ⟨rfl, hb⟩; obtain ⟨-, hb0, hz1⟩ := one_new wr _ _ hb; have HB : Hid (Below w.heap.size w w1) := HA.out.2.trans (hb0.mono HA.out.2.size); clear hb hb0))
        go_ret
        exact ⟨ret_bool hF.symm, HB.out⟩
      · rw [hB] at HR
        have HT2 : Hid _ := HT.out hB
        clear hB HF HT
        go_wp2_with (first | (go_at_call 70; refine Calls.mono (HR.out _) ?_; rintro e w1 ⟨rfl, hb⟩; obtain ⟨-, hb0, hz1⟩ := one_new wr _ _ hb; have HB : Hid (Below w.heap.size w w1) := HA.out.2.trans (hb0.mono HA.out.2.size); clear hb hb0))
        go_roundw
        case rel => exact ⟨k + 1, by omega, by go_num, HT2.out, HB.out⟩
        case measure => simp [intOf]; omega
    · obtain rfl : k = xs.length := by omega
      go_wp2
      go_ret
      exact ⟨ret_bool (by rw [← HR0.out, ← HA.out.1, List.take_length]), HA.out.2⟩
end Go.Proofs.YtldfjlepbbmhnaaDoor.Bu
namespace Go.Proofs.YtldfjlepbbmhnaaDoor.Bu
open Go.ChangeShapes Go.WideShapes Go.ChangeAt Go.RowKit
open _root_.Go.Proofs.YtldfjlepbbmhnaaDoor.Op
open _root_.Go.Proofs.YtldfjlepbbmhnaaDoor.Tb (Tab TabAt Bnds four tabAt_new ckR)
set_option maxRecDepth 20000

/-- A bundle and a table, boxed. -/
theorem two_boxed (w : World) (x : Bn) (p : Pb) (t : Tab) (ty ty' : TypeId) : TabAt ((w.alloc (.cells (bcs x p) ty)).alloc (.cells t.cells ty')) (w.heap.size + 1) t ∧ Below w.heap.size w ((w.alloc (.cells (bcs x p) ty)).alloc (.cells t.cells ty')) := by
  have h := tabAt_new (w.alloc (.cells (bcs x p) ty)) t ty'
  rw [show (w.alloc (.cells (bcs x p) ty)).heap.size = w.heap.size + 1 by simp] at h
  exact ⟨h, by go_grown⟩
set_option maxHeartbeats 1000000 in
theorem wellFormed_any (x : Bn) (p : Pb) (t : Tab) (w : World) (hx : BnIn w x p) (ht : t.ok = true) :
    Calls Tryd.prog 36 #[bval x p, t.val] w fun e w' => e = .returned (.bool (wfB t x)) ∧ Below w.heap.size w w' := by
  have HU : Hid (∀ k, k < 4 → t.u k = (U t k : Int) ∧ U t k ≤ 8) := fun k hk => ⟨u_nat ht hk, u_le ht hk⟩
  have HI : Hid (∀ k : Nat, k < 4 → ∀ w, (Instr.index 61 (bval x p) (.int .i64 k)).run Tryd.prog w = .ok (.slice (p.a k) (x.l k).length (p.c k)) w) := fun k hk w => idx34 x p k hk w
  have HA : Hid (∀ k : Nat, k < 4 → ∀ W, Below w.heap.size w W → Calls Tryd.prog 56 #[.slice (p.a k) (x.l k).length (p.c k), .int .i64 k] W fun e w' => e = .returned (.bool ((x.l k).all (isB k))) ∧ Below W.heap.size W w') := fun k hk W hb => allOf_any _ _ _ _ W ((hx.o k hk).below hb)
  have HL : Hid (∀ k, k < 4 → (x.l k).length ≤ 8796093022208) := fun k hk => (hx.o k hk).len
  have HS : Hid (TabAt ((w.alloc (.cells (bcs x p) 63)).alloc (.cells t.cells 25)) (w.heap.size + 1) t ∧ Below w.heap.size w ((w.alloc (.cells (bcs x p) 63)).alloc (.cells t.cells 25))) := two_boxed w x p t 63 25
  clear hx ht
  unfold Tab.val at *
  go_enter Tryd.func36, Tryd.ntmps36
  go_upto_region 2 with fail
  generalize ((w.alloc (.cells (bcs x p) 63)).alloc (.cells t.cells 25)) = W0 at *
  go_loopw [9] (fun i wr => ∃ k : Nat, k ≤ 4 ∧ i = .int .i64 k ∧ wfK t x k = true ∧ TabAt wr (w.heap.size + 1) t ∧ Below w.heap.size w wr) (fun i _ => 4 - (intOf i).toNat)
  case atStart => exact ⟨0, by omega, rfl, rfl, HS.out⟩
  case round =>
    rename World => wr
    obtain ⟨k, hk, rfl, h1, h2, h3⟩ := hrel
    have HQ : Hid (wfK t x k = true ∧ TabAt wr (w.heap.size + 1) t ∧ Below w.heap.size w wr) := ⟨h1, h2, h3⟩
    clear h1 h2 h3 HS
    by_cases hlt : k < 4
    · have hi := HI.out k hlt
      have tu := HQ.out.2.1.cu k hlt
      rw [(HU.out k hlt).1] at tu
      have tz := HQ.out.2.1.lt
      have hu8 := (HU.out k hlt).2
      have hln := HL.out k hlt
      have k0 : (0 : Int) ≤ (k : Int) := by omega
      have k4 : (k : Int) < 4 := by omega
      have HA1 : Hid (∀ W, Below w.heap.size w W → Calls Tryd.prog 56 #[.slice (p.a k) (x.l k).length (p.c k), .int .i64 k] W fun e w' => e = .returned (.bool ((x.l k).all (isB k))) ∧ Below W.heap.size W w') := HA.out k hlt
      have HC : Hid (clsB t x k = (decide ((x.l k).length ≤ U t k) && (x.l k).all (isB k))) := rfl
      have HN : Hid (clsB t x k = false → wfB t x = false) := fun e => wfK_no hlt e
      have HY : Hid (clsB t x k = true → wfK t x (k + 1) = true) := fun e => by show (wfK t x k && clsB t x k) = true; rw [HQ.out.1, e]; rfl
      generalize clsB t x k = cb at *
      generalize (x.l k).all (isB k) = ab at *
      generalize (x.l k).length = n at *
      generalize U t k = u at *
      generalize p.a k = pa at *
      generalize p.c k = pc at *
      by_cases hlu : n ≤ u
      · have hlu' : (n : Int) ≤ (u : Int) := by omega
        have hc := HC.out
        rw [decide_eq_true hlu, Bool.true_and] at hc
        cases ab
        · have hR := HN.out hc
          clear HC HN HY hc hlu
          go_wp2_with (first | (go_at_call 56; refine Calls.mono (HA1.out _ HQ.out.2.2) ?_; rintro e w1 ⟨rfl, hb⟩; have HB : Hid (Below w.heap.size w w1) := HQ.out.2.2.trans (hb.mono HQ.out.2.2.size); clear hb))
          go_ret
          exact ⟨ret_bool hR.symm, HB.out⟩
        · have HY2 : Hid _ := HY.out hc
          clear HC HN HY hc hlu
          go_wp2_with (first | (go_at_call 56; refine Calls.mono (HA1.out _ HQ.out.2.2) ?_; rintro e w1 ⟨rfl, hb⟩; have HB : Hid (TabAt w1 (w.heap.size + 1) t ∧ Below w.heap.size w w1) := ⟨HQ.out.2.1.below hb HQ.out.2.1.lt, HQ.out.2.2.trans (hb.mono HQ.out.2.2.size)⟩; clear hb))
          go_roundw
          case rel => exact ⟨k + 1, by omega, by go_num, HY2.out, HB.out⟩
          case measure => simp [intOf]; omega
      · have hlu' : (u : Int) < (n : Int) := by omega
        have hc := HC.out
        rw [decide_eq_false hlu, Bool.false_and] at hc
        have hR := HN.out hc
        clear HC HN HY hc hlu
        go_wp2_with fail
        go_ret
        exact ⟨ret_bool hR.symm, HQ.out.2.2⟩
    · obtain rfl : k = 4 := by omega
      go_wp2
      go_ret
      exact ⟨ret_bool HQ.out.1.symm, HQ.out.2.2⟩

theorem ck_bad {t : Tab} (h : t.ok = false) : ckR t = 20 := by unfold ckR; rw [h]; rfl
theorem ck_good {t : Tab} (h : t.ok = true) : ckR t = 0 := by unfold ckR; rw [h]; rfl
end Go.Proofs.YtldfjlepbbmhnaaDoor.Bu
namespace Go.Proofs.YtldfjlepbbmhnaaDoor.So
open Go.ChangeShapes Go.WideShapes Go.ChangeAt Go.RowKit
set_option maxRecDepth 20000

/-- All old blocks stand, but for some. -/
structure Fr (X : Nat → Prop) (w w' : World) : Prop where
  os : w'.os = w.os
  tape : w'.tape = w.tape
  output : w'.output = w.output
  size : w.heap.size ≤ w'.heap.size
  block : ∀ k, k < w.heap.size → ¬ X k → w'.heap[k]? = w.heap[k]?
abbrev Non : Nat → Prop := fun _ => False
abbrev One (q : Nat) : Nat → Prop := fun k => k = q
theorem Fr.refl (X : Nat → Prop) (w : World) : Fr X w w := ⟨rfl, rfl, rfl, Nat.le_refl _, fun _ _ _ => rfl⟩
theorem Fr.of {X : Nat → Prop} {w w' : World} (h : Below w.heap.size w w') : Fr X w w' := ⟨h.os, h.tape, h.output, h.size, fun k hk _ => h.block k hk⟩
theorem Fr.trans {X Y : Nat → Prop} {a b c : World} (h : Fr X a b) (g : Fr Y b c) (hY : ∀ k, k < a.heap.size → Y k → X k) : Fr X a c :=
  ⟨g.os.trans h.os, g.tape.trans h.tape, g.output.trans h.output, Nat.le_trans h.size g.size, fun k hk hx => (g.block k (Nat.lt_of_lt_of_le hk h.size) fun hy => hx (hY k hk hy)).trans (h.block k hk hx)⟩
theorem Fr.then {X : Nat → Prop} {a b c : World} (h : Fr X a b) (g : Below b.heap.size b c) : Fr X a c := h.trans (Fr.of (X := Non) g) fun _ _ hy => hy.elim
theorem Fr.same {X : Nat → Prop} {a b c : World} (h : Fr X a b) (g : Fr X b c) : Fr X a c := h.trans g fun _ _ hy => hy
theorem Fr.new {X : Nat → Prop} {q : Nat} {a b c : World} (h : Fr X a b) (g : Fr (One q) b c) (hq : a.heap.size ≤ q) : Fr X a c := h.trans g fun k hk hy => by subst hy; omega
theorem Fr.below {X : Nat → Prop} {B : Nat} {w w' : World} (h : Fr X w w') (hB : B ≤ w.heap.size) (hX : ∀ k, k < B → ¬ X k) : Below B w w' := ⟨h.os, h.tape, h.output, h.size, fun k hk => h.block k (Nat.lt_of_lt_of_le hk hB) (hX k hk)⟩
theorem Fr.mono {X Y : Nat → Prop} {w w' : World} (h : Fr X w w') (hX : ∀ k, k < w.heap.size → X k → Y k) : Fr Y w w' := ⟨h.os, h.tape, h.output, h.size, fun k hk hy => h.block k hk fun hx => hy (hX k hk hx)⟩
theorem Fr.cell {X : Nat → Prop} {w w' : World} (h : Fr X w w') {b : Nat} (hb : b < w.heap.size) (hx : ¬ X b) (o : Nat) : w'.cell? ⟨b, o, none⟩ = w.cell? ⟨b, o, none⟩ := World.cell?_of_block (w := w) (h.block b hb hx)
theorem Fr.frozen {X : Nat → Prop} {w w' : World} (h : Fr X w w') {b : Nat} (hb : b < w.heap.size) (hx : ¬ X b) (o : Nat) : w'.frozen? ⟨b, o, none⟩ = w.frozen? ⟨b, o, none⟩ := World.frozen?_of_block (a := ⟨b, o, none⟩) (h.block b hb hx)
theorem Fr.setCell {X : Nat → Prop} {w w' : World} (h : Fr X w w') {b : Nat} (hb : w.heap.size ≤ b ∨ X b) (o : Nat) (v : Value) : Fr X w (w'.setCell ⟨b, o, none⟩ v) := by
  refine ⟨h.os, h.tape, h.output, by rw [World.size_setCell]; exact h.size, fun k hk hx => ?_⟩
  have hne : k ≠ b := by
    rintro rfl
    rcases hb with hb | hb
    · omega
    · exact hx hb
  rw [Below.heap_setCell _ _ _ _ hne]
  exact h.block k hk hx
theorem Fr.alloc {X : Nat → Prop} {w w' : World} (h : Fr X w w') (o : Obj) : Fr X w (w'.alloc o) := h.then ((Below.refl _ _).alloc (Nat.le_refl _) _)
theorem Fr.drewN {X : Nat → Prop} {w w' : World} (h : Fr X w w') (n : Nat) : Fr X w (w'.drewN n) := ⟨h.os, h.tape, h.output, h.size, h.block⟩
theorem Fr.drew {X : Nat → Prop} {w w' : World} (h : Fr X w w') : Fr X w w'.drew := ⟨h.os, h.tape, h.output, h.size, h.block⟩
end Go.Proofs.YtldfjlepbbmhnaaDoor.So
