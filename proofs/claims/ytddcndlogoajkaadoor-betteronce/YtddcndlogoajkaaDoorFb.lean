/- What is known of each register, as it lies in memory (facts: fold, allKnown, note): read off the program by the walk. Conditions: said at each. -/
import Derived.Test.YtddcndlogoajkaaDoorFa
import Derived.Test.YtddcndlogoajkaaDoorBa
namespace Go.Proofs.YtddcndlogoajkaaDoor.L8.Bt
open Go.ChangeShapes Go.WideShapes Go.ChangeAt Go.RowKit
open _root_.Go.Proofs.YtddcndlogoajkaaDoor.L8.Op _root_.Go.Proofs.YtddcndlogoajkaaDoor.L8.So
open _root_.Go.Proofs.YtddcndlogoajkaaDoor.L8.Lv (rdL wOf PsOk)
open _root_.Go.Proofs.YtddcndlogoajkaaDoor.L8.Li (Rl reads_sl)
set_option maxRecDepth 20000

/-- What is known, at the head of a block. -/
structure Fk (w : World) (q : Nat) (K : Kn) : Prop where
  lt : q < w.heap.size
  fz : ∀ j : Nat, w.frozen? ⟨q, j, none⟩ = false
  b : ∀ r : Nat, r < 32 → w.cell? ⟨q, r * 2, none⟩ = some (.bool (K r).isSome)
  n : ∀ r : Nat, r < 32 → w.cell? ⟨q, r * 2 + 1, none⟩ = some (.int .i64 ((K r).getD 0))
theorem Fk.below {w w' : World} {q : Nat} {K : Kn} (h : Fk w q K) (hb : Below w.heap.size w w') : Fk w' q K :=
  ⟨Nat.lt_of_lt_of_le h.lt hb.size, fun j => by rw [(bcell hb).2 _ _ h.lt]; exact h.fz j, fun r hr => by rw [(bcell hb).1 _ _ h.lt]; exact h.b r hr, fun r hr => by rw [(bcell hb).1 _ _ h.lt]; exact h.n r hr⟩
theorem Fk.fr {X : Nat → Prop} {w w' : World} {q : Nat} {K : Kn} (h : Fk w q K) (g : Fr X w w') (hx : ¬ X q) : Fk w' q K :=
  ⟨Nat.lt_of_lt_of_le h.lt g.size, fun j => by rw [g.frozen h.lt hx]; exact h.fz j, fun r hr => (g.cell h.lt hx _).trans (h.b r hr), fun r hr => (g.cell h.lt hx _).trans (h.n r hr)⟩
theorem Fk.put {w : World} {q : Nat} {K : Kn} (h : Fk w q K) {d : Nat} (hd : d < 32) (v : Option Int) : Fk ((w.setCell ⟨q, d * 2, none⟩ (.bool v.isSome)).setCell ⟨q, d * 2 + 1, none⟩ (.int .i64 (v.getD 0))) q (putK K d v) := by
  refine ⟨by simpa using h.lt, fun j => by rw [World.frozen?_setCell, World.frozen?_setCell]; exact h.fz j, fun r hr => ?_, fun r hr => ?_⟩
  · unfold putK
    by_cases e : r = d
    · subst e
      rw [if_pos rfl, co (by omega), cs (h.b r hr)]
    · rw [if_neg e, co (by omega), co (by omega)]
      exact h.b r hr
  · unfold putK
    by_cases e : r = d
    · subst e
      rw [if_pos rfl, cs ((co (by omega)).trans (h.n r hr))]
    · rw [if_neg e, co (by omega), co (by omega)]
      exact h.n r hr
theorem allK_no {K : Kn} {xs : List Nat} {k : Nat} (h : k < xs.length) (e : (K xs[k]).isSome = false) : false = allK K xs := by
  unfold allK
  cases hx : xs.all fun r => (K r).isSome with
  | false => rfl
  | true =>
    have := List.all_eq_true.1 hx _ (List.getElem_mem h)
    rw [e] at this; cases this
theorem allK_yes {K : Kn} {xs : List Nat} (h : ∀ (j : Nat) (hj : j < xs.length), (K xs[j]).isSome = true) : true = allK K xs := by
  symm
  refine List.all_eq_true.2 fun o ho => ?_
  obtain ⟨i, hi, rfl⟩ := List.getElem_of_mem ho
  exact h i hi
set_option maxHeartbeats 1000000 in
theorem allKnown_any (q : Nat) (K : Kn) (a : Option Addr) (c : Nat) (xs : List Nat) (w : World) (hF : Fk w q K) (hR : Rl w a xs) (hx : ∀ r ∈ xs, r < 32) (hl : xs.length ≤ 2) :
    Calls Tryd.prog 33 #[.pointer (some ⟨q, 0, none⟩), .slice a xs.length c] w fun e w' => e = .returned (.bool (allK K xs)) ∧ w' = w := by
  have HF : Hid _ := hF
  have HR : Hid _ := hR
  have HX : Hid _ := hx
  clear hF hR hx
  go_enter Tryd.func33, Tryd.ntmps33
  go_wp2
  go_loop [9] (fun i => ∃ k : Nat, k ≤ xs.length ∧ i = .int .i64 k ∧ ∀ (j : Nat) (hj : j < xs.length), j < k → (K xs[j]).isSome = true) (fun i => xs.length - (intOf i).toNat)
  case atStart => exact ⟨0, by omega, rfl, fun j _ hj => by omega⟩
  case round =>
    obtain ⟨k, hk, rfl, hok⟩ := hrel
    have HK : Hid _ := hok
    clear hok
    by_cases hlt : k < xs.length
    · obtain ⟨b, rfl, hb, hc⟩ := HR.out.is (by omega)
      have cc := hc k hlt
      have hr := HX.out _ (List.getElem_mem hlt)
      have cb := HF.out.b _ hr
      have hri : ((xs[k] : Nat) : Int) < 32 := by omega
      clear hc HR HF
      generalize hg : xs[k] = r at *
      have HG : Hid (xs[k] = r) := hg
      clear hg
      cases hs : (K r).isSome
      · have HS : Hid _ := hs
        rw [hs] at cb
        clear hs
        go_wp2
        go_ret
        exact ⟨ret_bool (allK_no hlt (by rw [HG.out]; exact HS.out)), rfl⟩
      · have HS : Hid _ := hs
        rw [hs] at cb
        clear hs
        go_wp2
        go_roundw
        case rel =>
          refine ⟨k + 1, by omega, by go_num, fun j hj hjk => ?_⟩
          rcases Nat.lt_or_ge j k with h | h
          · exact HK.out j hj h
          · obtain rfl : j = k := by omega
            rw [HG.out]; exact HS.out
        case measure => simp [intOf]; omega
    · obtain rfl : k = xs.length := by omega
      go_wp2
      go_ret
      exact ⟨ret_bool (allK_yes fun j hj => HK.out j hj hj), rfl⟩

/-- What comes of note. -/
structure Nt (w w' : World) (q : Nat) (K : Kn) : Prop where
  k : Fk w' q K
  f : Fr (One q) w w'
set_option maxHeartbeats 2000000 in
theorem note_any (q : Nat) (K : Kn) (o : O) (w : World) (hF : Fk w q K) (ho : o.Ok) :
    Calls Tryd.prog 27 #[.pointer (some ⟨q, 0, none⟩), o.val] w fun e w' => e = .returned (.tuple #[]) ∧ Nt w w' q (ntO K o) := by
  have HW0 := fun w => writes_any o w ho
  have hdf := fun (h : wrB o = true) => (Lv.small_of o ho).2 o.d.toNat (by simp [Lv.wOf, h])
  have hdd : wrD o = if wrB o then o.d else 0 := rfl
  have hqw := hF.lt
  have HF : Hid _ := hF
  have ho0 := ho.d0
  unfold ntO
  cases hw : wrB o with
  | false =>
    rw [hw] at HW0
    have HW : Hid _ := HW0
    simp only [Bool.false_eq_true, if_false]
    clear HW0 hdf hw hF ho hdd
    go_enter Tryd.func27, Tryd.ntmps27
    go_wp2_with (first
      | (go_at_call 36; go_loud (refine Calls.mono (HW.out _) ?_; rintro e w1 ⟨rfl, hb⟩; obtain ⟨a1, hb0, hz⟩ := one_new w _ _ hb; have HB : Hid (Below w.heap.size w w1) := hb0; clear hb hb0 a1 HW)))
    go_end0
    exact ⟨rfl, HF.out.below HB.out, Fr.of HB.out⟩
  | true =>
    have hd := hdf hw
    rw [hw] at hdd
    simp only [if_true] at hdd
    rw [hw, hdd] at HW0
    have HW : Hid _ := HW0
    simp only [if_true]
    obtain ⟨n, hn⟩ : ∃ n : Nat, o.d = n := ⟨o.d.toNat, by omega⟩
    have hn' : o.d.toNat = n := by omega
    rw [hn'] at hd ⊢
    have hni : (n : Int) < 32 := by omega
    have hqne : ¬ q = w.heap.size := by omega
    have hqne' : ¬ w.heap.size = q := by omega
    clear HW0 hw hF ho hdd hn' hdf
    obtain ⟨op, d, na, nb, im⟩ := o
    simp only at hn
    subst hn
    by_cases hc : op = 1
    · subst hc
      simp only [if_true]
      go_enter Tryd.func27, Tryd.ntmps27
      go_wp2_with (first
        | (go_at_call 36; go_loud (refine Calls.mono (HW.out _) ?_; rintro e w1 ⟨rfl, hb⟩; obtain ⟨a1, hb0, hz⟩ := one_new w _ _ hb; have c0 := a1.c 0 _ rfl; have c4 := a1.c 4 _ rfl; have HB : Hid (Below w.heap.size w w1) := hb0; have HQ : Hid (Fk w1 q K) := HF.out.below hb0; have e0 := HQ.out.b n hd; have e1 := HQ.out.n n hd; have f0 := HQ.out.fz (n * 2); have f1 := HQ.out.fz (n * 2 + 1); clear hb hb0 a1 HW)))
      go_region
      all_goals go_wp2_with fail
      all_goals
        go_end0
        exact ⟨rfl, (HQ.out.put hd (some im)).fr (X := Non) (Fr.refl Non _).drew (fun h => h), (((Fr.of (X := One q) HB.out).setCell (.inr rfl) _ _).setCell (.inr rfl) _ _).drew⟩
    · rw [if_neg hc]
      go_enter Tryd.func27, Tryd.ntmps27
      go_wp2_with (first
        | (go_at_call 36; go_loud (refine Calls.mono (HW.out _) ?_; rintro e w1 ⟨rfl, hb⟩; obtain ⟨a1, hb0, hz⟩ := one_new w _ _ hb; have c0 := a1.c 0 _ rfl; have HB : Hid (Below w.heap.size w w1) := hb0; have HQ : Hid (Fk w1 q K) := HF.out.below hb0; have e0 := HQ.out.b n hd; have e1 := HQ.out.n n hd; have f0 := HQ.out.fz (n * 2); have f1 := HQ.out.fz (n * 2 + 1); clear hb hb0 a1 HW)))
      go_end0
      exact ⟨rfl, HQ.out.put hd none, ((Fr.of (X := One q) HB.out).setCell (.inr rfl) _ _).setCell (.inr rfl) _ _⟩

end Go.Proofs.YtddcndlogoajkaaDoor.L8.Bt
