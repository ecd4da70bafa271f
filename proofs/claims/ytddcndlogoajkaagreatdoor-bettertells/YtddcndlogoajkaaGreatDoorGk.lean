/- A program without what is dead (Bury): read off the program by the walk. Conditions: the program lies in memory; the variables as the program lays them. -/
import Derived.Test.YtddcndlogoajkaaGreatDoorGg
import Derived.Test.YtddcndlogoajkaaGreatDoorBa
import Derived.Test.YtddcndlogoajkaaGreatDoorGd
namespace Go.Proofs.YtddcndlogoajkaaGreatDoor.L8.Bt
open Go.ChangeShapes Go.WideShapes Go.ChangeAt Go.RowKit Go.Great
open _root_.Go.Proofs.YtddcndlogoajkaaGreatDoor.L8.Op _root_.Go.Proofs.YtddcndlogoajkaaGreatDoor.L8.So
open _root_.Go.Proofs.YtddcndlogoajkaaGreatDoor.L8.Lv (rdL wOf PsOk psOk_of)
set_option maxRecDepth 20000

def mixP (ps : List Bk) (k : Nat) : List Bk := (ps.take k).map fdBk ++ ps.drop k
theorem mixP_zero (ps : List Bk) : mixP ps 0 = ps := by simp [mixP]
theorem mixP_end (ps : List Bk) : mixP ps ps.length = fdP ps := by simp [mixP, fdP]
theorem mixP_len (ps : List Bk) (k : Nat) : (mixP ps k).length = ps.length := by
  unfold mixP
  rw [List.length_append, List.length_map, List.length_take, List.length_drop]; omega
theorem mixP_at (ps : List Bk) (k : Nat) (hk : k < ps.length) : (mixP ps k)[k]? = some ps[k] := by
  unfold mixP
  rw [List.getElem?_append_right (by rw [List.length_map, List.length_take]; omega), List.length_map, List.length_take, show k - min k ps.length = 0 by omega, List.getElem?_drop]
  simp [List.getElem?_eq_getElem hk]
theorem mixP_next (ps : List Bk) (k : Nat) (hk : k < ps.length) : mixP ps (k + 1) = (mixP ps k).set k (fdBk ps[k]) := by
  unfold mixP
  rw [List.take_add_one, List.getElem?_eq_getElem hk, List.drop_eq_getElem_cons hk]
  have hl : ((ps.take k).map fdBk).length = k := by rw [List.length_map, List.length_take]; omega
  rw [Option.toList_some, List.map_append, List.append_assoc, List.set_append_right _ _ (by omega), hl, Nat.sub_self]
  rfl
theorem le_sumN : ∀ (l : List Nat) (x : Nat), x ∈ l → x ≤ l.sum
  | a :: l, x, h => by
    rw [List.sum_cons]
    rcases List.mem_cons.1 h with rfl | h
    · omega
    · have := le_sumN l x h
      omega
theorem psG_small {ps : List Bk} (h : PsG ps) : ∀ x ∈ ps, x.ops.length ≤ 8192 ∧ x.body.length ≤ 8192 := fun x hx => by
  have h1 := le_sumN (ps.map bkN) (bkN x) (List.mem_map_of_mem hx)
  have h2 := h.s
  rw [opsN_eq] at h2
  unfold bkN at h1
  unfold bkN at h2
  try simp only at h1 h2
  omega
/-- The folding under way: the copy, the answer's cell, the copy's own. -/
structure Fd (w wr : World) (own : Nat → Nat) (g c t : Nat) (ps : List Bk) (k : Nat) : Prop where
  p : Pr wr (w.heap.size + 2) own g (mixP ps k)
  r : At wr (w.heap.size + 1) #[.slice none 0 0]
  q : At wr t #[.slice (some ⟨g, 0, none⟩) ps.length c]
  b : Below w.heap.size w wr
  o : own t = 0
theorem Fd.step {w wr w' : World} {own : Nat → Nat} {g c t : Nat} {ps : List Bk} {k : Nat} (h : Fd w wr own g c t ps k) (hp : Pr w' (w.heap.size + 2) own g (mixP ps (k + 1))) (hF : Fr (fun j => own j ≠ 0) wr w') : Fd w w' own g c t ps (k + 1) :=
  ⟨hp, at_fr h.r hF (fun q => by have := h.p.old _ q; omega), at_fr h.q hF (fun q => q h.o), h.b.trans (hF.below h.b.size fun j hj q => by have := h.p.old _ q; omega), h.o⟩
set_option maxHeartbeats 4000000 in
theorem fold_no (ao : Option Addr) (cap : Nat) (ps : List Bk) (w : World) (h : PAt w ao ps) (he : Env w) (hc : ckP ps ≠ 0) :
    Calls Tryz.prog 7 #[.agg #[.slice ao ps.length cap]] w fun e w' => e = .returned (.tuple #[.agg #[.slice none 0 0], .int .i64 (ckP ps)]) ∧ Below w.heap.size w w' := by
  have HC : Hid (∀ W, Below w.heap.size w W → Calls Tryz.prog 14 #[.agg #[.slice ao ps.length cap]] W fun e w' => e = .returned (.int .i64 (ckP ps)) ∧ Below W.heap.size W w') := fun W hb => checkP_any ao cap ps W (h.below hb) (he.up hb)
  have HB0 : Hid (Below w.heap.size w ((w.alloc (.cells #[.slice ao ps.length cap] 24)).alloc (.cells #[.slice none 0 0] 24))) := ((Below.refl _ _).alloc (Nat.le_refl _) _).alloc (by simp) _
  have hc' : (ckP ps == 0) = false := by simpa using hc
  clear h he
  generalize ckP ps = E at *
  go_enter Tryz.func7, Tryz.ntmps7
  go_wp2_with (first
    | (go_at_call 14; go_loud (refine Calls.mono (HC.out _ HB0.out) ?_; rintro e w1 ⟨rfl, hb⟩; obtain ⟨a1, a2, hb0, hz, hz1⟩ := two_new w _ _ _ _ hb; have r0 := a2.c 0 _ rfl; have f0 := a2.f 0; have r1 := a1.c 0 _ rfl; have HB : Hid (Below w.heap.size w w1) := hb0; clear hb hb0 a1 a2 HC HB0)))
  refine bodyPost_ret (v := .tuple #[.agg #[.slice none 0 0], .int .i64 E]) (by simp [results, Tryz.results7, go_sem, cs r0]) rfl ⟨rfl, HB.out.setCell (Nat.le_succ _) _⟩
set_option maxHeartbeats 4000000 in
theorem fold_ok (ao : Option Addr) (cap : Nat) (ps : List Bk) (w : World) (h : PAt w ao ps) (he : Env w) (hG : PsG ps) :
    Calls Tryz.prog 7 #[.agg #[.slice ao ps.length cap]] w fun e w' => ∃ a c, e = .returned (.tuple #[.agg #[.slice a ps.length c], .int .i64 0]) ∧ PAt w' a (fdP ps) ∧ Below w.heap.size w w' := by
  have HC : Hid (∀ W, Below w.heap.size w W → Calls Tryz.prog 14 #[.agg #[.slice ao ps.length cap]] W fun e w' => e = .returned (.int .i64 0) ∧ Below W.heap.size W w') := fun W hb => by
    have := checkP_any ao cap ps W (h.below hb) (he.up hb)
    rw [hG.ck] at this
    exact this
  have HCp : Hid (∀ W, Below w.heap.size w W → Calls Tryz.prog 19 #[.agg #[.slice ao ps.length cap]] W fun e w' => ∃ g c own, e = .returned (.agg #[.slice (some ⟨g, 0, none⟩) ps.length c]) ∧ Pr w' W.heap.size own g ps ∧ Below W.heap.size W w' ∧ ∀ b, own b ≠ 0 → W.heap.size ≤ b ∧ b < w'.heap.size) := fun W hb => copied_any ao cap ps W (h.below hb) hG.p hG.n (psG_small hG)
  have HFB : Hid (∀ (W : World) (own : Nat → Nat) (g c t k : Nat), Fd w W own g c t ps k → k < ps.length → Calls Tryz.prog 20 #[.pointer (some ⟨g, k * 6, none⟩)] W fun e w' => e = .returned (.tuple #[]) ∧ Fd w w' own g c t ps (k + 1)) := fun W own g c t k hd hk => by
    have hk2 : k < (mixP ps k).length := by rw [mixP_len]; exact hk
    have hx : (mixP ps k)[k] = ps[k] := Option.some.inj ((List.getElem?_eq_getElem hk2).symm.trans (mixP_at ps k hk))
    refine (foldBlock_any hd.p hk2 (n := ps.length) (by rw [hx]; exact hG.b _ (List.getElem_mem hk))).mono ?_
    rintro e w' ⟨rfl, h1, h2⟩
    rw [hx, ← mixP_next ps k hk] at h1
    exact ⟨rfl, hd.step h1 h2⟩
  have HB0 : Hid (Below w.heap.size w ((w.alloc (.cells #[.slice ao ps.length cap] 24)).alloc (.cells #[.slice none 0 0] 24))) := ((Below.refl _ _).alloc (Nat.le_refl _) _).alloc (by simp) _
  have hn := hG.n
  have hni : (ps.length : Int) ≤ 128 := by omega
  have hn0 : (0 : Int) ≤ (ps.length : Int) := by omega
  clear h he hG
  go_enter Tryz.func7, Tryz.ntmps7
  go_upto_region 5 with (first
    | (go_at_call 14; go_loud (refine Calls.mono (HC.out _ HB0.out) ?_; rintro e w1 ⟨rfl, hb⟩; obtain ⟨a1, a2, hb0, hz, hz1⟩ := two_new w _ _ _ _ hb; have r1 := a1.c 0 _ rfl; have HA : Hid (At w1 (w.heap.size + 1) #[.slice none 0 0] ∧ Below w.heap.size w w1 ∧ w.heap.size + 2 ≤ w1.heap.size) := ⟨a2, hb0, by omega⟩; clear hb hb0 a1 a2 HC HB0))
    | (go_at_call 19; go_loud (refine Calls.mono (HCp.out _ HA.out.2.1) ?_; rintro e w2 ⟨g, c, own, rfl, hp, hb, ho⟩; have HP : Hid _ := hp; have HO : Hid _ := ho; have HB : Hid _ := hb; clear hp ho hb r1 HCp)))
  have HD : Hid (Fd w (w2.alloc (.cells #[.slice (some ⟨g, 0, none⟩) ps.length c] 24)) own g c w2.heap.size ps 0) := by
    have b2 : Below w2.heap.size w2 (w2.alloc (.cells #[.slice (some ⟨g, 0, none⟩) ps.length c] 24)) := below_al _
    refine ⟨?_, (HA.out.1.below HB.out HA.out.1.lt).below b2 (Nat.lt_of_lt_of_le HA.out.1.lt HB.out.size), Op.At.new _ _ _, (HA.out.2.1.trans (HB.out.mono HA.out.2.1.size)).trans (b2.mono (Nat.le_trans HA.out.2.1.size HB.out.size)), ?_⟩
    · rw [mixP_zero]
      have h1 := HP.out.next b2
      exact ⟨fun b q => Nat.le_trans HA.out.2.2 (h1.old b q), h1.g1, h1.lt, h1.fz, h1.n, h1.ok, h1.is⟩
    · cases e : own w2.heap.size with
      | zero => rfl
      | succ m => have := (HO.out w2.heap.size (by omega)).2; omega
  clear HP HO HB HA hz hz1
  generalize w2.alloc (.cells #[.slice (some ⟨g, 0, none⟩) ps.length c] 24) = w3 at *
  generalize w2.heap.size = t at *
  clear w2
  have q0 := HD.out.q.c 0 _ rfl
  go_wp2_with fail
  clear q0
  go_loopw [18] (fun i wr => ∃ k : Nat, k ≤ ps.length ∧ i = .int .i64 k ∧ Fd w wr own g c t ps k) (fun i _ => ps.length - (intOf i).toNat)
  case atStart => exact ⟨0, by omega, rfl, HD.out⟩
  case round =>
    rename World => wr
    obtain ⟨k, hk, rfl, hd⟩ := hrel
    clear HD
    have HD : Hid _ := hd
    clear hd
    have q0 := HD.out.q.c 0 _ rfl
    by_cases hlt : k < ps.length
    · have hki : (k : Int) < (ps.length : Int) := by omega
      have hk0 : (0 : Int) ≤ (k : Int) := by omega
      go_wp2_with (first
        | (go_at_call 20; go_loud (refine Calls.mono (HFB.out _ _ _ _ _ _ HD.out hlt) ?_; rintro e w4 ⟨rfl, h4⟩; have H4 : Hid _ := h4; clear h4 HFB q0)))
      go_roundw
      case rel => exact ⟨k + 1, by omega, by go_num, H4.out⟩
      case measure => simp [intOf]; omega
    · obtain rfl : k = ps.length := by omega
      have r0 := HD.out.r.c 0 _ rfl
      have f0 := HD.out.r.f 0
      have HZ : Hid (∀ v, PAt (wr.setCell ⟨w.heap.size + 1, 0, none⟩ v) (some ⟨g, 0, none⟩) (fdP ps) ∧ Below w.heap.size w (wr.setCell ⟨w.heap.size + 1, 0, none⟩ v)) := fun v => by
        have h1 := HD.out.p.fr ((Fr.refl (One (w.heap.size + 1)) wr).setCell (.inr rfl) 0 v) fun j q => by
          have q : j = w.heap.size + 1 := q
          subst q
          cases e : own (w.heap.size + 1) with
          | zero => rfl
          | succ m => have := HD.out.p.old (w.heap.size + 1) (by omega); omega
        rw [mixP_end] at h1
        exact ⟨h1.pat, HD.out.b.setCell (Nat.le_succ _) _⟩
      clear HD HFB
      go_wp2_with fail
      refine bodyPost_ret (v := .tuple #[.agg #[.slice (some ⟨g, 0, none⟩) ps.length c], .int .i64 0]) (by simp [results, Tryz.results7, go_sem, cs r0]) rfl ⟨_, c, rfl, (HZ.out _).1, (HZ.out _).2⟩
end Go.Proofs.YtddcndlogoajkaaGreatDoor.L8.Bt
namespace Go.Proofs.YtddcndlogoajkaaGreatDoor.L8.Bt
open Go.ChangeShapes Go.WideShapes Go.ChangeAt Go.RowKit Go.Great
open _root_.Go.Proofs.YtddcndlogoajkaaGreatDoor.L8.Op _root_.Go.Proofs.YtddcndlogoajkaaGreatDoor.L8.So
open _root_.Go.Proofs.YtddcndlogoajkaaGreatDoor.L8.Li (InIs Ul out_any)
open _root_.Go.Proofs.YtddcndlogoajkaaGreatDoor.L8.Lv (rdL wOf PsOk psOk_of IsIn endN bOf)
set_option maxRecDepth 20000

/-- A program whose row of blocks is its own; its lists lie elsewhere. -/
structure Pw (w : World) (z g : Nat) (qs : List Bk) : Prop where
  zg : z ≤ g
  lt : g < w.heap.size
  fz : ∀ j : Nat, w.frozen? ⟨g, j, none⟩ = false
  n : qs.length ≤ 128
  ok : ∀ x ∈ qs, x.Ok ∧ (∀ o ∈ x.ops, o.Ok) ∧ (∀ o ∈ x.body, o.Ok) ∧ x.ops.length ≤ 8192 ∧ x.body.length ≤ 8192
  is : ∀ (i : Nat) (h : i < qs.length), ∃ p : Pl, BAt w g (i * 6) qs[i] p ∧ qs[i].ops.length ≤ p.oc ∧ Oz w p.oa qs[i].ops ∧ Oz w p.ba qs[i].body ∧ ∀ j, Lk p.oa qs[i].ops j ∨ Lk p.ba qs[i].body j → j ≠ g ∧ z ≤ j
theorem Pr.pw {w : World} {z g : Nat} {own : Nat → Nat} {qs : List Bk} (h : Pr w z own g qs) : Pw w z g qs := by
  have hg := h.g1
  refine ⟨h.old g (by omega), h.lt, h.fz, h.n, h.ok, fun i hi => ?_⟩
  obtain ⟨p, h1, h2, h3, h4, h5, h6⟩ := h.is i hi
  refine ⟨p, h1, h2, h3, h4, fun j q => ?_⟩
  have hj : own j ≠ 0 ∧ own j ≠ 1 := by
    rcases q with q | q
    · have := h5 j q; omega
    · have := h6 j q; omega
  exact ⟨fun e => by subst e; omega, h.old j hj.1⟩
theorem Pw.pat {w : World} {z g : Nat} {qs : List Bk} (h : Pw w z g qs) : PAt w (some ⟨g, 0, none⟩) qs := by
  refine ⟨by have := h.n; omega, fun _ => ⟨g, 0, rfl, h.lt, fun i hi => ?_⟩⟩
  obtain ⟨p, h1, h2, h3, h4, -⟩ := h.is i hi
  obtain ⟨k1, k2, k3, k4, k5⟩ := h.ok _ (List.getElem_mem hi)
  exact ⟨p, by rw [Nat.zero_add]; exact h1, k1, oz_at h3 k2 k4, oz_at h4 k3 k5, h2⟩
theorem Pw.fr {w w' : World} {z g : Nat} {qs : List Bk} (h : Pw w z g qs) {X : Nat → Prop} (hF : Fr X w w') (hX : ∀ j, X j → j < z) : Pw w' z g qs := by
  have hg : ¬ X g := fun q => by have := hX g q; have := h.zg; omega
  refine ⟨h.zg, Nat.lt_of_lt_of_le h.lt hF.size, fun j => by rw [hF.frozen h.lt hg]; exact h.fz j, h.n, h.ok, fun i hi => ?_⟩
  obtain ⟨p, h1, h2, h3, h4, h5⟩ := h.is i hi
  exact ⟨p, BAt.fr h1 hF h.lt hg, h2, h3.fr hF fun j q e => (by have := h5 j (.inl q); have := hX j e; omega), h4.fr hF fun j q e => (by have := h5 j (.inr q); have := hX j e; omega), h5⟩
theorem Pw.low {w : World} {z z' g : Nat} {qs : List Bk} (h : Pw w z g qs) (hz : z' ≤ z) : Pw w z' g qs :=
  ⟨Nat.le_trans hz h.zg, h.lt, h.fz, h.n, h.ok, fun i hi => by
    obtain ⟨p, h1, h2, h3, h4, h5⟩ := h.is i hi
    exact ⟨p, h1, h2, h3, h4, fun j q => ⟨(h5 j q).1, Nat.le_trans hz (h5 j q).2⟩⟩⟩
theorem Pw.next {w w' : World} {z g : Nat} {qs : List Bk} (h : Pw w z g qs) (hb : Below w.heap.size w w') : Pw w' z g qs := by
  refine ⟨h.zg, Nat.lt_of_lt_of_le h.lt hb.size, fun j => by rw [(bcell hb).2 _ _ h.lt]; exact h.fz j, h.n, h.ok, fun i hi => ?_⟩
  obtain ⟨p, h1, h2, h3, h4, h5⟩ := h.is i hi
  exact ⟨p, h1.below hb h.lt, h2, h3.below hb, h4.below hb, h5⟩
/-- A block gets another list, one that was not there. -/
theorem Pw.put {w W : World} {z g k : Nat} {qs : List Bk} (h : Pw w z g qs) (hk : k < qs.length) {r : Option Addr} {c : Nat} {l : List O} (o : Oc w W r c l) (hl : ∀ u ∈ l, u ∈ qs[k].ops) (hn : l.length ≤ 8192) : Pw (W.setCell ⟨g, k * 6, none⟩ (.slice r l.length c)) z g (qs.set k { qs[k] with ops := l }) := by
  have h2 := h.next o.up
  have e1 : ∀ j, Lk r l j → j ≠ g ∧ z ≤ j := fun j q => by
    obtain ⟨q0, b, hr, rfl⟩ := q
    obtain ⟨b', hr', hz, -⟩ := o.is q0
    rw [hr] at hr'; injection hr' with hr'; injection hr' with hr' _
    subst hr'
    have := h.lt
    have := h.zg
    omega
  have oz1 : Oz W r l := fun q0 => by
    obtain ⟨b, hr, -, ho⟩ := o.is q0
    exact ⟨b, hr, ho⟩
  refine ⟨h.zg, by simpa using h2.lt, fun j => by rw [World.frozen?_setCell]; exact h2.fz j, by simpa using h.n, fun x hx => ?_, fun i hi => ?_⟩
  · rcases List.mem_or_eq_of_mem_set hx with hm | rfl
    · exact h.ok x hm
    · obtain ⟨k1, k2, k3, k4, k5⟩ := h.ok _ (List.getElem_mem hk)
      exact ⟨⟨k1.f0, k1.f1, k1.a0, k1.a1, k1.t0, k1.t1, k1.e0, k1.e1⟩, fun u q => k2 u (hl u q), k3, hn, k5⟩
  · have hi' : i < qs.length := by simpa using hi
    obtain ⟨p, h1, h2', h3, h4, h5⟩ := h2.is i hi'
    by_cases e : k = i
    · subst e
      simp only [List.getElem_set_self]
      refine ⟨⟨r, c, p.ba, p.bc⟩, ⟨cs h1.c0, (co (by omega)).trans h1.c1, (co (by omega)).trans h1.c2, (co (by omega)).trans h1.c3, (co (by omega)).trans h1.c4, (co (by omega)).trans h1.c5⟩, o.cap, oz_set oz1 (fun b q => (e1 b q).1) _, oz_set h4 (fun b q => (h5 b (.inr q)).1) _, fun j q => q.elim (e1 j) fun q => h5 j (.inr q)⟩
    · simp only [List.getElem_set_ne e]
      exact ⟨p, bat_set h1 (Ne.symm e) 0 (by omega) _, h2', oz_set h3 (fun b q => (h5 b (.inl q)).1) _, oz_set h4 (fun b q => (h5 b (.inr q)).1) _, h5⟩
/-- Has any of the first k blocks lost an operation? -/
def buB (ps : List Bk) (I : List Nat) (k : Nat) : Bool := (ps.take k).any fun x => decide ((swx I x).ops.length < x.ops.length)
theorem buB_next (ps : List Bk) (I : List Nat) (k : Nat) (hk : k < ps.length) : buB ps I (k + 1) = (buB ps I k || decide ((swx I ps[k]).ops.length < ps[k].ops.length)) := by
  unfold buB
  rw [List.take_add_one, List.getElem?_eq_getElem hk, Option.toList_some, List.any_append]
  simp
theorem buB_stay {ps : List Bk} {I : List Nat} : buB ps I ps.length = false ↔ Stay ps I ps.length := by
  unfold buB Stay
  rw [List.take_length]
  constructor
  · intro h i hi _
    have := List.any_eq_false.1 h _ (List.getElem_mem hi)
    have h2 := swx_len I ps[i]
    simp only [decide_eq_true_eq] at this
    unfold swx at this h2
    simp only at this h2
    omega
  · intro h
    refine List.any_eq_false.2 fun x hx => ?_
    obtain ⟨i, hi, rfl⟩ := List.getElem_of_mem hx
    have := h i hi hi
    unfold swx
    simp only [decide_eq_true_eq]
    omega
/-- The going over, under way; b: where the sets lie. -/
structure Bs (W wr : World) (z g : Nat) (ps : List Bk) (I : List Nat) (b n c k : Nat) : Prop where
  p : Pw wr z g (swP ps I k)
  q : At wr W.heap.size #[.slice (some ⟨g, 0, none⟩) n c]
  bl : b < wr.heap.size
  bg : b ≠ g
  u : ∀ (i : Nat) (h : i < ps.length), wr.cell? ⟨b, i, none⟩ = some (.int .u32 ((endN (bOf ps[i]) I : Nat) : Int))
  f : Fr (One g) W wr
  gw : g < W.heap.size
theorem Bs.step {W wr w2 : World} {z g : Nat} {ps : List Bk} {I : List Nat} {b n c k : Nat} (h : Bs W wr z g ps I b n c k) (hk : k < ps.length) {r : Option Addr} {c' : Nat} (o : Oc wr w2 r c' (styL ps[k].ops (endN (bOf ps[k]) I)).1) (h8 : ps[k].ops.length ≤ 8192) : Bs W (w2.setCell ⟨g, k * 6, none⟩ (.slice r (styL ps[k].ops (endN (bOf ps[k]) I)).1.length c')) z g ps I b n c (k + 1) := by
  have hk2 : k < (swP ps I k).length := by rw [swP_len]; exact hk
  have hx : (swP ps I k)[k] = ps[k] := Option.some.inj ((List.getElem?_eq_getElem hk2).symm.trans (swP_at ps I k hk))
  obtain ⟨s1, s2⟩ := sty_mem ps[k].ops (endN (bOf ps[k]) I)
  have hp := h.p.put hk2 o (by rw [hx]; exact s1) (by omega)
  rw [hx] at hp
  have hF : Fr (One g) w2 (w2.setCell ⟨g, k * 6, none⟩ (.slice r (styL ps[k].ops (endN (bOf ps[k]) I)).1.length c')) := (Fr.refl (One g) w2).setCell (.inr rfl) _ _
  have hq := h.q.below o.up h.q.lt
  refine ⟨by rw [swP_next ps I k hk]; exact hp, at_fr hq hF (fun q => by have q : W.heap.size = g := q; have := h.gw; omega), by have := h.bl; have := o.up.size; simp only [World.size_setCell]; omega, h.bg, fun i hi => ?_, (h.f.then o.up).setCell (.inr rfl) _ _, h.gw⟩
  rw [ob h.bg.symm, (bcell o.up).1 _ _ h.bl]
  exact h.u i hi
set_option maxHeartbeats 4000000 in
theorem buryDead_any (I : List Nat) (z g c : Nat) (ps : List Bk) (W : World) (h : Pw W z g ps) (hG : PsG ps) (hI : InIs ps I) (he : Env W) :
    Calls Tryz.prog 25 #[.agg #[.slice (some ⟨g, 0, none⟩) ps.length c]] W fun e w' => e = .returned (.bool (buB ps I ps.length)) ∧ Pw w' z g (swP ps I ps.length) ∧ Fr (One g) W w' ∧ IsIn ps I := by
  have hb1 : Below W.heap.size W (W.alloc (.cells #[.slice (some ⟨g, 0, none⟩) ps.length c] 24)) := below_al _
  have HO : Hid _ := out_any I (some ⟨g, 0, none⟩) c ps (W.alloc (.cells #[.slice (some ⟨g, 0, none⟩) ps.length c] 24)) hI (h.pat.below hb1) (he.up hb1) hG.ck
  have HP : Hid (Pw W z g ps) := h
  have HX : Hid (∀ (k : Nat) (hk : k < ps.length), IsIn ps I → endN (bOf ps[k]) I < 4294967296 ∧ ps[k].ops.length ≤ 8192) := fun k hk hi => ⟨end_32 hi hG.ck hG.ok hk, (h.ok _ (List.getElem_mem hk)).2.2.2.1⟩
  have hn := hG.n
  have hp0 := hG.p
  have hni : (ps.length : Int) ≤ 128 := by omega
  have hn0 : (0 : Int) ≤ (ps.length : Int) := by omega
  clear h hI he hb1 hG
  go_enter Tryz.func25, Tryz.ntmps25
  go_wp2_with (first
    | (go_at_call 42; go_loud (refine Calls.mono HO.out ?_; rintro e w1 ⟨a, c2, rfl, hU, hi, hb⟩; obtain ⟨a1, hb0, hz⟩ := one_new W _ _ hb; have HU : Hid _ := hU; have HI : Hid _ := hi; have HB : Hid (Below W.heap.size W w1) := hb0; have HA : Hid (At w1 W.heap.size #[.slice (some ⟨g, 0, none⟩) ps.length c]) := a1; clear hU hi hb hb0 a1 HO)))
  obtain ⟨b, rfl, hbl, huc⟩ := HU.out.is (by rw [List.length_map]; omega)
  have HS0 : Hid (Bs W w1 z g ps I b ps.length c 0) := by
    have hp := HP.out.next HB.out
    have huc' : ∀ (i : Nat) (h : i < ps.length), w1.cell? ⟨b, i, none⟩ = some (.int .u32 ((endN (bOf ps[i]) I : Nat) : Int)) := fun i hi => by
      have := huc i (by rw [List.length_map]; exact hi)
      rw [List.getElem_map] at this
      exact this
    refine ⟨by rw [swP_zero]; exact hp, HA.out, hbl, fun e => ?_, huc', Fr.of HB.out, HP.out.lt⟩
    subst e
    obtain ⟨p, h1, -⟩ := hp.is 0 hp0
    have := h1.c0
    rw [Nat.zero_mul, huc' 0 hp0] at this
    cases this
  clear HU HA HB HP hz huc hbl
  go_loopw [3, 11] (fun bv i wr => ∃ k : Nat, k ≤ ps.length ∧ i = .int .i64 k ∧ bv = .bool (buB ps I k) ∧ Bs W wr z g ps I b ps.length c k) (fun _ i _ => ps.length - (intOf i).toNat)
  case atStart => exact ⟨0, by omega, rfl, rfl, HS0.out⟩
  case round =>
    rename World => wr
    obtain ⟨k, hk, rfl, rfl, hs⟩ := hrel
    clear HS0
    have HS : Hid _ := hs
    clear hs
    have q0 := HS.out.q.c 0 _ rfl
    by_cases hlt : k < ps.length
    · have hki : (k : Int) < (ps.length : Int) := by omega
      have hk0 : (0 : Int) ≤ (k : Int) := by omega
      have hk2 : k < (swP ps I k).length := by rw [swP_len]; exact hlt
      have hx : (swP ps I k)[k] = ps[k] := Option.some.inj ((List.getElem?_eq_getElem hk2).symm.trans (swP_at ps I k hlt))
      obtain ⟨p, hp1, hp2, hp3, hp4, -⟩ := HS.out.p.is k hk2
      obtain ⟨-, ho, -, hl8, -⟩ := HS.out.p.ok _ (List.getElem_mem hk2)
      rw [hx] at hp1 hp3 ho hl8
      have u0 := HS.out.u k hlt
      have hx2 := HX.out k hlt HI.out
      have HC : Hid (Calls Tryz.prog 43 #[.slice p.oa ps[k].ops.length p.oc, .int .u32 ((endN (bOf ps[k]) I : Nat) : Int)] wr fun e w' => ∃ r c, e = .returned (.slice r (styL ps[k].ops (endN (bOf ps[k]) I)).1.length c) ∧ Oc wr w' r c (styL ps[k].ops (endN (bOf ps[k]) I)).1) := staying_any p.oa p.oc ps[k].ops _ wr (oz_at hp3 ho hl8) hx2.1 hl8
      have HT : Hid (∀ w2 r c', Oc wr w2 r c' (styL ps[k].ops (endN (bOf ps[k]) I)).1 → Bs W (w2.setCell ⟨g, k * 6, none⟩ (.slice r (styL ps[k].ops (endN (bOf ps[k]) I)).1.length c')) z g ps I b ps.length c (k + 1)) := fun w2 r c' o => HS.out.step hlt o hx2.2
      have c0 := hp1.c0
      have HG : Hid (∀ w2, Below wr.heap.size wr w2 → w2.cell? ⟨g, k * 6, none⟩ = some (.slice p.oa ps[k].ops.length p.oc) ∧ w2.frozen? ⟨g, k * 6, none⟩ = false) := fun w2 hb => ⟨(hp1.below hb HS.out.p.lt).c0, (HS.out.p.next hb).fz _⟩
      have hbn := buB_next ps I k hlt
      have hsw : (swx I ps[k]).ops.length = (styL ps[k].ops (endN (bOf ps[k]) I)).1.length := rfl
      rw [hsw] at hbn
      have hm := (sty_mem ps[k].ops (endN (bOf ps[k]) I)).2
      have HN : Hid _ := hbn
      clear hp1 hp2 hp3 hp4 ho hx2 HX HS hsw hbn hx
      generalize ((endN (bOf ps[k]) I : Nat) : Int) = y at *
      generalize (styL ps[k].ops (endN (bOf ps[k]) I)).1 = ys at *
      generalize ps[k].ops.length = n0 at *
      have hn8 : (n0 : Int) ≤ 8192 := by omega
      have hm0 : (0 : Int) ≤ (ys.length : Int) := by omega
      have hmn : (ys.length : Int) ≤ (n0 : Int) := by omega
      obtain ⟨oa, oc, ba, bc⟩ := p
      simp only at c0 HC HG
      cases hbu : buB ps I k with
      | true =>
        rw [hbu] at HN
        go_wp2_with (first
          | (go_at_call 43; go_loud (refine Calls.mono HC.out ?_; rintro e w2 ⟨r, c3, rfl, o⟩; obtain ⟨d0, f0⟩ := HG.out w2 o.up; have HS2 : Hid _ := HT.out w2 r c3 o; clear o HG HT HC c0 q0 u0)))
        go_roundw
        case rel => exact ⟨k + 1, by omega, by go_num, by rw [HN.out]; rfl, HS2.out⟩
        case measure => simp [intOf]; omega
      | false =>
        rw [hbu] at HN
        go_wp2_with (first
          | (go_at_call 43; go_loud (refine Calls.mono HC.out ?_; rintro e w2 ⟨r, c3, rfl, o⟩; obtain ⟨d0, f0⟩ := HG.out w2 o.up; have HS2 : Hid _ := HT.out w2 r c3 o; clear o HG HT HC c0 q0 u0)))
        go_roundw
        case rel => exact ⟨k + 1, by omega, by go_num, by rw [HN.out]; simp, HS2.out⟩
        case measure => simp [intOf]; omega
    · obtain rfl : k = ps.length := by omega
      go_wp2_with fail
      go_ret
      exact ⟨rfl, HS.out.p, HS.out.f, HI.out⟩
end Go.Proofs.YtddcndlogoajkaaGreatDoor.L8.Bt
namespace Go.Proofs.YtddcndlogoajkaaGreatDoor.L8.Bt
open Go.ChangeShapes Go.WideShapes Go.ChangeAt Go.RowKit Go.Great
open _root_.Go.Proofs.YtddcndlogoajkaaGreatDoor.L8.Op _root_.Go.Proofs.YtddcndlogoajkaaGreatDoor.L8.So
open _root_.Go.Proofs.YtddcndlogoajkaaGreatDoor.L8.Li (InIs in_ex)
open _root_.Go.Proofs.YtddcndlogoajkaaGreatDoor.L8.Lv (rdL wOf PsOk psOk_of IsIn endN bOf)
set_option maxRecDepth 20000

theorem bu_less {zs : List Bk} {I : List Nat} (hI : IsIn zs I) (hG : PsG zs) (hb : buB zs I zs.length = true) : ∃ m, 0 < m ∧ Tks m zs (swP zs I zs.length) := by
  obtain ⟨m, hm⟩ := swP_tks hI hG.ck hG.ok zs.length (Nat.le_refl _)
  cases m with
  | succ m => exact ⟨m + 1, by omega, hm⟩
  | zero =>
    have hm : zs = swP zs I zs.length := hm
    have : buB zs I zs.length = false := buB_stay.2 fun i hi _ => by
      have h2 : (swP zs I zs.length)[i]? = some (swx I zs[i]) := by rw [swP_end, List.getElem?_map, List.getElem?_eq_getElem hi]; rfl
      rw [← hm, List.getElem?_eq_getElem hi] at h2
      have h3 := Option.some.inj h2
      have h4 := congrArg (fun x => x.ops.length) h3
      exact h4.symm
    rw [this] at hb; cases hb
/-- The burying, under way. -/
structure Br (w wr : World) (g c t : Nat) (ps zs : List Bk) : Prop where
  p : Pw wr (w.heap.size + 2) g zs
  r : At wr (w.heap.size + 1) #[.slice none 0 0]
  q : At wr t #[.slice (some ⟨g, 0, none⟩) ps.length c]
  b : Below w.heap.size w wr
  o : t ≠ g
  m : ∃ m, Tks m ps zs
theorem Br.step {w wr w' : World} {g c t : Nat} {ps zs zs' : List Bk} (h : Br w wr g c t ps zs) (hp : Pw w' (w.heap.size + 2) g zs') (hF : Fr (One g) wr w') (hm : ∃ m, Tks m zs zs') : Br w w' g c t ps zs' := by
  have hg := h.p.zg
  refine ⟨hp, at_fr h.r hF (fun q => by have q : w.heap.size + 1 = g := q; omega), at_fr h.q hF (fun q => h.o q), h.b.trans (hF.below h.b.size fun j hj q => by have q : j = g := q; omega), h.o, ?_⟩
  obtain ⟨m1, h1⟩ := h.m
  obtain ⟨m2, h2⟩ := hm
  exact ⟨m1 + m2, tks_add h1 h2⟩
set_option maxHeartbeats 4000000 in
theorem bury_no (ao : Option Addr) (cap : Nat) (ps : List Bk) (w : World) (h : PAt w ao ps) (he : Env w) (hc : ckP ps ≠ 0) :
    Calls Tryz.prog 12 #[.agg #[.slice ao ps.length cap]] w fun e w' => e = .returned (.tuple #[.agg #[.slice none 0 0], .int .i64 (ckP ps)]) ∧ Below w.heap.size w w' := by
  have HC : Hid (∀ W, Below w.heap.size w W → Calls Tryz.prog 14 #[.agg #[.slice ao ps.length cap]] W fun e w' => e = .returned (.int .i64 (ckP ps)) ∧ Below W.heap.size W w') := fun W hb => checkP_any ao cap ps W (h.below hb) (he.up hb)
  have HB0 : Hid (Below w.heap.size w ((w.alloc (.cells #[.slice ao ps.length cap] 24)).alloc (.cells #[.slice none 0 0] 24))) := ((Below.refl _ _).alloc (Nat.le_refl _) _).alloc (by simp) _
  have hc' : (ckP ps == 0) = false := by simpa using hc
  clear h he
  generalize ckP ps = E at *
  go_enter Tryz.func12, Tryz.ntmps12
  go_wp2_with (first
    | (go_at_call 14; go_loud (refine Calls.mono (HC.out _ HB0.out) ?_; rintro e w1 ⟨rfl, hb⟩; obtain ⟨a1, a2, hb0, hz, hz1⟩ := two_new w _ _ _ _ hb; have r0 := a2.c 0 _ rfl; have f0 := a2.f 0; have r1 := a1.c 0 _ rfl; have HB : Hid (Below w.heap.size w w1) := hb0; clear hb hb0 a1 a2 HC HB0)))
  refine bodyPost_ret (v := .tuple #[.agg #[.slice none 0 0], .int .i64 E]) (by simp [results, Tryz.results12, go_sem, cs r0]) rfl ⟨rfl, HB.out.setCell (Nat.le_succ _) _⟩
set_option maxHeartbeats 4000000 in
theorem bury_ok (qs : List Bk) (ao : Option Addr) (cap : Nat) (ps : List Bk) (w : World) (h : PAt w ao ps) (he : Env w) (hG : PsG ps) (hq : FinIs ps qs) :
    Calls Tryz.prog 12 #[.agg #[.slice ao ps.length cap]] w fun e w' => ∃ a c, e = .returned (.tuple #[.agg #[.slice a ps.length c], .int .i64 0]) ∧ PAt w' a qs ∧ Fin ps qs ∧ Below w.heap.size w w' := by
  have HC : Hid (∀ W, Below w.heap.size w W → Calls Tryz.prog 14 #[.agg #[.slice ao ps.length cap]] W fun e w' => e = .returned (.int .i64 0) ∧ Below W.heap.size W w') := fun W hb => by
    have := checkP_any ao cap ps W (h.below hb) (he.up hb)
    rw [hG.ck] at this
    exact this
  have HCp : Hid (∀ W, Below w.heap.size w W → Calls Tryz.prog 19 #[.agg #[.slice ao ps.length cap]] W fun e w' => ∃ g c own, e = .returned (.agg #[.slice (some ⟨g, 0, none⟩) ps.length c]) ∧ Pr w' W.heap.size own g ps ∧ Below W.heap.size W w' ∧ ∀ b, own b ≠ 0 → W.heap.size ≤ b ∧ b < w'.heap.size) := fun W hb => copied_any ao cap ps W (h.below hb) hG.p hG.n (psG_small hG)
  have HBD : Hid (∀ (W : World) (g c t : Nat) (zs : List Bk) (I : List Nat), Br w W g c t ps zs → InIs zs I → Calls Tryz.prog 25 #[.agg #[.slice (some ⟨g, 0, none⟩) ps.length c]] W fun e w' => e = .returned (.bool (buB zs I zs.length)) ∧ IsIn zs I ∧ PsG zs ∧ ∀ m, Tks m zs (swP zs I zs.length) → Br w w' g c t ps (swP zs I zs.length)) := fun W g c t zs I hb hI => by
    obtain ⟨m, hm⟩ := hb.m
    obtain ⟨hz, hzl, -⟩ := psG_tks hm hG
    have := buryDead_any I _ g c zs W hb.p hz hI (he.up hb.b)
    rw [hzl] at this ⊢
    refine this.mono ?_
    rintro e w' ⟨rfl, h1, h2, h3⟩
    exact ⟨rfl, h3, hz, fun m hm => hb.step h1 h2 ⟨m, hm⟩⟩
  have HL : Hid (∀ zs m, Tks m ps zs → zs.length = ps.length) := fun zs m hm => (psG_tks hm hG).2.1
  have HQ : Hid (∀ zs, Nrm zs → (∃ m, Tks m ps zs) → zs = qs) := fun zs h1 h2 => hq zs ⟨h1, h2⟩
  have HB0 : Hid (Below w.heap.size w ((w.alloc (.cells #[.slice ao ps.length cap] 24)).alloc (.cells #[.slice none 0 0] 24))) := ((Below.refl _ _).alloc (Nat.le_refl _) _).alloc (by simp) _
  have hn := hG.n
  have hni : (ps.length : Int) ≤ 128 := by omega
  have hn0 : (0 : Int) ≤ (ps.length : Int) := by omega
  clear h he hG hq
  go_enter Tryz.func12, Tryz.ntmps12
  go_upto_region 5 with (first
    | (go_at_call 14; go_loud (refine Calls.mono (HC.out _ HB0.out) ?_; rintro e w1 ⟨rfl, hb⟩; obtain ⟨a1, a2, hb0, hz, hz1⟩ := two_new w _ _ _ _ hb; have r1 := a1.c 0 _ rfl; have HA : Hid (At w1 (w.heap.size + 1) #[.slice none 0 0] ∧ Below w.heap.size w w1 ∧ w.heap.size + 2 ≤ w1.heap.size) := ⟨a2, hb0, by omega⟩; clear hb hb0 a1 a2 HC HB0))
    | (go_at_call 19; go_loud (refine Calls.mono (HCp.out _ HA.out.2.1) ?_; rintro e w2 ⟨g, c, own, rfl, hp, hb, ho⟩; have HP : Hid _ := hp; have HB : Hid _ := hb; clear hp ho hb r1 HCp)))
  have HD : Hid (Br w (w2.alloc (.cells #[.slice (some ⟨g, 0, none⟩) ps.length c] 24)) g c w2.heap.size ps ps) := by
    have b2 : Below w2.heap.size w2 (w2.alloc (.cells #[.slice (some ⟨g, 0, none⟩) ps.length c] 24)) := below_al _
    have h1 := HP.out.pw.next b2
    refine ⟨h1.low HA.out.2.2, (HA.out.1.below HB.out HA.out.1.lt).below b2 (Nat.lt_of_lt_of_le HA.out.1.lt HB.out.size), Op.At.new _ _ _, (HA.out.2.1.trans (HB.out.mono HA.out.2.1.size)).trans (b2.mono (Nat.le_trans HA.out.2.1.size HB.out.size)), ?_, 0, rfl⟩
    have := HP.out.lt
    omega
  clear HP HB HA hz hz1
  generalize w2.alloc (.cells #[.slice (some ⟨g, 0, none⟩) ps.length c] 24) = w3 at *
  generalize w2.heap.size = t at *
  clear w2
  go_loopg [] (opsN ps + 1) (fun g1 wr => ∃ zs : List Bk, opsN zs < g1 ∧ Br w wr g c t ps zs)
  case atStart => exact ⟨ps, by omega, HD.out⟩
  case round =>
    rename World => wr
    obtain ⟨zs, hg1, hd⟩ := hrel
    clear HD
    have HD : Hid _ := hd
    clear hd
    obtain ⟨I, hI⟩ := in_ex (psOk_of HD.out.p.pat)
    have HB1 : Hid _ := HBD.out _ _ _ _ zs I HD.out hI
    have q0 := HD.out.q.c 0 _ rfl
    cases hb : buB zs I zs.length with
    | true =>
      rw [hb] at HB1
      go_wp2_with (first
        | (go_at_call 25; go_loud (refine Calls.mono HB1.out ?_; rintro e w4 ⟨rfl, h1, h2, h3⟩; obtain ⟨m, hm0, hm⟩ := bu_less h1 h2 hb; have hle := (psG_tks hm h2).2.2; have H4 : Hid _ := h3 m hm; clear h1 h2 h3 hm HB1 q0 HD)))
      go_roundg (opsN zs)
      case measure => omega
      case rel => exact ⟨_, by omega, H4.out⟩
    | false =>
      rw [hb] at HB1
      go_upto_region 6 with (first
        | (go_at_call 25; go_loud (refine Calls.mono HB1.out ?_; rintro e w4 ⟨rfl, h1, h2, h3⟩; obtain ⟨e1, e2⟩ := stay_nrm h1 h2.ck h2.ok (buB_stay.1 hb); have H4 : Hid _ := h3 0 (show zs = _ from e1.symm); have HN : Hid (Nrm zs) := e2; rw [e1] at H4; clear h1 h2 h3 e1 e2 HB1 q0 HD)))
      obtain ⟨m, hm⟩ := H4.out.m
      obtain rfl := HQ.out zs HN.out ⟨m, hm⟩
      have hzl : zs.length = ps.length := HL.out zs m hm
      have q1 := H4.out.q.c 0 _ rfl
      have r0 := H4.out.r.c 0 _ rfl
      have f0 := H4.out.r.f 0
      have HZ : Hid (∀ v, PAt (w4.setCell ⟨w.heap.size + 1, 0, none⟩ v) (some ⟨g, 0, none⟩) zs ∧ Fin ps zs ∧ Below w.heap.size w (w4.setCell ⟨w.heap.size + 1, 0, none⟩ v) ∧ zs.length = ps.length) := fun v => by
        have hzg := H4.out.p.zg
        have h1 : Pw (w4.setCell ⟨w.heap.size + 1, 0, none⟩ v) (w.heap.size + 2) g zs := by
          exact H4.out.p.fr ((Fr.refl (One (w.heap.size + 1)) w4).setCell (.inr rfl) 0 v) fun j q => by have q : j = w.heap.size + 1 := q; omega
        exact ⟨h1.pat, ⟨HN.out, m, hm⟩, H4.out.b.setCell (Nat.le_succ _) _, hzl⟩
      clear H4 HN HBD hm hb HQ HL
      go_wp2_with fail
      refine bodyPost_ret (v := .tuple #[.agg #[.slice (some ⟨g, 0, none⟩) ps.length c], .int .i64 0]) (by simp [results, Tryz.results12, go_sem, cs r0]) rfl ⟨_, c, rfl, (HZ.out _).1, (HZ.out (.int .i64 0)).2.1, (HZ.out _).2.2.1⟩
end Go.Proofs.YtddcndlogoajkaaGreatDoor.L8.Bt
