/- A program gone over once for what is dead (buryDead): read off the program by the walk. Conditions: the program's blocks lie in a row of their own; the variables as the program lays them. -/
import Derived.Test.YtddcndlogoajkaaDoorGi
import Derived.Test.YtddcndlogoajkaaDoorGd
import Derived.Test.YtddcndlogoajkaaDoorGh
namespace Go.Proofs.YtddcndlogoajkaaDoor.L8.Bt
open Go.ChangeShapes Go.WideShapes Go.ChangeAt Go.RowKit Go.Great
open _root_.Go.Proofs.YtddcndlogoajkaaDoor.L8.Op _root_.Go.Proofs.YtddcndlogoajkaaDoor.L8.So
open _root_.Go.Proofs.YtddcndlogoajkaaDoor.L8.Li (InIs Ul out_any)
open _root_.Go.Proofs.YtddcndlogoajkaaDoor.L8.Lv (rdL wOf PsOk psOk_of IsIn endN bOf)
set_option maxRecDepth 20000

/-- A program whose row of blocks is its own; its lists lie elsewhere. -/
structure Pw (w : World) (z g : Nat) (qs : List Bk) : Prop where
  zg : z ≤ g
  lt : g < w.heap.size
  fz : ∀ j : Nat, w.frozen? ⟨g, j, none⟩ = false
  n : qs.length ≤ 128
  ok : ∀ x ∈ qs, x.Ok ∧ (∀ o ∈ x.ops, o.Ok) ∧ (∀ o ∈ x.body, o.Ok) ∧ x.ops.length ≤ 8192 ∧ x.body.length ≤ 8192
  is : ∀ (i : Nat) (h : i < qs.length), ∃ p : Pl, BAt w g (i * 6) qs[i] p ∧ qs[i].ops.length ≤ p.oc ∧ Oz w p.oa qs[i].ops ∧ Oz w p.ba qs[i].body ∧ ∀ j, Lk p.oa qs[i].ops j ∨ Lk p.ba qs[i].body j → j ≠ g ∧ z ≤ j
theorem Pr.pw {w : World} {z g : Nat} {own : Nat → Nat} {qs : List Bk} (h : Pr w z own g qs) : Pw w z g qs := by
  have hg := h.g1
  refine ⟨h.old g (by omega), h.lt, h.fz, h.n, h.ok, fun i hi => ?_⟩
  obtain ⟨p, h1, h2, h3, h4, h5, h6⟩ := h.is i hi
  refine ⟨p, h1, h2, h3, h4, fun j q => ?_⟩
  have hj : own j ≠ 0 ∧ own j ≠ 1 := by
    rcases q with q | q
    · have := h5 j q; omega
    · have := h6 j q; omega
  exact ⟨fun e => by subst e; omega, h.old j hj.1⟩
theorem Pw.pat {w : World} {z g : Nat} {qs : List Bk} (h : Pw w z g qs) : PAt w (some ⟨g, 0, none⟩) qs := by
  refine ⟨by have := h.n; omega, fun _ => ⟨g, 0, rfl, h.lt, fun i hi => ?_⟩⟩
  obtain ⟨p, h1, h2, h3, h4, -⟩ := h.is i hi
  obtain ⟨k1, k2, k3, k4, k5⟩ := h.ok _ (List.getElem_mem hi)
  exact ⟨p, by rw [Nat.zero_add]; exact h1, k1, oz_at h3 k2 k4, oz_at h4 k3 k5, h2⟩
theorem Pw.fr {w w' : World} {z g : Nat} {qs : List Bk} (h : Pw w z g qs) {X : Nat → Prop} (hF : Fr X w w') (hX : ∀ j, X j → j < z) : Pw w' z g qs := by
  have hg : ¬ X g := fun q => by have := hX g q; have := h.zg; omega
  refine ⟨h.zg, Nat.lt_of_lt_of_le h.lt hF.size, fun j => by rw [hF.frozen h.lt hg]; exact h.fz j, h.n, h.ok, fun i hi => ?_⟩
  obtain ⟨p, h1, h2, h3, h4, h5⟩ := h.is i hi
  exact ⟨p, BAt.fr h1 hF h.lt hg, h2, h3.fr hF fun j q e => (by have := h5 j (.inl q); have := hX j e; omega), h4.fr hF fun j q e => (by have := h5 j (.inr q); have := hX j e; omega), h5⟩
theorem Pw.low {w : World} {z z' g : Nat} {qs : List Bk} (h : Pw w z g qs) (hz : z' ≤ z) : Pw w z' g qs :=
  ⟨Nat.le_trans hz h.zg, h.lt, h.fz, h.n, h.ok, fun i hi => by
    obtain ⟨p, h1, h2, h3, h4, h5⟩ := h.is i hi
    exact ⟨p, h1, h2, h3, h4, fun j q => ⟨(h5 j q).1, Nat.le_trans hz (h5 j q).2⟩⟩⟩
theorem Pw.next {w w' : World} {z g : Nat} {qs : List Bk} (h : Pw w z g qs) (hb : Below w.heap.size w w') : Pw w' z g qs := by
  refine ⟨h.zg, Nat.lt_of_lt_of_le h.lt hb.size, fun j => by rw [(bcell hb).2 _ _ h.lt]; exact h.fz j, h.n, h.ok, fun i hi => ?_⟩
  obtain ⟨p, h1, h2, h3, h4, h5⟩ := h.is i hi
  exact ⟨p, h1.below hb h.lt, h2, h3.below hb, h4.below hb, h5⟩
/-- A block gets another list, one that was not there. -/
theorem Pw.put {w W : World} {z g k : Nat} {qs : List Bk} (h : Pw w z g qs) (hk : k < qs.length) {r : Option Addr} {c : Nat} {l : List O} (o : Oc w W r c l) (hl : ∀ u ∈ l, u ∈ qs[k].ops) (hn : l.length ≤ 8192) : Pw (W.setCell ⟨g, k * 6, none⟩ (.slice r l.length c)) z g (qs.set k { qs[k] with ops := l }) := by
  have h2 := h.next o.up
  have e1 : ∀ j, Lk r l j → j ≠ g ∧ z ≤ j := fun j q => by
    obtain ⟨q0, b, hr, rfl⟩ := q
    obtain ⟨b', hr', hz, -⟩ := o.is q0
    rw [hr] at hr'; injection hr' with hr'; injection hr' with hr' _
    subst hr'
    have := h.lt
    have := h.zg
    omega
  have oz1 : Oz W r l := fun q0 => by
    obtain ⟨b, hr, -, ho⟩ := o.is q0
    exact ⟨b, hr, ho⟩
  refine ⟨h.zg, by simpa using h2.lt, fun j => by rw [World.frozen?_setCell]; exact h2.fz j, by simpa using h.n, fun x hx => ?_, fun i hi => ?_⟩
  · rcases List.mem_or_eq_of_mem_set hx with hm | rfl
    · exact h.ok x hm
    · obtain ⟨k1, k2, k3, k4, k5⟩ := h.ok _ (List.getElem_mem hk)
      exact ⟨⟨k1.f0, k1.f1, k1.a0, k1.a1, k1.t0, k1.t1, k1.e0, k1.e1⟩, fun u q => k2 u (hl u q), k3, hn, k5⟩
  · have hi' : i < qs.length := by simpa using hi
    obtain ⟨p, h1, h2', h3, h4, h5⟩ := h2.is i hi'
    by_cases e : k = i
    · subst e
      simp only [List.getElem_set_self]
      refine ⟨⟨r, c, p.ba, p.bc⟩, ⟨cs h1.c0, (co (by omega)).trans h1.c1, (co (by omega)).trans h1.c2, (co (by omega)).trans h1.c3, (co (by omega)).trans h1.c4, (co (by omega)).trans h1.c5⟩, o.cap, oz_set oz1 (fun b q => (e1 b q).1) _, oz_set h4 (fun b q => (h5 b (.inr q)).1) _, fun j q => q.elim (e1 j) fun q => h5 j (.inr q)⟩
    · simp only [List.getElem_set_ne e]
      exact ⟨p, bat_set h1 (Ne.symm e) 0 (by omega) _, h2', oz_set h3 (fun b q => (h5 b (.inl q)).1) _, oz_set h4 (fun b q => (h5 b (.inr q)).1) _, h5⟩
/-- Has any of the first k blocks lost an operation? -/
def buB (ps : List Bk) (I : List Nat) (k : Nat) : Bool := (ps.take k).any fun x => decide ((swx I x).ops.length < x.ops.length)
theorem buB_next (ps : List Bk) (I : List Nat) (k : Nat) (hk : k < ps.length) : buB ps I (k + 1) = (buB ps I k || decide ((swx I ps[k]).ops.length < ps[k].ops.length)) := by
  unfold buB
  rw [List.take_add_one, List.getElem?_eq_getElem hk, Option.toList_some, List.any_append]
  simp
theorem buB_stay {ps : List Bk} {I : List Nat} : buB ps I ps.length = false ↔ Stay ps I ps.length := by
  unfold buB Stay
  rw [List.take_length]
  constructor
  · intro h i hi _
    have := List.any_eq_false.1 h _ (List.getElem_mem hi)
    have h2 := swx_len I ps[i]
    simp only [decide_eq_true_eq] at this
    unfold swx at this h2
    simp only at this h2
    omega
  · intro h
    refine List.any_eq_false.2 fun x hx => ?_
    obtain ⟨i, hi, rfl⟩ := List.getElem_of_mem hx
    have := h i hi hi
    unfold swx
    simp only [decide_eq_true_eq]
    omega
/-- The going over, under way; b: where the sets lie. -/
structure Bs (W wr : World) (z g : Nat) (ps : List Bk) (I : List Nat) (b n c k : Nat) : Prop where
  p : Pw wr z g (swP ps I k)
  q : At wr W.heap.size #[.slice (some ⟨g, 0, none⟩) n c]
  bl : b < wr.heap.size
  bg : b ≠ g
  u : ∀ (i : Nat) (h : i < ps.length), wr.cell? ⟨b, i, none⟩ = some (.int .u32 ((endN (bOf ps[i]) I : Nat) : Int))
  f : Fr (One g) W wr
  gw : g < W.heap.size
theorem Bs.step {W wr w2 : World} {z g : Nat} {ps : List Bk} {I : List Nat} {b n c k : Nat} (h : Bs W wr z g ps I b n c k) (hk : k < ps.length) {r : Option Addr} {c' : Nat} (o : Oc wr w2 r c' (styL ps[k].ops (endN (bOf ps[k]) I)).1) (h8 : ps[k].ops.length ≤ 8192) : Bs W (w2.setCell ⟨g, k * 6, none⟩ (.slice r (styL ps[k].ops (endN (bOf ps[k]) I)).1.length c')) z g ps I b n c (k + 1) := by
  have hk2 : k < (swP ps I k).length := by rw [swP_len]; exact hk
  have hx : (swP ps I k)[k] = ps[k] := Option.some.inj ((List.getElem?_eq_getElem hk2).symm.trans (swP_at ps I k hk))
  obtain ⟨s1, s2⟩ := sty_mem ps[k].ops (endN (bOf ps[k]) I)
  have hp := h.p.put hk2 o (by rw [hx]; exact s1) (by omega)
  rw [hx] at hp
  have hF : Fr (One g) w2 (w2.setCell ⟨g, k * 6, none⟩ (.slice r (styL ps[k].ops (endN (bOf ps[k]) I)).1.length c')) := (Fr.refl (One g) w2).setCell (.inr rfl) _ _
  have hq := h.q.below o.up h.q.lt
  refine ⟨by rw [swP_next ps I k hk]; exact hp, at_fr hq hF (fun q => by have q : W.heap.size = g := q; have := h.gw; omega), by have := h.bl; have := o.up.size; simp only [World.size_setCell]; omega, h.bg, fun i hi => ?_, (h.f.then o.up).setCell (.inr rfl) _ _, h.gw⟩
  rw [ob h.bg.symm, (bcell o.up).1 _ _ h.bl]
  exact h.u i hi
set_option maxHeartbeats 4000000 in
theorem buryDead_any (I : List Nat) (z g c : Nat) (ps : List Bk) (W : World) (h : Pw W z g ps) (hG : PsG ps) (hI : InIs ps I) (he : Env W) :
    Calls Tryd.prog 13 #[.agg #[.slice (some ⟨g, 0, none⟩) ps.length c]] W fun e w' => e = .returned (.bool (buB ps I ps.length)) ∧ Pw w' z g (swP ps I ps.length) ∧ Fr (One g) W w' ∧ IsIn ps I := by
  have hb1 : Below W.heap.size W (W.alloc (.cells #[.slice (some ⟨g, 0, none⟩) ps.length c] 24)) := below_al _
  have HO : Hid _ := out_any I (some ⟨g, 0, none⟩) c ps (W.alloc (.cells #[.slice (some ⟨g, 0, none⟩) ps.length c] 24)) hI (h.pat.below hb1) (he.up hb1) hG.ck
  have HP : Hid (Pw W z g ps) := h
  have HX : Hid (∀ (k : Nat) (hk : k < ps.length), IsIn ps I → endN (bOf ps[k]) I < 4294967296 ∧ ps[k].ops.length ≤ 8192) := fun k hk hi => ⟨end_32 hi hG.ck hG.ok hk, (h.ok _ (List.getElem_mem hk)).2.2.2.1⟩
  have hn := hG.n
  have hp0 := hG.p
  have hni : (ps.length : Int) ≤ 128 := by omega
  have hn0 : (0 : Int) ≤ (ps.length : Int) := by omega
  clear h hI he hb1 hG
  go_enter Tryd.func13, Tryd.ntmps13
  go_wp2_with (first
    | (go_at_call 23; go_loud (refine Calls.mono HO.out ?_; rintro e w1 ⟨a, c2, rfl, hU, hi, hb⟩; obtain ⟨a1, hb0, hz⟩ := one_new W _ _ hb; have HU : Hid _ := hU; have HI : Hid _ := hi; have HB : Hid (Below W.heap.size W w1) := hb0; have HA : Hid (At w1 W.heap.size #[.slice (some ⟨g, 0, none⟩) ps.length c]) := a1; clear hU hi hb hb0 a1 HO)))
  obtain ⟨b, rfl, hbl, huc⟩ := HU.out.is (by rw [List.length_map]; omega)
  have HS0 : Hid (Bs W w1 z g ps I b ps.length c 0) := by
    have hp := HP.out.next HB.out
    have huc' : ∀ (i : Nat) (h : i < ps.length), w1.cell? ⟨b, i, none⟩ = some (.int .u32 ((endN (bOf ps[i]) I : Nat) : Int)) := fun i hi => by
      have := huc i (by rw [List.length_map]; exact hi)
      rw [List.getElem_map] at this
      exact this
    refine ⟨by rw [swP_zero]; exact hp, HA.out, hbl, fun e => ?_, huc', Fr.of HB.out, HP.out.lt⟩
    subst e
    obtain ⟨p, h1, -⟩ := hp.is 0 hp0
    have := h1.c0
    rw [Nat.zero_mul, huc' 0 hp0] at this
    cases this
  clear HU HA HB HP hz huc hbl
  go_loopw [3, 11] (fun bv i wr => ∃ k : Nat, k ≤ ps.length ∧ i = .int .i64 k ∧ bv = .bool (buB ps I k) ∧ Bs W wr z g ps I b ps.length c k) (fun _ i _ => ps.length - (intOf i).toNat)
  case atStart => exact ⟨0, by omega, rfl, rfl, HS0.out⟩
  case round =>
    rename World => wr
    obtain ⟨k, hk, rfl, rfl, hs⟩ := hrel
    clear HS0
    have HS : Hid _ := hs
    clear hs
    have q0 := HS.out.q.c 0 _ rfl
    by_cases hlt : k < ps.length
    · have hki : (k : Int) < (ps.length : Int) := by omega
      have hk0 : (0 : Int) ≤ (k : Int) := by omega
      have hk2 : k < (swP ps I k).length := by rw [swP_len]; exact hlt
      have hx : (swP ps I k)[k] = ps[k] := Option.some.inj ((List.getElem?_eq_getElem hk2).symm.trans (swP_at ps I k hlt))
      obtain ⟨p, hp1, hp2, hp3, hp4, -⟩ := HS.out.p.is k hk2
      obtain ⟨-, ho, -, hl8, -⟩ := HS.out.p.ok _ (List.getElem_mem hk2)
      rw [hx] at hp1 hp3 ho hl8
      have u0 := HS.out.u k hlt
      have hx2 := HX.out k hlt HI.out
      have HC : Hid (Calls Tryd.prog 24 #[.slice p.oa ps[k].ops.length p.oc, .int .u32 ((endN (bOf ps[k]) I : Nat) : Int)] wr fun e w' => ∃ r c, e = .returned (.slice r (styL ps[k].ops (endN (bOf ps[k]) I)).1.length c) ∧ Oc wr w' r c (styL ps[k].ops (endN (bOf ps[k]) I)).1) := staying_any p.oa p.oc ps[k].ops _ wr (oz_at hp3 ho hl8) hx2.1 hl8
      have HT : Hid (∀ w2 r c', Oc wr w2 r c' (styL ps[k].ops (endN (bOf ps[k]) I)).1 → Bs W (w2.setCell ⟨g, k * 6, none⟩ (.slice r (styL ps[k].ops (endN (bOf ps[k]) I)).1.length c')) z g ps I b ps.length c (k + 1)) := fun w2 r c' o => HS.out.step hlt o hx2.2
      have c0 := hp1.c0
      have HG : Hid (∀ w2, Below wr.heap.size wr w2 → w2.cell? ⟨g, k * 6, none⟩ = some (.slice p.oa ps[k].ops.length p.oc) ∧ w2.frozen? ⟨g, k * 6, none⟩ = false) := fun w2 hb => ⟨(hp1.below hb HS.out.p.lt).c0, (HS.out.p.next hb).fz _⟩
      have hbn := buB_next ps I k hlt
      have hsw : (swx I ps[k]).ops.length = (styL ps[k].ops (endN (bOf ps[k]) I)).1.length := rfl
      rw [hsw] at hbn
      have hm := (sty_mem ps[k].ops (endN (bOf ps[k]) I)).2
      have HN : Hid _ := hbn
      clear hp1 hp2 hp3 hp4 ho hx2 HX HS hsw hbn hx
      generalize ((endN (bOf ps[k]) I : Nat) : Int) = y at *
      generalize (styL ps[k].ops (endN (bOf ps[k]) I)).1 = ys at *
      generalize ps[k].ops.length = n0 at *
      have hn8 : (n0 : Int) ≤ 8192 := by omega
      have hm0 : (0 : Int) ≤ (ys.length : Int) := by omega
      have hmn : (ys.length : Int) ≤ (n0 : Int) := by omega
      obtain ⟨oa, oc, ba, bc⟩ := p
      simp only at c0 HC HG
      cases hbu : buB ps I k with
      | true =>
        rw [hbu] at HN
        go_wp2_with (first
          | (go_at_call 24; go_loud (refine Calls.mono HC.out ?_; rintro e w2 ⟨r, c3, rfl, o⟩; obtain ⟨d0, f0⟩ := HG.out w2 o.up; have HS2 : Hid _ := HT.out w2 r c3 o; clear o HG HT HC c0 q0 u0)))
        go_roundw
        case rel => exact ⟨k + 1, by omega, by go_num, by rw [HN.out]; rfl, HS2.out⟩
        case measure => simp [intOf]; omega
      | false =>
        rw [hbu] at HN
        go_wp2_with (first
          | (go_at_call 24; go_loud (refine Calls.mono HC.out ?_; rintro e w2 ⟨r, c3, rfl, o⟩; obtain ⟨d0, f0⟩ := HG.out w2 o.up; have HS2 : Hid _ := HT.out w2 r c3 o; clear o HG HT HC c0 q0 u0)))
        go_roundw
        case rel => exact ⟨k + 1, by omega, by go_num, by rw [HN.out]; simp, HS2.out⟩
        case measure => simp [intOf]; omega
    · obtain rfl : k = ps.length := by omega
      go_wp2_with fail
      go_ret
      exact ⟨rfl, HS.out.p, HS.out.f, HI.out⟩
end Go.Proofs.YtddcndlogoajkaaDoor.L8.Bt
