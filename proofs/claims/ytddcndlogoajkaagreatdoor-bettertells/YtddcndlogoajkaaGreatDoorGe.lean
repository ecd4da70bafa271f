/- A program of lists of its own (copied): read off the program by the walk. Conditions: the program lies in memory and has blocks; no list is too long. -/
import Derived.Test.YtddcndlogoajkaaGreatDoorFf
import Derived.Test.YtddcndlogoajkaaGreatDoorGd
namespace Go.Proofs.YtddcndlogoajkaaGreatDoor.L8.Bt
open Go.ChangeShapes Go.WideShapes Go.ChangeAt Go.RowKit Go.Great
open _root_.Go.Proofs.YtddcndlogoajkaaGreatDoor.L8.Op _root_.Go.Proofs.YtddcndlogoajkaaGreatDoor.L8.So
open _root_.Go.Proofs.YtddcndlogoajkaaGreatDoor.L8.Lv (rdL wOf PsOk)
set_option maxRecDepth 20000

def blkOf (r : Option Addr) : Nat := match r with | some a => a.block | none => 0
theorem lk_blk {r : Option Addr} {xs : List O} {j : Nat} (h : Lk r xs j) : 0 < xs.length ∧ j = blkOf r := by
  obtain ⟨h1, b, rfl, rfl⟩ := h
  exact ⟨h1, rfl⟩
/-- The copy under way: the first k blocks have lists of their own. -/
structure Cs (w wr : World) (g : Nat) (ps : List Bk) (pl : List Pl) (own : Nat → Nat) (k : Nat) : Prop where
  b : Below w.heap.size w wr
  gz : w.heap.size + 2 ≤ g
  lt : g < wr.heap.size
  fz : ∀ j : Nat, wr.frozen? ⟨g, j, none⟩ = false
  og : own g = 1
  old : ∀ b, own b ≠ 0 → w.heap.size + 2 ≤ b ∧ b < wr.heap.size
  new : ∀ (i : Nat) (h : i < ps.length), i < k → ∃ p : Pl, BAt wr g (i * 6) ps[i] p ∧ ps[i].ops.length ≤ p.oc ∧ Oz wr p.oa ps[i].ops ∧ Oz wr p.ba ps[i].body ∧ (∀ j, Lk p.oa ps[i].ops j → own j = 2 + 2 * i) ∧ ∀ j, Lk p.ba ps[i].body j → own j = 3 + 2 * i
  rest : ∀ (i : Nat) (h : i < ps.length) (h2 : i < pl.length), k ≤ i → BAt wr g (i * 6) ps[i] pl[i]
theorem Cs.next {w wr w' : World} {g : Nat} {ps : List Bk} {pl : List Pl} {own : Nat → Nat} {k : Nat} (h : Cs w wr g ps pl own k) (hb : Below wr.heap.size wr w') : Cs w w' g ps pl own k :=
  ⟨h.b.trans (hb.mono h.b.size), h.gz, Nat.lt_of_lt_of_le h.lt hb.size, fun j => by rw [(bcell hb).2 _ _ h.lt]; exact h.fz j, h.og, fun b q => ⟨(h.old b q).1, Nat.lt_of_lt_of_le (h.old b q).2 hb.size⟩, fun i hi hk => by
    obtain ⟨p, h1, h2, h3, h4, h5⟩ := h.new i hi hk
    exact ⟨p, h1.below hb h.lt, h2, h3.below hb, h4.below hb, h5⟩, fun i hi h2 hk => (h.rest i hi h2 hk).below hb h.lt⟩
theorem bat_set {W : World} {g i k : Nat} {x : Bk} {p : Pl} (h : BAt W g (i * 6) x p) (hik : i ≠ k) (d : Nat) (hd : d < 6) (v : Value) : BAt (W.setCell ⟨g, k * 6 + d, none⟩ v) g (i * 6) x p := by
  have hk : ∀ e u, e < 6 → W.cell? ⟨g, i * 6 + e, none⟩ = some u → (W.setCell ⟨g, k * 6 + d, none⟩ v).cell? ⟨g, i * 6 + e, none⟩ = some u := fun e u he hc => by
    rw [co (by omega)]; exact hc
  exact ⟨hk 0 _ (by omega) h.c0, hk 1 _ (by omega) h.c1, hk 2 _ (by omega) h.c2, hk 3 _ (by omega) h.c3, hk 4 _ (by omega) h.c4, hk 5 _ (by omega) h.c5⟩
theorem oz_set {W : World} {g j : Nat} {a : Option Addr} {xs : List O} (h : Oz W a xs) (hg : ∀ b, Lk a xs b → b ≠ g) (v : Value) : Oz (W.setCell ⟨g, j, none⟩ v) a xs :=
  h.fr (X := One g) ((Fr.refl (One g) W).setCell (.inr rfl) _ _) fun b hb q => hg b hb q
theorem Cs.step {w wr W1 W2 W4 : World} {g : Nat} {ps : List Bk} {pl : List Pl} {own : Nat → Nat} {k : Nat} (h : Cs w wr g ps pl own k) (hk : k < ps.length) (hl : pl.length = ps.length) (hb : Below wr.heap.size wr W1) {r1 r2 : Option Addr} {c1 c2 : Nat} (o1 : Oc W1 W2 r1 c1 ps[k].ops) (o2 : Oc (W2.setCell ⟨g, k * 6, none⟩ (.slice r1 ps[k].ops.length c1)) W4 r2 c2 ps[k].body) :
    ∃ own', Cs w (W4.setCell ⟨g, k * 6 + 3, none⟩ (.slice r2 ps[k].body.length c2)) g ps pl own' (k + 1) := by
  have h2 := (h.next hb).next o1.up
  have hz2 : wr.heap.size ≤ W2.heap.size := Nat.le_trans hb.size o1.up.size
  have hgw := h.lt
  have hg1 := hb.size
  -- the first list is there and its address is stored
  have e1 : ∀ j, Lk r1 ps[k].ops j → wr.heap.size ≤ j ∧ j < W2.heap.size := fun j q => by
    obtain ⟨q0, b, hr, rfl⟩ := q
    obtain ⟨b', hr', hz, ho⟩ := o1.is q0
    rw [hr] at hr'; injection hr' with hr'; injection hr' with hr' _
    subst hr'
    exact ⟨by omega, ho.lt⟩
  have oz1 : Oz W2 r1 ps[k].ops := fun q0 => by
    obtain ⟨b, hr, -, ho⟩ := o1.is q0
    exact ⟨b, hr, ho⟩
  generalize hW3 : W2.setCell ⟨g, k * 6, none⟩ (.slice r1 ps[k].ops.length c1) = W3 at *
  have s3 : W3.heap.size = W2.heap.size := by rw [← hW3]; simp
  have e2 : ∀ j, Lk r2 ps[k].body j → W2.heap.size ≤ j ∧ j < W4.heap.size := fun j q => by
    obtain ⟨q0, b, hr, rfl⟩ := q
    obtain ⟨b', hr', hz, ho⟩ := o2.is q0
    rw [hr] at hr'; injection hr' with hr'; injection hr' with hr' _
    subst hr'
    exact ⟨by omega, ho.lt⟩
  have oz2 : Oz W4 r2 ps[k].body := fun q0 => by
    obtain ⟨b, hr, -, ho⟩ := o2.is q0
    exact ⟨b, hr, ho⟩
  have up := o2.up
  have f3 : Fr (One g) W2 W3 := by rw [← hW3]; exact (Fr.refl (One g) W2).setCell (.inr rfl) _ _
  have f5 : Fr (One g) W4 (W4.setCell ⟨g, k * 6 + 3, none⟩ (.slice r2 ps[k].body.length c2)) := (Fr.refl (One g) W4).setCell (.inr rfl) _ _
  have c3 : W3.cell? ⟨g, k * 6, none⟩ = some (.slice r1 ps[k].ops.length c1) := by
    rw [← hW3]
    exact cs (h2.rest k hk (by omega) (Nat.le_refl _)).c0
  have r3 : ∀ (i : Nat) (hi : i < ps.length) (h3 : i < pl.length), k ≤ i → ∀ d u, d < 6 → (i ≠ k ∨ d ≠ 0) → W2.cell? ⟨g, i * 6 + d, none⟩ = some u → W3.cell? ⟨g, i * 6 + d, none⟩ = some u := fun i hi h3 hki d u hd hne hc => by
    rw [← hW3, co (by omega)]; exact hc
  have gW4 : ∀ j, W4.cell? ⟨g, j, none⟩ = W3.cell? ⟨g, j, none⟩ := fun j => (bcell up).1 _ _ (by have := h2.lt; omega)
  have hlt4 : g < W4.heap.size := by have := h2.lt; have := up.size; omega
  refine ⟨fun j => if 0 < ps[k].ops.length ∧ j = blkOf r1 ∧ wr.heap.size ≤ j then 2 + 2 * k else if 0 < ps[k].body.length ∧ j = blkOf r2 ∧ wr.heap.size ≤ j then 3 + 2 * k else own j, ?_⟩
  have hsz4 : W3.heap.size ≤ W4.heap.size := up.size
  have hbw : Below w.heap.size w W3 := by rw [← hW3]; exact h2.b.setCell (Nat.le_trans (Nat.le_add_right _ 2) h.gz) _
  have k1 : ∀ j, Lk r1 ps[k].ops j → (if 0 < ps[k].ops.length ∧ j = blkOf r1 ∧ wr.heap.size ≤ j then 2 + 2 * k else if 0 < ps[k].body.length ∧ j = blkOf r2 ∧ wr.heap.size ≤ j then 3 + 2 * k else own j) = 2 + 2 * k := fun j q => by
    obtain ⟨q1, q2⟩ := lk_blk q
    rw [if_pos ⟨q1, q2, (e1 j q).1⟩]
  have k2 : ∀ j, Lk r2 ps[k].body j → (if 0 < ps[k].ops.length ∧ j = blkOf r1 ∧ wr.heap.size ≤ j then 2 + 2 * k else if 0 < ps[k].body.length ∧ j = blkOf r2 ∧ wr.heap.size ≤ j then 3 + 2 * k else own j) = 3 + 2 * k := fun j q => by
    obtain ⟨q1, q2⟩ := lk_blk q
    have hj := e2 j q
    rw [if_neg, if_pos ⟨q1, q2, by omega⟩]
    rintro ⟨p1, p2, -⟩
    obtain ⟨b, hr, -, ho⟩ := o1.is p1
    have : blkOf r1 = b := by rw [hr]; rfl
    have := ho.lt
    omega
  have k0 : ∀ j, j < wr.heap.size → (if 0 < ps[k].ops.length ∧ j = blkOf r1 ∧ wr.heap.size ≤ j then 2 + 2 * k else if 0 < ps[k].body.length ∧ j = blkOf r2 ∧ wr.heap.size ≤ j then 3 + 2 * k else own j) = own j := fun j hj => by
    rw [if_neg (fun q => by have := q.2.2; omega), if_neg (fun q => by have := q.2.2; omega)]
  refine ⟨(hbw.trans (up.mono hbw.size)).setCell (Nat.le_trans (Nat.le_add_right _ 2) h.gz) _, h.gz, by simpa using hlt4, fun j => ?_, ?_, fun b hb' => ?_, fun i hi hki => ?_, fun i hi h3 hki => ?_⟩
  · rw [World.frozen?_setCell, (bcell up).2 _ _ (by have := h2.lt; omega), ← hW3, World.frozen?_setCell]; exact h2.fz j
  · rw [k0 g hgw]; exact h.og
  · simp only [World.size_setCell]
    by_cases q1 : 0 < ps[k].ops.length ∧ b = blkOf r1 ∧ wr.heap.size ≤ b
    · obtain ⟨p1, p2, p3⟩ := q1
      obtain ⟨b', hr, -, ho⟩ := o1.is p1
      have : blkOf r1 = b' := by rw [hr]; rfl
      have := ho.lt
      have := h.gz
      omega
    · rw [if_neg q1] at hb'
      by_cases q2 : 0 < ps[k].body.length ∧ b = blkOf r2 ∧ wr.heap.size ≤ b
      · obtain ⟨p1, p2, p3⟩ := q2
        obtain ⟨b', hr, -, ho⟩ := o2.is p1
        have : blkOf r2 = b' := by rw [hr]; rfl
        have := ho.lt
        have := h.gz
        omega
      · rw [if_neg q2] at hb'
        have := h.old b hb'
        omega
  · rcases Nat.lt_or_ge i k with hik | hik
    · obtain ⟨p, h1, h2', h3, h4, h5, h6⟩ := h2.new i hi hik
      have hne1 : ∀ b, Lk p.oa ps[i].ops b → b ≠ g ∧ b < wr.heap.size := fun b q => by
        have := h5 b q
        have := h.og
        have := h.old b (by omega)
        exact ⟨fun e => by subst e; omega, this.2⟩
      have hne2 : ∀ b, Lk p.ba ps[i].body b → b ≠ g ∧ b < wr.heap.size := fun b q => by
        have := h6 b q
        have := h.og
        have := h.old b (by omega)
        exact ⟨fun e => by subst e; omega, this.2⟩
      have b3 : BAt W3 g (i * 6) ps[i] p := by rw [← hW3]; exact bat_set h1 (Nat.ne_of_lt hik) 0 (by omega) _
      refine ⟨p, bat_set (b3.below up (by have := h2.lt; omega)) (Nat.ne_of_lt hik) 3 (by omega) _, h2', ?_, ?_, fun j q => by rw [k0 j (hne1 j q).2]; exact h5 j q, fun j q => by rw [k0 j (hne2 j q).2]; exact h6 j q⟩
      · exact oz_set ((h3.fr f3 fun b q e => (hne1 b q).1 e).below up) (fun b q => (hne1 b q).1) _
      · exact oz_set ((h4.fr f3 fun b q e => (hne2 b q).1 e).below up) (fun b q => (hne2 b q).1) _
    · obtain rfl : i = k := by omega
      have hr := h2.rest i hi (by omega) (Nat.le_refl _)
      have hg3 : ∀ b, Lk r1 ps[i].ops b → b ≠ g := fun b q => by have := e1 b q; omega
      have hg4 : ∀ b, Lk r2 ps[i].body b → b ≠ g := fun b q => by have := e2 b q; omega
      refine ⟨⟨r1, c1, r2, c2⟩, ⟨?_, ?_, ?_, ?_, ?_, ?_⟩, o1.cap, oz_set ((oz1.fr f3 fun b q e => hg3 b q e).below up) hg3 _, oz_set oz2 hg4 _, k1, k2⟩
      · rw [co (by omega), gW4]; exact c3
      · rw [co (by omega), gW4]; exact r3 i hi (by omega) (Nat.le_refl _) 1 _ (by omega) (.inr (by omega)) hr.c1
      · rw [co (by omega), gW4]; exact r3 i hi (by omega) (Nat.le_refl _) 2 _ (by omega) (.inr (by omega)) hr.c2
      · refine cs (u := .slice pl[i].ba ps[i].body.length pl[i].bc) ?_
        rw [gW4]; exact r3 i hi (by omega) (Nat.le_refl _) 3 _ (by omega) (.inr (by omega)) hr.c3
      · rw [co (by omega), gW4]; exact r3 i hi (by omega) (Nat.le_refl _) 4 _ (by omega) (.inr (by omega)) hr.c4
      · rw [co (by omega), gW4]; exact r3 i hi (by omega) (Nat.le_refl _) 5 _ (by omega) (.inr (by omega)) hr.c5
  · have hr := h2.rest i hi h3 (by omega)
    have b3 : BAt W3 g (i * 6) ps[i] pl[i] := by rw [← hW3]; exact bat_set hr (by omega) 0 (by omega) _
    exact bat_set (b3.below up (by have := h2.lt; omega)) (by omega) 3 (by omega) _
theorem Cs.pr {w wr : World} {g : Nat} {ps : List Bk} {pl : List Pl} {own : Nat → Nat} (h : Cs w wr g ps pl own ps.length) (hn : ps.length ≤ 128) (hk : ∀ x ∈ ps, x.Ok ∧ (∀ o ∈ x.ops, o.Ok) ∧ (∀ o ∈ x.body, o.Ok) ∧ x.ops.length ≤ 8192 ∧ x.body.length ≤ 8192) : Pr wr w.heap.size own g ps :=
  ⟨fun b q => by have := (h.old b q).1; omega, h.og, h.lt, h.fz, hn, hk, fun i hi => h.new i hi hi⟩
theorem at_fr {W W' : World} {X : Nat → Prop} {b : Nat} {cs : Array Value} (h : Op.At W b cs) (g : Fr X W W') (hx : ¬ X b) : Op.At W' b cs := ⟨fun j v e => (g.cell h.lt hx j).trans (h.c j v e), fun j => (g.frozen h.lt hx j).trans (h.f j), Nat.lt_of_lt_of_le h.lt g.size⟩
theorem Cs.start {w w1 : World} {g : Nat} {ps : List Bk} {pl : List Pl} (hb : Below w.heap.size w w1) (hg : w.heap.size + 2 ≤ g) (hgl : g < w1.heap.size) (hgf : ∀ j, w1.frozen? ⟨g, j, none⟩ = false) (hgc : ∀ j u, (bcs ps pl)[j]? = some u → w1.cell? ⟨g, j, none⟩ = some u) : Cs w w1 g ps pl (fun j => if j = g then 1 else 0) 0 := by
  refine ⟨hb, hg, hgl, hgf, by simp, fun b q => ?_, fun i hi hk => by omega, fun i hi h2 hk => ?_⟩
  · by_cases e : b = g
    · subst e; exact ⟨hg, hgl⟩
    · simp only [if_neg e] at q; omega
  · obtain ⟨g0, g1, g2, g3, g4, g5⟩ := bcs_get ps pl i hi h2
    exact ⟨hgc _ _ g0, hgc _ _ g1, hgc _ _ g2, hgc _ _ g3, hgc _ _ g4, hgc _ _ g5⟩
theorem Pr.fr {w w' : World} {z g : Nat} {own : Nat → Nat} {qs : List Bk} (h : Pr w z own g qs) {X : Nat → Prop} (hF : Fr X w w') (hX : ∀ j, X j → own j = 0) : Pr w' z own g qs := by
  have hg : ¬ X g := fun q => by have := hX g q; have := h.g1; omega
  refine ⟨h.old, h.g1, Nat.lt_of_lt_of_le h.lt hF.size, fun j => by rw [hF.frozen h.lt hg]; exact h.fz j, h.n, h.ok, fun i hi => ?_⟩
  obtain ⟨p, h1, h2, h3, h4, h5, h6⟩ := h.is i hi
  exact ⟨p, BAt.fr h1 hF h.lt hg, h2, h3.fr hF (fun j q e => by have := h5 j q; have := hX j e; omega), h4.fr hF (fun j q e => by have := h6 j q; have := hX j e; omega), h5, h6⟩
set_option maxHeartbeats 4000000 in
theorem copied_any (ao : Option Addr) (cap : Nat) (ps : List Bk) (w : World) (h : PAt w ao ps) (h0 : 0 < ps.length) (hn : ps.length ≤ 128) (hl : ∀ x ∈ ps, x.ops.length ≤ 8192 ∧ x.body.length ≤ 8192) :
    Calls Tryz.prog 19 #[.agg #[.slice ao ps.length cap]] w fun e w' => ∃ g c own, e = .returned (.agg #[.slice (some ⟨g, 0, none⟩) ps.length c]) ∧ Pr w' w.heap.size own g ps ∧ Below w.heap.size w w' ∧ ∀ b, own b ≠ 0 → w.heap.size ≤ b ∧ b < w'.heap.size := by
  obtain ⟨pb, pf, rfl, hz, hx⟩ := h.is h0
  obtain ⟨pl, hpl, hat⟩ := pls_of hx
  have HA : Hid (∀ (i : Nat) (hi : i < ps.length) (hg : i < pl.length), BAt w pb (pf + i * 6) ps[i] pl[i] ∧ BIn w ps[i] pl[i]) := hat
  have HL : Hid _ := hl
  have HB : Hid (∀ W, Below w.heap.size w W → Calls Tryz.prog 34 #[.slice (some ⟨pb, pf, none⟩) ps.length cap] W fun e w' => ∃ g c, e = .returned (.slice (some ⟨g, 0, none⟩) ps.length c) ∧ W.heap.size ≤ g ∧ g < w'.heap.size ∧ (∀ j, w'.frozen? ⟨g, j, none⟩ = false) ∧ (∀ j u, (bcs ps pl)[j]? = some u → w'.cell? ⟨g, j, none⟩ = some u) ∧ Below W.heap.size W w') := fun W hb => by
    refine (cloneB_some ⟨pb, pf, none⟩ ps.length cap (bcs ps pl) W (by omega) (bcs_len ps pl hpl) (bcs_one ps pl) (bcs_at ps pl pf hpl fun i hi hg => ((hat i hi hg).1.below hb hz))).mono ?_
    rintro e w' ⟨r, c, rfl, h1, h2⟩
    rcases h1.2 with ⟨h3, h4⟩ | ⟨g, cap', cur, h3, h5, _, h6, _⟩
    · omega
    · injection h3 with e1 e2 e3
      subst e1
      refine ⟨g, c, rfl, h5, (h1.lt g rfl).2, fun j => h1.frozenAt j, fun j u hj => ?_, h2⟩
      have := h1.cells (g := g) rfl j u hj
      rw [add_at', Nat.zero_add] at this; exact this
  have H2 : Hid (∀ W, Below (w.heap.size + 2) ((w.alloc (.cells #[.slice (some ⟨pb, pf, none⟩) ps.length cap] 24)).alloc (.cells #[.slice none 0 0] 24)) W → At W (w.heap.size + 1) #[.slice none 0 0] ∧ Below w.heap.size w W) := fun W hb => by
    obtain ⟨a1, a2, hb, -, -⟩ := two_new w #[.slice (some ⟨pb, pf, none⟩) ps.length cap] #[.slice none 0 0] 24 24 (w' := W) (by simpa using hb)
    exact ⟨a2, hb⟩
  have HB0 : Hid (Below w.heap.size w ((w.alloc (.cells #[.slice (some ⟨pb, pf, none⟩) ps.length cap] 24)).alloc (.cells #[.slice none 0 0] 24))) := ((Below.refl _ _).alloc (Nat.le_refl _) _).alloc (by simp) _
  have HZ : Hid (w.heap.size + 2 ≤ ((w.alloc (.cells #[.slice (some ⟨pb, pf, none⟩) ps.length cap] 24)).alloc (.cells #[.slice none 0 0] 24)).heap.size) := by
    have : w.heap.size + 2 ≤ ((w.alloc (.cells #[.slice (some ⟨pb, pf, none⟩) ps.length cap] 24)).alloc (.cells #[.slice none 0 0] 24)).heap.size := by simp
    exact this
  have hni : (ps.length : Int) ≤ 128 := by omega
  have hn0 : (0 : Int) < (ps.length : Int) := by omega
  clear hl hat hx h
  go_enter Tryz.func19, Tryz.ntmps19
  go_wp2_with (first
    | (go_at_call 34; go_loud (refine Calls.mono (HB.out _ HB0.out) ?_; rintro e w1 ⟨g, gc, rfl, hg, hgl, hgf, hgc, hb⟩; have h3 := H2.out w1 (hb.mono HZ.out); have hg2 : w.heap.size + 2 ≤ g := Nat.le_trans HZ.out hg; have HX : Hid (At w1 (w.heap.size + 1) #[.slice none 0 0] ∧ Cs w w1 g ps pl (fun j => if j = g then 1 else 0) 0) := ⟨h3.1, Cs.start h3.2 hg2 hgl hgf hgc⟩; clear h3 hgc hgf hgl hg hb H2 HB HB0 HZ)))
  go_loopw [11] (fun i wr => ∃ (k : Nat) (own : Nat → Nat), k ≤ ps.length ∧ i = .int .i64 k ∧ At wr (w.heap.size + 1) #[.slice none 0 0] ∧ Cs w wr g ps pl own k) (fun i _ => ps.length - (intOf i).toNat)
  case atStart => exact ⟨0, _, by omega, rfl, HX.out⟩
  case round =>
    rename World => wr
    obtain ⟨k, own, hk, rfl, ha, hcs⟩ := hrel
    clear HX
    have HC : Hid _ := hcs
    have HR : Hid _ := ha
    clear ha hcs
    by_cases hlt : k < ps.length
    · have hbat := HC.out.rest k hlt (by omega) (Nat.le_refl _)
      have hin := (HA.out k hlt (by omega)).2
      obtain ⟨l1, l2⟩ := HL.out _ (List.getElem_mem hlt)
      have HC1 : Hid (∀ W, Below w.heap.size w W → Calls Tryz.prog 35 #[.slice pl[k].oa ps[k].ops.length pl[k].oc] W fun e w' => ∃ r c, e = .returned (.slice r ps[k].ops.length c) ∧ Oc W w' r c ps[k].ops) := fun W hb => cloneO_any _ _ _ W (hin.o.below hb) l1
      have HC2 : Hid (∀ W, Below w.heap.size w W → Calls Tryz.prog 35 #[.slice pl[k].ba ps[k].body.length pl[k].bc] W fun e w' => ∃ r c, e = .returned (.slice r ps[k].body.length c) ∧ Oc W w' r c ps[k].body) := fun W hb => cloneO_any _ _ _ W (hin.b.below hb) l2
      have HS : Hid (∀ (W1 W2 W4 : World) (r1 r2 : Option Addr) (c1 c2 : Nat), Below wr.heap.size wr W1 → Oc W1 W2 r1 c1 ps[k].ops → Oc (W2.setCell ⟨g, k * 6, none⟩ (.slice r1 ps[k].ops.length c1)) W4 r2 c2 ps[k].body → At (W4.setCell ⟨g, k * 6 + 3, none⟩ (.slice r2 ps[k].body.length c2)) (w.heap.size + 1) #[.slice none 0 0] ∧ ∃ own', Cs w (W4.setCell ⟨g, k * 6 + 3, none⟩ (.slice r2 ps[k].body.length c2)) g ps pl own' (k + 1)) := fun W1 W2 W4 r1 r2 c1 c2 hb o1 o2 => by
        refine ⟨?_, HC.out.step hlt hpl hb o1 o2⟩
        have hz1 := HR.out.lt
        have h1 := (HR.out.below hb hz1).below o1.up (Nat.lt_of_lt_of_le hz1 hb.size)
        have h2 : At (W2.setCell ⟨g, k * 6, none⟩ (.slice r1 ps[k].ops.length c1)) (w.heap.size + 1) #[.slice none 0 0] := at_fr h1 ((Fr.refl (One g) W2).setCell (.inr rfl) _ _) (fun q => by have q : w.heap.size + 1 = g := q; omega)
        have h3 := h2.below o2.up h2.lt
        exact at_fr h3 ((Fr.refl (One g) W4).setCell (.inr rfl) _ _) (fun q => by have q : w.heap.size + 1 = g := q; omega)
      have HG : Hid (∀ W, Below wr.heap.size wr W → Below w.heap.size w W ∧ Cs w W g ps pl own k) := fun W hb => ⟨HC.out.b.trans (hb.mono HC.out.b.size), HC.out.next hb⟩
      obtain ⟨c0, c1, c2, c3, c4, c5⟩ := hbat
      have hki : (k : Int) < (ps.length : Int) := by omega
      have hk0 : (0 : Int) ≤ (k : Int) := by omega
      have hgw := HC.out.lt
      have hgn : ¬ g = wr.heap.size := by omega
      have hgn' : ¬ wr.heap.size = g := by omega
      have hwg : w.heap.size ≤ g := by have := HC.out.gz; omega
      have hkl : k < pl.length := by omega
      have HF : Hid (∀ W, Cs w W g ps pl own k → BAt W g (k * 6) ps[k] pl[k] ∧ ∀ j, W.frozen? ⟨g, j, none⟩ = false) := fun W h => ⟨h.rest k hlt hkl (Nat.le_refl _), h.fz⟩
      clear hin l1 l2 HR HC
      generalize ps[k] = x at *
      generalize pl[k] = p at *
      obtain ⟨xo, xf, xa, xb, xt, xe⟩ := x
      obtain ⟨oa, oc, ba, bc⟩ := p
      simp only at c0 c1 c2 c3 c4 c5 HC1 HC2 HS HF
      go_wp2_with (first
        | (go_at_call 35; go_loud (refine Calls.mono (HC1.out _ (HG.out _ (below_al _)).1) ?_; rintro e w2 ⟨r1, q1, rfl, o1⟩; have HO1 : Hid (Oc _ w2 r1 q1 xo) := o1; have hcs := (HG.out _ (below_al (.cells #[.slice oa xo.length oc, .int .i8 xf, .int .u8 xa, .slice ba xb.length bc, .int .i64 xt, .int .i64 xe] 49))).2.next o1.up; obtain ⟨hb2, hf2⟩ := HF.out _ hcs; have d0 := hb2.c0; have d3 := hb2.c3; have f0 := hf2 (k * 6); have f3 := hf2 (k * 6 + 3); have a1 := (Op.At.new wr #[.slice oa xo.length oc, .int .i8 xf, .int .u8 xa, .slice ba xb.length bc, .int .i64 xt, .int .i64 xe] 49).below o1.up (by simp); have b3 := a1.c 3 _ rfl; have hgl2 := hcs.lt; have HW : Hid (Below w.heap.size w w2) := hcs.b; clear c0 c1 c2 c3 c4 c5 a1 hcs hb2 hf2 o1 HC1))
        | (go_at_call 35; go_loud (refine Calls.mono (HC2.out _ (HW.out.setCell hwg _)) ?_; rintro e w4 ⟨r2, q2, rfl, o2⟩; have e3 : w4.cell? ⟨g, k * 6 + 3, none⟩ = some (.slice ba xb.length bc) := ((bcell o2.up).1 _ _ (by simpa using hgl2)).trans ((co (by omega)).trans d3); have g3 : w4.frozen? ⟨g, k * 6 + 3, none⟩ = false := ((bcell o2.up).2 _ _ (by simpa using hgl2)).trans ((World.frozen?_setCell _ _ _ _).trans f3); have HX : Hid _ := HS.out _ _ _ r1 r2 q1 q2 (below_al _) HO1.out o2; clear d0 d3 f0 f3 b3 hgl2 HW o2 HC2)))
      go_roundw
      case rel =>
        obtain ⟨ha, own', hc⟩ := HX.out
        exact ⟨k + 1, own', by omega, by go_num, ha, hc⟩
      case measure => simp [intOf]; omega
    · obtain rfl : k = ps.length := by omega
      have a0 := HR.out.c 0 _ rfl
      have z0 := HR.out.f 0
      have HP : Hid (∀ v, Pr (wr.setCell ⟨w.heap.size + 1, 0, none⟩ v) w.heap.size own g ps ∧ Below w.heap.size w (wr.setCell ⟨w.heap.size + 1, 0, none⟩ v) ∧ ∀ b, own b ≠ 0 → w.heap.size ≤ b ∧ b < (wr.setCell ⟨w.heap.size + 1, 0, none⟩ v).heap.size) := fun v => by
        refine ⟨(HC.out.pr hn fun x hx => ?_).fr ((Fr.refl (One (w.heap.size + 1)) wr).setCell (.inr rfl) _ _) (fun j q => ?_), HC.out.b.setCell (Nat.le_succ _) _, fun b q => by have := HC.out.old b q; simp only [World.size_setCell]; omega⟩
        · obtain ⟨i, hi, rfl⟩ := List.getElem_of_mem hx
          have hin := (HA.out i hi (by omega)).2
          obtain ⟨l1, l2⟩ := HL.out _ (List.getElem_mem hi)
          exact ⟨hin.ok, hin.o.ok, hin.b.ok, l1, l2⟩
        · have q : j = w.heap.size + 1 := q
          subst q
          cases e : own (w.heap.size + 1) with
          | zero => rfl
          | succ m => have := (HC.out.old _ (by omega : own (w.heap.size + 1) ≠ 0)).1; omega
      clear HR HC HA HL
      go_wp2_with fail
      refine bodyPost_ret (v := .agg #[.slice (some ⟨g, 0, none⟩) ps.length gc]) (by simp [results, Tryz.results19, go_sem, cs a0]) rfl ⟨g, gc, own, rfl, (HP.out _).1, (HP.out _).2.1, (HP.out _).2.2⟩
end Go.Proofs.YtddcndlogoajkaaGreatDoor.L8.Bt
