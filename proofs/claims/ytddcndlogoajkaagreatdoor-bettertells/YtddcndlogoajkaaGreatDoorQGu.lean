/- A new map and the search over it; what a pair in the map reads as. Conditions: the program lies in memory. -/
import Derived.Test.YtddcndlogoajkaaGreatDoorQVc
import Derived.Laws.EntriesVeiled
import Derived.Carry
namespace Go.Proofs.YtddcndlogoajkaaGreatDoor.L8.Fl
open Go.ChangeShapes Go.WideShapes Go.ChangeAt Go.RowKit Go.Maps
open _root_.Go.Proofs.YtddcndlogoajkaaGreatDoor.L8.So _root_.Go.Proofs.YtddcndlogoajkaaGreatDoor.L8.Ss _root_.Go.Proofs.YtddcndlogoajkaaGreatDoor.L8.Op _root_.Go.Proofs.YtddcndlogoajkaaGreatDoor.L8.Fw
set_option maxRecDepth 20000

theorem countP_less {α : Type} (p q : α → Bool) : ∀ (l : List α), (∀ x ∈ l, q x = true → p x = true) → (∃ a ∈ l, p a = true ∧ q a = false) → l.countP q + 1 ≤ l.countP p
  | [], _, h => by obtain ⟨a, ha, _⟩ := h; simp at ha
  | x :: r, h, hx => by
    have hle : r.countP q ≤ r.countP p := List.countP_mono_left fun y hy => h y (List.mem_cons_of_mem _ hy)
    rw [List.countP_cons, List.countP_cons]
    obtain ⟨a, ha, h1, h2⟩ := hx
    rcases List.mem_cons.1 ha with rfl | ha
    · simp [h1, h2]; omega
    · have ih := countP_less p q r (fun y hy => h y (List.mem_cons_of_mem _ hy)) ⟨a, ha, h1, h2⟩
      have := h x (by simp)
      by_cases c : q x = true
      · simp [c, this c]; omega
      · simp [c]; omega
/-- How many blocks were not yet come to. -/
def unmet (n fr : Nat) (L : List (Nat × Nat)) : Nat := (List.range n).countP fun y => !decide ((fr, y) ∈ L)
theorem unmet_put {n fr y : Nat} {L : List (Nat × Nat)} (hy : y < n) (h : ¬ (fr, y) ∈ L) : unmet n fr (L ++ [(fr, y)]) + 1 ≤ unmet n fr L := by
  unfold unmet
  refine countP_less _ _ _ (fun z _ hz => ?_) ⟨y, List.mem_range.2 hy, by simp [h], by simp⟩
  simp at hz ⊢
  exact hz.1
theorem unmet_le (n fr : Nat) (L : List (Nat × Nat)) : unmet n fr L ≤ n := by
  unfold unmet
  have := List.countP_le_length (p := fun y => !decide ((fr, y) ∈ L)) (l := List.range n)
  simpa using this
theorem unmet_mono {n fr : Nat} {L L' : List (Nat × Nat)} (h : ∀ p ∈ L, p ∈ L') : unmet n fr L' ≤ unmet n fr L := by
  unfold unmet
  refine List.countP_mono_left fun y _ hy => ?_
  simp at hy ⊢
  exact fun g => hy (h _ g)
/-- A search at x: what was met, and what is met now. -/
structure Dfs (ps : List Bk) (fr x : Nat) (L L' : List (Nat × Nat)) (d : Nat → Prop) : Prop where
  ds : Ds (tB ps) ps.length x (fun z => (fr, z) ∈ L) (fun z => (fr, z) ∈ L') d
  cnt : L'.length + unmet ps.length fr L' ≤ L.length + unmet ps.length fr L
  old : ∀ p ∈ L, p ∈ L'
  new : ∀ p ∈ L', p ∈ L ∨ (p.1 = fr ∧ p.2 < ps.length)
theorem Ds.weaken {t : Nat → Nat → Bool} {n x : Nat} {M M' d d' : Nat → Prop} (h : Ds t n x M M' d) (hd : ∀ u, d' u → d u) : Ds t n x M M' d' := ⟨h.sub, h.way, h.cl, fun u hu => h.own u (hd u hu)⟩
theorem Dfs.init (ps : List Bk) (fr x : Nat) (L : List (Nat × Nat)) : Dfs ps fr x L L fun _ => False := ⟨Ds.init _ _ _ _, Nat.le_refl _, fun _ h => h, fun _ h => Or.inl h⟩
theorem Dfs.skip {ps : List Bk} {fr x y : Nat} {L L' : List (Nat × Nat)} {d d' : Nat → Prop} (h : Dfs ps fr x L L' d) (hy : (fr, y) ∈ L') (hd : ∀ u, d' u → d u ∨ u = y) : Dfs ps fr x L L' d' :=
  ⟨Ds.weaken (h.ds.skip hy) hd, h.cnt, h.old, h.new⟩
theorem Dfs.call {ps : List Bk} {fr x y : Nat} {L L' L2 : List (Nat × Nat)} {d d' : Nat → Prop} (h : Dfs ps fr x L L' d) (hy : y < ps.length) (ht : tB ps x y = true) (hn : ¬ (fr, y) ∈ L')
    (g : Dfs ps fr y (L' ++ [(fr, y)]) L2 fun u => u < ps.length ∧ tB ps y u = true) (hd : ∀ u, d' u → d u ∨ u = y) : Dfs ps fr x L L2 d' := by
  refine ⟨Ds.weaken (h.ds.call hy ht ?_) hd, ?_, fun p hp => g.old p (List.mem_append_left _ (h.old p hp)), fun p hp => ?_⟩
  · have := g.ds
    have e : (fun z => (fr, z) ∈ L' ++ [(fr, y)]) = fun z => (fr, z) ∈ L' ∨ z = y := by
      funext z; simp
    rw [e] at this
    exact this
  · have h1 := h.cnt
    have h2 := g.cnt
    have h3 := unmet_put (n := ps.length) hy hn
    simp at h2
    omega
  · rcases g.new p hp with hp | hp
    · rcases List.mem_append.1 hp with hp | hp
      · exact h.new p hp
      · simp at hp; subst hp; exact Or.inr ⟨rfl, hy⟩
    · exact Or.inr hp

/-- The search's boxes: the program, the map, the block that it began at, itself. -/
structure Bx (w0 : World) (bp bm bf bg mb : Nat) (ao : Option Addr) (cap fr : Nat) (ps : List Bk) : Prop where
  p : w0.cell? ⟨bp, 0, none⟩ = some (.slice ao ps.length cap)
  m : w0.cell? ⟨bm, 0, none⟩ = some (.map (some mb))
  f : w0.cell? ⟨bf, 0, none⟩ = some (.int .i64 (fr : Int))
  g : w0.cell? ⟨bg, 0, none⟩ = some (.func (.func 116) #[] #[.pointer (some ⟨bp, 0, none⟩), .pointer (some ⟨bm, 0, none⟩), .pointer (some ⟨bf, 0, none⟩), .pointer (some ⟨bg, 0, none⟩)])
  lp : bp < w0.heap.size ∧ bp ≠ mb
  lm : bm < w0.heap.size ∧ bm ≠ mb
  lf : bf < w0.heap.size ∧ bf ≠ mb
  lg : bg < w0.heap.size ∧ bg ≠ mb
  pat : PAt w0 ao ps
  apart : ∀ b f, ao = some ⟨b, f, none⟩ → b ≠ mb
  lb : mb < w0.heap.size
/-- Under way: all but the map stands. -/
structure Gs (w0 w : World) (mb : Nat) (L : List (Nat × Nat)) : Prop where
  fr : Fr (One mb) w0 w
  m : Mp w mb L
theorem Gs.below {w0 w w' : World} {mb : Nat} {L : List (Nat × Nat)} (h : Gs w0 w mb L) (hb : Below w.heap.size w w') : Gs w0 w' mb L := ⟨h.fr.then hb, h.m.kept hb⟩
theorem Gs.put {w0 w w' : World} {mb : Nat} {L : List (Nat × Nat)} {p : Nat × Nat} (h : Gs w0 w mb L) (hp : p.1 < 1000 ∧ p.2 < 1000) (ho : w'.ownsMap Tryz.prog 164 (unitElem (H := Unit)) mb (L.length + 1) ((setD L).put (kl p) (.agg []))) (hg : w.grownBy w' (some mb)) : Gs w0 w' mb (L ++ [p]) := by
  refine ⟨h.fr.same ⟨hg.os, hg.tape, hg.output, hg.size, fun k hk hx => hg.block k hk fun e => hx (by injection e)⟩, ⟨?_, fun q hq => ?_⟩⟩
  · rw [setD_snoc, List.length_append]; exact ho
  · rcases List.mem_append.1 hq with hq | hq
    · exact h.m.sm q hq
    · simp at hq; subst hq; exact hp
/-- What the search does from one block on. -/
def Goes (w0 : World) (bp bm bf bg mb fr d : Nat) (ps : List Bk) : Prop :=
  ∀ (x : Nat) (L : List (Nat × Nat)) (w : World), x < ps.length → Gs w0 w mb L → unmet ps.length fr L < d → L.length + unmet ps.length fr L ≤ 100000 →
    Calls Tryz.prog 116 #[.int .i64 (x : Int), .pointer (some ⟨bp, 0, none⟩), .pointer (some ⟨bm, 0, none⟩), .pointer (some ⟨bf, 0, none⟩), .pointer (some ⟨bg, 0, none⟩)] w fun e w' => e = .returned (.tuple #[]) ∧ ∃ L', Gs w0 w' mb L' ∧ (Dfs ps fr x L L' fun u => u < ps.length ∧ tB ps x u = true) ∧ Fr (One mb) w w'
end Go.Proofs.YtddcndlogoajkaaGreatDoor.L8.Fl
namespace Go.Proofs.YtddcndlogoajkaaGreatDoor.L8.Fl
open Go.ChangeShapes Go.WideShapes Go.ChangeAt Go.RowKit Go.Maps
open _root_.Go.Proofs.YtddcndlogoajkaaGreatDoor.L8.So _root_.Go.Proofs.YtddcndlogoajkaaGreatDoor.L8.Ss _root_.Go.Proofs.YtddcndlogoajkaaGreatDoor.L8.Op _root_.Go.Proofs.YtddcndlogoajkaaGreatDoor.L8.Fw
set_option maxRecDepth 20000

/-- What of the boxes is seen under way. -/
structure Sees (w : World) (bp bm bf bg mb : Nat) (ao : Option Addr) (cap fr : Nat) (ps : List Bk) : Prop where
  p : w.cell? ⟨bp, 0, none⟩ = some (.slice ao ps.length cap)
  m : w.cell? ⟨bm, 0, none⟩ = some (.map (some mb))
  f : w.cell? ⟨bf, 0, none⟩ = some (.int .i64 (fr : Int))
  g : w.cell? ⟨bg, 0, none⟩ = some (.func (.func 116) #[] #[.pointer (some ⟨bp, 0, none⟩), .pointer (some ⟨bm, 0, none⟩), .pointer (some ⟨bf, 0, none⟩), .pointer (some ⟨bg, 0, none⟩)])
theorem Bx.sees {w0 w : World} {bp bm bf bg mb : Nat} {ao : Option Addr} {cap fr : Nat} {ps : List Bk} (h : Bx w0 bp bm bf bg mb ao cap fr ps) (hF : Fr (One mb) w0 w) : Sees w bp bm bf bg mb ao cap fr ps :=
  ⟨by rw [hF.cell h.lp.1 h.lp.2]; exact h.p, by rw [hF.cell h.lm.1 h.lm.2]; exact h.m, by rw [hF.cell h.lf.1 h.lf.2]; exact h.f, by rw [hF.cell h.lg.1 h.lg.2]; exact h.g⟩
theorem BAt.fr {X : Nat → Prop} {w w' : World} {b f : Nat} {x : Bk} {p : Pl} (h : BAt w b f x p) (hF : Fr X w w') (hb : b < w.heap.size) (hx : ¬ X b) : BAt w' b f x p := by
  exact ⟨by rw [hF.cell hb hx]; exact h.c0, by rw [hF.cell hb hx]; exact h.c1, by rw [hF.cell hb hx]; exact h.c2, by rw [hF.cell hb hx]; exact h.c3, by rw [hF.cell hb hx]; exact h.c4, by rw [hF.cell hb hx]; exact h.c5⟩

set_option maxHeartbeats 4000000 in
theorem goes_any (w0 : World) (bp bm bf bg mb : Nat) (ao : Option Addr) (cap fr : Nat) (ps : List Bk) (hB : Bx w0 bp bm bf bg mb ao cap fr ps) (hG : Good ps) (hfr : fr < 1000) : ∀ d, Goes w0 bp bm bf bg mb fr d ps := by
  intro d
  induction d with
  | zero => intro x L w _ _ h; omega
  | succ d ih =>
    intro x L w hx hS hd hl
    have hle := hG.le
    obtain ⟨b, f, rfl, hlt, hbx⟩ := hB.pat.is hG.pos
    obtain ⟨p, hp, hin⟩ := hbx x hx
    have hbm : b ≠ mb := hB.apart b f rfl
    obtain ⟨sp, sm, sf, sg⟩ := hB.sees hS.fr
    obtain ⟨c0, c1, c2, c3, c4, c5⟩ := BAt.fr hp hS.fr hlt hbm
    obtain ⟨xs, hxs⟩ : ∃ xs, xs = turnL ps[x] := ⟨_, rfl⟩
    have HT : Hid (Calls Tryz.prog 109 #[ps[x].val p] w fun e w2 => ∃ v, e = .returned v ∧ Got w w2 v xs) := by rw [hxs]; exact turns_any ps[x] p w hin.ok
    have hxr : Hid (∀ z ∈ xs, 0 ≤ z ∧ z < ps.length) := fun z hz => hG.turn ps[x] (List.getElem_mem hx) z (by rw [← hxs]; exact hz)
    have hx2 : xs.length ≤ 2 := by rw [hxs]; exact turnL_two _
    have hxt : Hid (∀ y : Nat, tB ps x y = true ↔ (y : Int) ∈ xs) := fun y => by rw [tB_of hx, hxs]; simp
    have HB : Hid (Bx w0 bp bm bf bg mb (some ⟨b, f, none⟩) cap fr ps) := hB
    have HS : Hid (Gs w0 w mb L) := hS
    have HIH : Hid (Goes w0 bp bm bf bg mb fr d ps) := ih
    have hsz : Hid (mb < w.heap.size) := Nat.lt_of_lt_of_le hB.lb hS.fr.size
    clear hG hB hbx hp hin ih hS hxs
    go_enter Tryz.func116, Tryz.ntmps116
    go_wp2_with (first
      | (go_at_call 109; refine Calls.mono HT.out ?_; rintro e w2 ⟨v2, rfl, hG2⟩; obtain ⟨a2, cc, rfl, hI2, hb2⟩ := hG2; have HI2 : Hid (Il w2 w.heap.size a2 xs) := hI2; have HS2 : Hid (Gs w0 w2 mb L) := HS.out.below hb2; have HF2 : Hid (Fr (One mb) w w2) := Fr.of hb2; clear hI2 hb2 HT HS))
    clear c0 c1 c2 c3 c4 c5 sp sm sf sg
    go_loopg [7, 15] 3 (fun g1 v7 vi wr => ∃ (k : Nat) (L' : List (Nat × Nat)), vi = .int .i64 k ∧ k ≤ xs.length ∧ xs.length - k ≤ g1 ∧ Hid (Gs w0 wr mb L' ∧ Il wr w.heap.size a2 xs ∧ (Dfs ps fr x L L' fun u => ∃ j, j < k ∧ xs[j]? = some (u : Int)) ∧ Fr (One mb) w wr))
    case atStart =>
      refine ⟨0, L, rfl, by omega, by omega, HS2.out, HI2.out, ?_, HF2.out⟩
      have h := Dfs.init ps fr x L
      exact ⟨Ds.weaken h.ds fun u hu => by obtain ⟨j, hj, _⟩ := hu; omega, h.cnt, h.old, h.new⟩
    case round =>
      clear HS2 HI2 HF2
      obtain ⟨k, L', rfl, hk, hg1, hS1⟩ := hrel
      by_cases hlk : k < xs.length
      · have hkz : (k : Int) < (xs.length : Int) := by omega
        obtain ⟨q, rfl, hq1, hq2, hqc⟩ := hS1.out.2.1.is (by omega)
        have ck := hqc k hlk
        obtain ⟨z0, z1⟩ := hxr.out xs[k] (List.getElem_mem hlk)
        obtain ⟨y, hy⟩ : ∃ y : Nat, (y : Int) = xs[k] := ⟨xs[k].toNat, by omega⟩
        rw [← hy] at ck z0 z1
        have hyn : y < ps.length := by omega
        have hyt : Hid (tB ps x y = true) := (hxt.out y).2 (by rw [hy]; exact List.getElem_mem hlk)
        have hstep : Hid (∀ u : Nat, (∃ j, j < k + 1 ∧ xs[j]? = some (u : Int)) → (∃ j, j < k ∧ xs[j]? = some (u : Int)) ∨ u = y) := fun u hu => by
          obtain ⟨j, hj, e⟩ := hu
          rcases Nat.lt_or_ge j k with h | h
          · exact Or.inl ⟨j, h, e⟩
          · obtain rfl : j = k := by omega
            rw [List.getElem?_eq_getElem hlk] at e
            injection e with e
            right; omega
        obtain ⟨sp, sm, sf, sg⟩ := HB.out.sees hS1.out.1.fr
        have hmn : y < 1000 := by omega
        have HH : Hid (Calls Tryz.prog 117 #[.map (some mb), .int .i64 (fr : Int), .int .i64 (y : Int)] wr fun e w' => e = .returned (.bool (decide ((fr, y) ∈ L'))) ∧ Below wr.heap.size wr w') := has_any mb fr y L' wr hS1.out.1.m hfr hmn
        have HU : Hid (L'.length + unmet ps.length fr L' ≤ L.length + unmet ps.length fr L) := hS1.out.2.2.1.cnt
        clear hqc hq1 hq2 hy
        by_cases hin : (fr, y) ∈ L'
        · rw [decide_eq_true hin] at HH
          have hD : Hid (Dfs ps fr x L L' fun u => ∃ j, j < k + 1 ∧ xs[j]? = some (u : Int)) := hS1.out.2.2.1.skip hin hstep.out
          clear hin
          go_wp2_with (first
            | (go_at_call 117; refine Calls.mono HH.out ?_; rintro e w3 ⟨rfl, hb3⟩; have HS3 : Hid (Gs w0 w3 mb L' ∧ Il w3 w.heap.size (some ⟨q, 0, none⟩) xs ∧ Fr (One mb) w w3) := ⟨hS1.out.1.below hb3, hS1.out.2.1.below hb3, hS1.out.2.2.2.then hb3⟩; clear hb3 HH hS1 sp sm sf sg ck))
          go_roundg (xs.length - (k + 1))
          case measure => omega
          case rel => exact ⟨k + 1, L', by go_num, by omega, Nat.le_refl _, HS3.out.1, HS3.out.2.1, hD.out, HS3.out.2.2⟩
        · rw [decide_eq_false hin] at HH
          have hP := unmet_put (n := ps.length) hyn hin
          have hll : L'.length < 200000 := by have := HU.out; omega
          have HC : Hid (∀ w4, Gs w0 w4 mb (L' ++ [(fr, y)]) → Calls Tryz.prog 116 #[.int .i64 (y : Int), .pointer (some ⟨bp, 0, none⟩), .pointer (some ⟨bm, 0, none⟩), .pointer (some ⟨bf, 0, none⟩), .pointer (some ⟨bg, 0, none⟩)] w4 fun e w' => e = .returned (.tuple #[]) ∧ ∃ L2, Gs w0 w' mb L2 ∧ (Dfs ps fr x L L2 fun u => ∃ j, j < k + 1 ∧ xs[j]? = some (u : Int)) ∧ Fr (One mb) w4 w') := fun w4 h4 => by
            have h1 := unmet_mono (n := ps.length) (fr := fr) (L := L) (L' := L') hS1.out.2.2.1.old
            refine (HIH.out y (L' ++ [(fr, y)]) w4 hyn h4 (by omega) (by have := HU.out; simp; omega)).mono ?_
            rintro e w' ⟨rfl, L2, hS2, hD2, hF2⟩
            exact ⟨rfl, L2, hS2, hS1.out.2.2.1.call hyn hyt.out hin hD2 hstep.out, hF2⟩
          have HK : Hid _ := key_pair hfr hmn
          clear hin hP
          go_wp2_with (first
            | (go_at_call 117; refine Calls.mono HH.out ?_; rintro e w3 ⟨rfl, hb3⟩; have HS3 : Hid (Gs w0 w3 mb L' ∧ Il w3 w.heap.size (some ⟨q, 0, none⟩) xs ∧ Fr (One mb) w w3) := ⟨hS1.out.1.below hb3, hS1.out.2.1.below hb3, hS1.out.2.2.2.then hb3⟩; clear hb3 HH hS1 sp sm sf sg ck; obtain ⟨sp, sm, sf, sg⟩ := HB.out.sees HS3.out.1.fr)
            | (at_mapUpdate; refine wpList_mapUpdate_own _ rfl _ _ _ 162 rfl 164 148 law52 Tryz.underlying162 _ mb _ _ rfl HS3.out.1.m.own (by unfold maxLen; omega) _ _ _ rfl rfl HK.out (.agg []) [] unitElem_mk ?_; intro w4 hown4 hgr4; have hF4 : Fr (One mb) w3 w4 := ⟨hgr4.os, hgr4.tape, hgr4.output, hgr4.size, fun k hk hx => hgr4.block k hk fun e => hx (by injection e)⟩; have HS4 : Hid (Gs w0 w4 mb (L' ++ [(fr, y)]) ∧ Il w4 w.heap.size (some ⟨q, 0, none⟩) xs ∧ Fr (One mb) w w4) := ⟨HS3.out.1.put ⟨hfr, hmn⟩ hown4 hgr4, HS3.out.2.1.fr hF4 (fun b hb _ e => by (have := hsz.out; have : b = mb := e; omega)), HS3.out.2.2.same hF4⟩; clear hown4 hgr4 hF4 HS3 sp sm sf sg; obtain ⟨sp, sm, sf, sg⟩ := HB.out.sees HS4.out.1.fr)
            | (go_at_call 116; refine Calls.mono (HC.out _ HS4.out.1) ?_; rintro e w5 ⟨rfl, L2, hS5, hD5, hF5⟩; have HS5 : Hid (Gs w0 w5 mb L2 ∧ Il w5 w.heap.size (some ⟨q, 0, none⟩) xs ∧ Fr (One mb) w w5) := ⟨hS5, HS4.out.2.1.fr hF5 (fun b hb _ e => by (have := hsz.out; have : b = mb := e; omega)), HS4.out.2.2.same hF5⟩; have HD5 : Hid (Dfs ps fr x L L2 fun u => ∃ j, j < k + 1 ∧ xs[j]? = some (u : Int)) := hD5; clear hS5 hD5 hF5 HC HS4 sp sm sf sg))
          go_roundg (xs.length - (k + 1))
          case measure => omega
          case rel => exact ⟨k + 1, L2, by go_num, by omega, Nat.le_refl _, HS5.out.1, HS5.out.2.1, HD5.out, HS5.out.2.2⟩
      · have hkz : ¬ (k : Int) < (xs.length : Int) := by omega
        obtain rfl : k = xs.length := by omega
        go_wp2
        go_end0
        refine ⟨rfl, L', hS1.out.1, ?_, hS1.out.2.2.2⟩
        have h := hS1.out.2.2.1
        refine ⟨Ds.weaken h.ds fun u hu => ?_, h.cnt, h.old, h.new⟩
        obtain ⟨j, hj, e⟩ := List.getElem_of_mem ((hxt.out u).1 hu.2)
        exact ⟨j, hj, by rw [List.getElem?_eq_getElem hj, e]⟩
end Go.Proofs.YtddcndlogoajkaaGreatDoor.L8.Fl
namespace Go.Proofs.YtddcndlogoajkaaGreatDoor.L8.Fl
open Go.ChangeShapes Go.WideShapes Go.ChangeAt Go.RowKit Go.Maps
open _root_.Go.Proofs.YtddcndlogoajkaaGreatDoor.L8.So _root_.Go.Proofs.YtddcndlogoajkaaGreatDoor.L8.Ss _root_.Go.Proofs.YtddcndlogoajkaaGreatDoor.L8.Op _root_.Go.Proofs.YtddcndlogoajkaaGreatDoor.L8.Fw
set_option maxRecDepth 20000

/-- What a search from a block leaves. -/
structure Srch (ps : List Bk) (fr : Nat) (L L' : List (Nat × Nat)) : Prop where
  is : ∀ z, (fr, z) ∈ L' ↔ Fw.Way (tB ps) ps.length fr z
  other : ∀ x z, x ≠ fr → ((x, z) ∈ L' ↔ (x, z) ∈ L)
  len : L'.length ≤ L.length + ps.length
/-- A program's box and a map's box, over a map. -/
structure Two (w : World) (bp bm mb : Nat) (ao : Option Addr) (cap : Nat) (ps : List Bk) : Prop where
  p : w.cell? ⟨bp, 0, none⟩ = some (.slice ao ps.length cap)
  m : w.cell? ⟨bm, 0, none⟩ = some (.map (some mb))
  lp : bp < w.heap.size ∧ bp ≠ mb
  lm : bm < w.heap.size ∧ bm ≠ mb
  pat : PAt w ao ps
  apart : ∀ b f, ao = some ⟨b, f, none⟩ → b < mb
theorem OpsAt.fr {B mb : Nat} {w w' : World} {ao : Option Addr} {xs : List O} (h : OpsAt w ao xs) (hF : Fr (One mb) w w') (hb : ∀ b f, ao = some ⟨b, f, none⟩ → b < B) (hB : B ≤ mb) : OpsAt w' ao xs := by
  refine ⟨h.ok, h.len, fun h0 => ?_⟩
  obtain ⟨b, f, e, z, hx⟩ := h.is h0
  have hne : ¬ One mb b := fun e' => by have := hb b f e; have : b = mb := e'; omega
  refine ⟨b, f, e, Nat.lt_of_lt_of_le z hF.size, fun i hi => ?_⟩
  obtain ⟨c0, c1, c2, c3, c4⟩ := hx i hi
  exact ⟨by rw [hF.cell z hne]; exact c0, by rw [hF.cell z hne]; exact c1, by rw [hF.cell z hne]; exact c2, by rw [hF.cell z hne]; exact c3, by rw [hF.cell z hne]; exact c4⟩

set_option maxHeartbeats 2000000 in
theorem search_any (bp bm mb : Nat) (ao : Option Addr) (cap fr : Nat) (ps : List Bk) (L : List (Nat × Nat)) (w : World) (hT : Two w bp bm mb ao cap ps) (hM : Mp w mb L) (hG : Good ps) (hfr : fr < ps.length) (hno : ∀ z, ¬ (fr, z) ∈ L) (hl : L.length ≤ 50000) :
    Calls Tryz.prog 115 #[.int .i64 (fr : Int), .pointer (some ⟨bp, 0, none⟩), .pointer (some ⟨bm, 0, none⟩)] w fun e w' => e = .returned (.tuple #[]) ∧ ∃ L', Mp w' mb L' ∧ Srch ps fr L L' ∧ Fr (One mb) w w' := by
  have hle := hG.le
  obtain ⟨w1, hw1⟩ : ∃ w1, w1 = (w.alloc (.cells #[.int .i64 (fr : Int)] 3)).alloc (.cells #[.func (.func 116) #[] #[.pointer (some ⟨bp, 0, none⟩), .pointer (some ⟨bm, 0, none⟩), .pointer (some ⟨w.heap.size, 0, none⟩), .pointer (some ⟨w.heap.size + 1, 0, none⟩)]] 84) := ⟨_, rfl⟩
  have F0 : Fr Non w w1 := by rw [hw1]; exact ((Fr.refl Non w).alloc _).alloc _
  have hs1 : w1.heap.size = w.heap.size + 2 := by rw [hw1]; simp
  have hmlt := hM.own.lt
  have cf : w1.cell? ⟨w.heap.size, 0, none⟩ = some (.int .i64 (fr : Int)) := by
    rw [hw1]; simp
  have cg : w1.cell? ⟨w.heap.size + 1, 0, none⟩ = some (.func (.func 116) #[] #[.pointer (some ⟨bp, 0, none⟩), .pointer (some ⟨bm, 0, none⟩), .pointer (some ⟨w.heap.size, 0, none⟩), .pointer (some ⟨w.heap.size + 1, 0, none⟩)]) := by
    rw [hw1]
    simp
  have hB : Bx w1 bp bm w.heap.size (w.heap.size + 1) mb ao cap fr ps :=
    ⟨by rw [F0.cell hT.lp.1 id]; exact hT.p, by rw [F0.cell hT.lm.1 id]; exact hT.m, cf, cg, ⟨by have := hT.lp.1; omega, hT.lp.2⟩, ⟨by have := hT.lm.1; omega, hT.lm.2⟩, ⟨by omega, by omega⟩, ⟨by omega, by omega⟩, hT.pat.below F0.non, fun b f e => by have := hT.apart b f e; omega, by omega⟩
  have hS : Gs w1 w1 mb L := ⟨Fr.refl _ _, hM.fr F0 id⟩
  have hu := unmet_le ps.length fr L
  have HG : Hid (Calls Tryz.prog 116 #[.int .i64 (fr : Int), .pointer (some ⟨bp, 0, none⟩), .pointer (some ⟨bm, 0, none⟩), .pointer (some ⟨w.heap.size, 0, none⟩), .pointer (some ⟨w.heap.size + 1, 0, none⟩)] w1 fun e w' => e = .returned (.tuple #[]) ∧ ∃ L', Mp w' mb L' ∧ Srch ps fr L L' ∧ Fr (One mb) w w') := by
    refine (goes_any w1 bp bm w.heap.size (w.heap.size + 1) mb ao cap fr ps hB hG (by omega) (ps.length + 1) fr L w1 hfr hS (by omega) (by omega)).mono ?_
    rintro e w' ⟨rfl, L', hS', hD, hF⟩
    refine ⟨rfl, L', hS'.m, ⟨?_, fun x z hx => ⟨fun h => ?_, fun h => hD.old _ h⟩, by have := hD.cnt; omega⟩, (F0.mono (Y := One mb) fun k hk h => h.elim).same hF⟩
    · have := hD.ds
      have e : (fun z => (fr, z) ∈ L) = fun _ => False := by funext z; simp [hno z]
      rw [e] at this
      exact this.done
    · rcases hD.new _ h with h | h
      · exact h
      · exact absurd h.1 hx
  clear hT hM hG hB hS F0 hs1 hno
  rw [hw1] at cf cg HG
  clear hw1 w1
  go_enter Tryz.func115, Tryz.ntmps115
  go_wp2_with (first | (go_at_call 116; refine Calls.mono HG.out ?_; rintro e w2 ⟨rfl, L', h1, h2, h3⟩; have HX : Hid (Mp w2 mb L' ∧ Srch ps fr L L' ∧ Fr (One mb) w w2) := ⟨h1, h2, h3⟩; clear h1 h2 h3))

  go_end0
  exact ⟨rfl, L', HX.out⟩
end Go.Proofs.YtddcndlogoajkaaGreatDoor.L8.Fl
namespace Go.Proofs.YtddcndlogoajkaaGreatDoor.L8.Fl
open Go.ChangeShapes Go.WideShapes Go.ChangeAt Go.RowKit Go.Maps
open _root_.Go.Proofs.YtddcndlogoajkaaGreatDoor.L8.So _root_.Go.Proofs.YtddcndlogoajkaaGreatDoor.L8.Ss _root_.Go.Proofs.YtddcndlogoajkaaGreatDoor.L8.Op _root_.Go.Proofs.YtddcndlogoajkaaGreatDoor.L8.Fw
set_option maxRecDepth 20000

theorem lits3 {d : Nat} {c : Value} {l : List Lit} (h : Tryz.prog.keyLits (d + 1) 3 [c] = some l) : ∃ x : Int, c = .int .i64 x ∧ (Lit.int .i64 x).wf = true ∧ l = [.int .i64 x] := by
  unfold Program.keyLits at h
  rw [Tryz.underlying3] at h
  cases c <;> simp at h
  rename_i q x
  obtain ⟨⟨rfl, hw⟩, rfl⟩ := h
  exact ⟨x, rfl, hw, rfl⟩
theorem key_inv {v : Value} {l : Lit} (h : keyOf Tryz.prog 164 v = some l) : ∃ x y : Int, v = .agg #[.int .i64 x, .int .i64 y] ∧ (Lit.int .i64 x).wf = true ∧ (Lit.int .i64 y).wf = true ∧ l = .string (keyBytes [.int .i64 x, .int .i64 y]) := by
  unfold keyOf at h
  simp only [arr52.hu] at h
  split at h
  · rename_i hc
    rw [Bool.and_eq_true] at hc
    have hf := hc.2
    cases v <;> simp [Value.formed, arr52.hu] at hf
    rename_i cs
    rw [arr52.size] at hf
    obtain ⟨cl⟩ := cs
    match cl, hf with
    | [c0, c1], _ =>
      obtain ⟨m, hm⟩ := types_pos
      rw [hm] at h
      unfold Program.keyLits at h
      simp only [arr52.hu, Value.cells] at h
      rw [if_pos (by rw [arr52.size]; rfl), show List.range 2 = [0, 1] from rfl, List.mapM_cons, List.mapM_cons, List.mapM_nil] at h
      simp only [bind, Option.bind_eq_some_iff, pure, Option.map_eq_some_iff, Option.some.injEq, arr52.one] at h
      obtain ⟨ls, ⟨xs, ⟨y0, h0, ys, ⟨y1, h1, zs, rfl, rfl⟩, rfl⟩, rfl⟩, rfl⟩ := h
      obtain ⟨x, e0, w0, rfl⟩ := lits3 (d := m) (c := c0) (l := y0) (by simpa using h0)
      obtain ⟨y, e1, w1, rfl⟩ := lits3 (d := m) (c := c1) (l := y1) (by simpa using h1)
      subst e0; subst e1
      exact ⟨x, y, rfl, w0, w1, rfl⟩
  · cases h
theorem key_kl {v : Value} {p : Nat × Nat} (hp : p.1 < 1000 ∧ p.2 < 1000) (h : keyOf Tryz.prog 164 v = some (kl p)) : v = .agg #[.int .i64 (p.1 : Int), .int .i64 (p.2 : Int)] := by
  obtain ⟨x, y, rfl, hx, hy, e⟩ := key_inv h
  unfold kl at e
  injection e with e
  have := keyBytes_inj (l := [.int .i64 (p.1 : Int), .int .i64 (p.2 : Int)]) (l' := [.int .i64 x, .int .i64 y]) ⟨rfl, rfl, trivial⟩
    (fun a ha => by simp at ha; rcases ha with rfl | rfl <;> exact wfS (by omega)) (fun a ha => by simp at ha; rcases ha with rfl | rfl <;> assumption) e
  simp at this
  rw [this.1, this.2]

theorem searcher_any (ao : Option Addr) (cap mb n : Nat) (w : World) :
    Calls Tryz.prog 105 #[.agg #[.slice ao n cap], .map (some mb)] w fun e w' => e = .returned (.func (.func 115) #[] #[.pointer (some ⟨w.heap.size, 0, none⟩), .pointer (some ⟨w.heap.size + 1, 0, none⟩)]) ∧ w' = (w.alloc (.cells #[.slice ao n cap] 24)).alloc (.cells #[.map (some mb)] 162) := by
  go_enter Tryz.func105, Tryz.ntmps105
  go_wp2
  go_ret
  exact ⟨rfl, rfl⟩
/-- A new map, and the boxes over it. -/
theorem two_made {w : World} {ao : Option Addr} {cap : Nat} {ps : List Bk} (hP : PAt w ao ps) (ha : ∀ b f, ao = some ⟨b, f, none⟩ → b < w.heap.size) :
    Two (((w.alloc (.map #[] 0)).alloc (.cells #[.slice ao ps.length cap] 24)).alloc (.cells #[.map (some w.heap.size)] 162)) (w.heap.size + 1) (w.heap.size + 1 + 1) w.heap.size ao cap ps ∧
    Mp (((w.alloc (.map #[] 0)).alloc (.cells #[.slice ao ps.length cap] 24)).alloc (.cells #[.map (some w.heap.size)] 162)) w.heap.size [] := by
  have hb : Below w.heap.size w (((w.alloc (.map #[] 0)).alloc (.cells #[.slice ao ps.length cap] 24)).alloc (.cells #[.map (some w.heap.size)] 162)) := by go_grown
  refine ⟨⟨?_, ?_, ⟨by simp, by omega⟩, ⟨by simp, by omega⟩, hP.below hb, ha⟩, ⟨?_, fun p hp => by simp at hp⟩⟩
  · have e : (w.alloc (.map #[] 0)).heap.size = w.heap.size + 1 := by simp
    have h := ((At.new (w.alloc (.map #[] 0)) #[.slice ao ps.length cap] 24).alloc (.cells #[.map (some w.heap.size)] 162)).c 0 _ rfl
    rw [e] at h
    exact h
  · have e : ((w.alloc (.map #[] 0)).alloc (.cells #[.slice ao ps.length cap] 24)).heap.size = w.heap.size + 1 + 1 := by simp
    have h := (At.new ((w.alloc (.map #[] 0)).alloc (.cells #[.slice ao ps.length cap] 24)) #[.map (some w.heap.size)] 162).c 0 _ rfl
    rw [e] at h
    exact h
  · exact ((World.ownsMap_made w Tryz.prog 164 (unitElem (H := Unit))).alloc _).alloc _
end Go.Proofs.YtddcndlogoajkaaGreatDoor.L8.Fl
