/- The search that goes down first: a closure that calls itself puts the pairs that it comes to into the map. Conditions: the program is one, and lies in memory. -/
import Derived.Test.YtlinekpaffgcjaaDoorMp
namespace Go.Proofs.YtlinekpaffgcjaaDoor.Fl
open Go.ChangeShapes Go.WideShapes Go.ChangeAt Go.RowKit Go.Maps
open _root_.Go.Proofs.YtlinekpaffgcjaaDoor.So _root_.Go.Proofs.YtlinekpaffgcjaaDoor.Ss _root_.Go.Proofs.YtlinekpaffgcjaaDoor.Op _root_.Go.Proofs.YtlinekpaffgcjaaDoor.Fw
set_option maxRecDepth 20000

theorem countP_less {α : Type} (p q : α → Bool) : ∀ (l : List α), (∀ x ∈ l, q x = true → p x = true) → (∃ a ∈ l, p a = true ∧ q a = false) → l.countP q + 1 ≤ l.countP p
  | [], _, h => by obtain ⟨a, ha, _⟩ := h; simp at ha
  | x :: r, h, hx => by
    have hle : r.countP q ≤ r.countP p := List.countP_mono_left fun y hy => h y (List.mem_cons_of_mem _ hy)
    rw [List.countP_cons, List.countP_cons]
    obtain ⟨a, ha, h1, h2⟩ := hx
    rcases List.mem_cons.1 ha with rfl | ha
    · simp [h1, h2]; omega
    · have ih := countP_less p q r (fun y hy => h y (List.mem_cons_of_mem _ hy)) ⟨a, ha, h1, h2⟩
      have := h x (by simp)
      by_cases c : q x = true
      · simp [c, this c]; omega
      · simp [c]; omega
/-- How many blocks were not yet come to. -/
def unmet (n fr : Nat) (L : List (Nat × Nat)) : Nat := (List.range n).countP fun y => !decide ((fr, y) ∈ L)
theorem unmet_put {n fr y : Nat} {L : List (Nat × Nat)} (hy : y < n) (h : ¬ (fr, y) ∈ L) : unmet n fr (L ++ [(fr, y)]) + 1 ≤ unmet n fr L := by
  unfold unmet
  refine countP_less _ _ _ (fun z _ hz => ?_) ⟨y, List.mem_range.2 hy, by simp [h], by simp⟩
  simp at hz ⊢
  exact hz.1
theorem unmet_le (n fr : Nat) (L : List (Nat × Nat)) : unmet n fr L ≤ n := by
  unfold unmet
  have := List.countP_le_length (p := fun y => !decide ((fr, y) ∈ L)) (l := List.range n)
  simpa using this
theorem unmet_mono {n fr : Nat} {L L' : List (Nat × Nat)} (h : ∀ p ∈ L, p ∈ L') : unmet n fr L' ≤ unmet n fr L := by
  unfold unmet
  refine List.countP_mono_left fun y _ hy => ?_
  simp at hy ⊢
  exact fun g => hy (h _ g)
/-- A search at x: what was met, and what is met now. -/
structure Dfs (ps : List Bk) (fr x : Nat) (L L' : List (Nat × Nat)) (d : Nat → Prop) : Prop where
  ds : Ds (tB ps) ps.length x (fun z => (fr, z) ∈ L) (fun z => (fr, z) ∈ L') d
  cnt : L'.length + unmet ps.length fr L' ≤ L.length + unmet ps.length fr L
  old : ∀ p ∈ L, p ∈ L'
  new : ∀ p ∈ L', p ∈ L ∨ (p.1 = fr ∧ p.2 < ps.length)
theorem Ds.weaken {t : Nat → Nat → Bool} {n x : Nat} {M M' d d' : Nat → Prop} (h : Ds t n x M M' d) (hd : ∀ u, d' u → d u) : Ds t n x M M' d' := ⟨h.sub, h.way, h.cl, fun u hu => h.own u (hd u hu)⟩
theorem Dfs.init (ps : List Bk) (fr x : Nat) (L : List (Nat × Nat)) : Dfs ps fr x L L fun _ => False := ⟨Ds.init _ _ _ _, Nat.le_refl _, fun _ h => h, fun _ h => Or.inl h⟩
theorem Dfs.skip {ps : List Bk} {fr x y : Nat} {L L' : List (Nat × Nat)} {d d' : Nat → Prop} (h : Dfs ps fr x L L' d) (hy : (fr, y) ∈ L') (hd : ∀ u, d' u → d u ∨ u = y) : Dfs ps fr x L L' d' :=
  ⟨Ds.weaken (h.ds.skip hy) hd, h.cnt, h.old, h.new⟩
theorem Dfs.call {ps : List Bk} {fr x y : Nat} {L L' L2 : List (Nat × Nat)} {d d' : Nat → Prop} (h : Dfs ps fr x L L' d) (hy : y < ps.length) (ht : tB ps x y = true) (hn : ¬ (fr, y) ∈ L')
    (g : Dfs ps fr y (L' ++ [(fr, y)]) L2 fun u => u < ps.length ∧ tB ps y u = true) (hd : ∀ u, d' u → d u ∨ u = y) : Dfs ps fr x L L2 d' := by
  refine ⟨Ds.weaken (h.ds.call hy ht ?_) hd, ?_, fun p hp => g.old p (List.mem_append_left _ (h.old p hp)), fun p hp => ?_⟩
  · have := g.ds
    have e : (fun z => (fr, z) ∈ L' ++ [(fr, y)]) = fun z => (fr, z) ∈ L' ∨ z = y := by
      funext z; simp
    rw [e] at this
    exact this
  · have h1 := h.cnt
    have h2 := g.cnt
    have h3 := unmet_put (n := ps.length) hy hn
    simp at h2
    omega
  · rcases g.new p hp with hp | hp
    · rcases List.mem_append.1 hp with hp | hp
      · exact h.new p hp
      · simp at hp; subst hp; exact Or.inr ⟨rfl, hy⟩
    · exact Or.inr hp

/-- The search's boxes: the program, the map, the block that it began at, itself. -/
structure Bx (w0 : World) (bp bm bf bg mb : Nat) (ao : Option Addr) (cap fr : Nat) (ps : List Bk) : Prop where
  p : w0.cell? ⟨bp, 0, none⟩ = some (.slice ao ps.length cap)
  m : w0.cell? ⟨bm, 0, none⟩ = some (.map (some mb))
  f : w0.cell? ⟨bf, 0, none⟩ = some (.int .i64 (fr : Int))
  g : w0.cell? ⟨bg, 0, none⟩ = some (.func (.func 59) #[] #[.pointer (some ⟨bp, 0, none⟩), .pointer (some ⟨bm, 0, none⟩), .pointer (some ⟨bf, 0, none⟩), .pointer (some ⟨bg, 0, none⟩)])
  lp : bp < w0.heap.size ∧ bp ≠ mb
  lm : bm < w0.heap.size ∧ bm ≠ mb
  lf : bf < w0.heap.size ∧ bf ≠ mb
  lg : bg < w0.heap.size ∧ bg ≠ mb
  pat : PAt w0 ao ps
  apart : ∀ b f, ao = some ⟨b, f, none⟩ → b ≠ mb
  lb : mb < w0.heap.size
/-- Under way: all but the map stands. -/
structure Gs (w0 w : World) (mb : Nat) (L : List (Nat × Nat)) : Prop where
  fr : Fr (One mb) w0 w
  m : Mp w mb L
theorem Gs.below {w0 w w' : World} {mb : Nat} {L : List (Nat × Nat)} (h : Gs w0 w mb L) (hb : Below w.heap.size w w') : Gs w0 w' mb L := ⟨h.fr.then hb, h.m.kept hb⟩
theorem Gs.put {w0 w w' : World} {mb : Nat} {L : List (Nat × Nat)} {p : Nat × Nat} (h : Gs w0 w mb L) (hp : p.1 < 1000 ∧ p.2 < 1000) (ho : w'.ownsMap Tryd.prog 87 (unitElem (H := Unit)) mb (L.length + 1) ((setD L).put (kl p) (.agg []))) (hg : w.grownBy w' (some mb)) : Gs w0 w' mb (L ++ [p]) := by
  refine ⟨h.fr.same ⟨hg.os, hg.tape, hg.output, hg.size, fun k hk hx => hg.block k hk fun e => hx (by injection e)⟩, ⟨?_, fun q hq => ?_⟩⟩
  · rw [setD_snoc, List.length_append]; exact ho
  · rcases List.mem_append.1 hq with hq | hq
    · exact h.m.sm q hq
    · simp at hq; subst hq; exact hp
/-- What the search does from one block on. -/
def Goes (w0 : World) (bp bm bf bg mb fr d : Nat) (ps : List Bk) : Prop :=
  ∀ (x : Nat) (L : List (Nat × Nat)) (w : World), x < ps.length → Gs w0 w mb L → unmet ps.length fr L < d → L.length + unmet ps.length fr L ≤ 100000 →
    Calls Tryd.prog 59 #[.int .i64 (x : Int), .pointer (some ⟨bp, 0, none⟩), .pointer (some ⟨bm, 0, none⟩), .pointer (some ⟨bf, 0, none⟩), .pointer (some ⟨bg, 0, none⟩)] w fun e w' => e = .returned (.tuple #[]) ∧ ∃ L', Gs w0 w' mb L' ∧ (Dfs ps fr x L L' fun u => u < ps.length ∧ tB ps x u = true) ∧ Fr (One mb) w w'
end Go.Proofs.YtlinekpaffgcjaaDoor.Fl
